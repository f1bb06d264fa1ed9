/- A list of layer 9's steps among a law's arguments, opened. -/
import Derived.Test.YtapabnakbaoijaaWf
namespace Go.Proofs.Ytapabnakbaoijaa
open Go.ChangeShapes Go.WideShapes Go.ChangeAt Go.RowKit
namespace Pe
open Ba

theorem cells_step : Try.prog.cellsOf 34 = 4 := by kernel_rfl
theorem fields2 : ∃ fs : Array Field, Try.prog.underlying 34 = some (.struct fs) ∧ fs.size = 2 ∧ (∃ f, fs[0]? = some f ∧ f.offset = 0 ∧ f.type = 3) ∧ (∃ f, fs[1]? = some f ∧ f.offset = 1 ∧ f.type = 32) :=
  ⟨_, Try.underlying34, rfl, ⟨_, rfl, rfl, rfl⟩, ⟨_, rfl, rfl, rfl⟩⟩
section
variable {H : Type} {enc : TypeId × Value → H} {w : World}
theorem step_cells (n : Nat) (cs : List Value) (x : DataW H × List MemPlace) (h : DataW.trod enc Try.prog w 0 (fun _ => true) true n 34 cs = some x) : ∃ z : List Int, ∀ j, j < 4 → cs[j]? = some (.int .i64 (nth z j)) := by
  obtain ⟨fs, hu, hsz, field0, field1⟩ := fields2
  obtain ⟨xs, k, _, _, _, hxl, hff⟩ := DataW.trod_struct hu h
  rw [hsz] at hxl
  obtain ⟨f0, g0, o0, t0⟩ := field0
  have h0 := hff 0 f0 g0
  rw [o0, t0, cells_int] at h0
  obtain ⟨f1, g1, o1, t1⟩ := field1
  have h1 := hff 1 f1 g1
  rw [o1, t1, cells_wt] at h1
  rw [List.getElem?_eq_getElem (by omega)] at h0 h1
  obtain ⟨a, ha, _⟩ := DataW.trod_int Try.underlying3 h0
  obtain ⟨z, hz⟩ := wt_cells _ _ _ h1
  refine ⟨a :: z, fun j hj => ?_⟩
  match j, hj with
  | 0, _ => exact one_of ha
  | j + 1, hj =>
    have := hz j (by omega)
    rw [List.getElem?_take_of_lt (by omega), List.getElem?_drop] at this
    rw [show nth (a :: z) (j + 1) = nth z j from rfl, ← this, Nat.add_comm]
theorem steps_open {n : Nat} {oa : Option Addr} {len cap : Nat} {x : DataW H × List MemPlace} (h : DataW.trod enc Try.prog w 0 (fun _ => true) true n 22 [.slice oa len cap] = some x) : ∃ l : List (List Int), l.length = len ∧ RAt w oa 4 l ∧ len ≤ cap ∧ cap ≤ maxLen :=
  recs_open Try.underlying22 (by decide) cells_step step_cells h
end
end Pe
end Go.Proofs.Ytapabnakbaoijaa
