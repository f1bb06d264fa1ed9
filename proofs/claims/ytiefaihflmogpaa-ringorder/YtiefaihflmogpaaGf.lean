/- The steps of layer 7's laws, opened. -/
import Derived.Test.YtiefaihflmogpaaBs
namespace Go.Proofs.Ytiefaihflmogpaa
open Go.ChangeShapes Go.WideShapes Go.ChangeAt Go.RowKit
namespace Rn
open Ba

theorem cells_step : Try.prog.cellsOf 52 = 2 := by kernel_rfl
theorem fields2 : ∃ fs : Array Field, Try.prog.underlying 52 = some (.struct fs) ∧ fs.size = 2 ∧ (∃ f, fs[0]? = some f ∧ f.offset = 0 ∧ f.type = 3) ∧ (∃ f, fs[1]? = some f ∧ f.offset = 1 ∧ f.type = 3) :=
  ⟨_, Try.underlying52, rfl, ⟨_, rfl, rfl, rfl⟩, ⟨_, rfl, rfl, rfl⟩⟩
section
variable {H : Type} {enc : TypeId × Value → H} {w : World}
theorem step_open (n : Nat) (cs : List Value) (x : DataW H × List MemPlace) (h : DataW.trod enc Try.prog w 0 (fun _ => true) true n 52 cs = some x) : ∃ z : List Int, ∀ j, j < 2 → cs[j]? = some (.int .i64 (nth z j)) := by
  obtain ⟨fs, hu, hsz, field0, field1⟩ := fields2
  obtain ⟨xs, k, _, _, _, hxl, hff⟩ := DataW.trod_struct hu h
  rw [hsz] at hxl
  obtain ⟨f0, g0, o0, t0⟩ := field0
  have h0 := hff 0 f0 g0
  rw [o0, t0, cells_int] at h0
  obtain ⟨f1, g1, o1, t1⟩ := field1
  have h1 := hff 1 f1 g1
  rw [o1, t1, cells_int] at h1
  rw [List.getElem?_eq_getElem (by omega)] at h0 h1
  obtain ⟨a, ha, _⟩ := DataW.trod_int Try.underlying3 h0
  obtain ⟨b, hb, _⟩ := DataW.trod_int Try.underlying3 h1
  refine ⟨[a, b], fun j hj => ?_⟩
  match j, hj with
  | 0, _ => exact one_of ha
  | 1, _ => exact one_of hb
theorem steps_open {n : Nat} {oa : Option Addr} {len cap : Nat} {x : DataW H × List MemPlace} (h : DataW.trod enc Try.prog w 0 (fun _ => true) true n 44 [.slice oa len cap] = some x) : ∃ l : List (List Int), l.length = len ∧ RAt w oa 2 l ∧ len ≤ cap ∧ cap ≤ maxLen :=
  recs_open Try.underlying44 (by decide) cells_step step_open h
end
end Rn
end Go.Proofs.Ytiefaihflmogpaa
