/- A waiter among a law's arguments, opened. -/
import Derived.Test.YtapabnakbaoijaaWb
namespace Go.Proofs.Ytapabnakbaoijaa
open Go.ChangeShapes Go.WideShapes Go.ChangeAt Go.RowKit
namespace Pe
open Ba

theorem cells_wt : Try.prog.cellsOf 32 = 3 := by kernel_rfl
theorem fields3 : ∃ fs : Array Field, Try.prog.underlying 32 = some (.struct fs) ∧ fs.size = 3 ∧ (∃ f, fs[0]? = some f ∧ f.offset = 0 ∧ f.type = 3) ∧ (∃ f, fs[1]? = some f ∧ f.offset = 1 ∧ f.type = 3) ∧ (∃ f, fs[2]? = some f ∧ f.offset = 2 ∧ f.type = 3) :=
  ⟨_, Try.underlying32, rfl, ⟨_, rfl, rfl, rfl⟩, ⟨_, rfl, rfl, rfl⟩, ⟨_, rfl, rfl, rfl⟩⟩
section
variable {H : Type} {enc : TypeId × Value → H} {w : World}
theorem wt_cells (n : Nat) (cs : List Value) (x : DataW H × List MemPlace) (h : DataW.trod enc Try.prog w 0 (fun _ => true) true n 32 cs = some x) : ∃ z : List Int, ∀ j, j < 3 → cs[j]? = some (.int .i64 (nth z j)) := by
  obtain ⟨fs, hu, hsz, field0, field1, field2⟩ := fields3
  obtain ⟨xs, k, _, _, _, hxl, hff⟩ := DataW.trod_struct hu h
  rw [hsz] at hxl
  obtain ⟨f0, g0, o0, t0⟩ := field0
  have h0 := hff 0 f0 g0
  rw [o0, t0, cells_int] at h0
  obtain ⟨f1, g1, o1, t1⟩ := field1
  have h1 := hff 1 f1 g1
  rw [o1, t1, cells_int] at h1
  obtain ⟨f2, g2, o2, t2⟩ := field2
  have h2 := hff 2 f2 g2
  rw [o2, t2, cells_int] at h2
  rw [List.getElem?_eq_getElem (by omega)] at h0 h1 h2
  obtain ⟨a, ha, _⟩ := DataW.trod_int Try.underlying3 h0
  obtain ⟨b, hb, _⟩ := DataW.trod_int Try.underlying3 h1
  obtain ⟨c, hc, _⟩ := DataW.trod_int Try.underlying3 h2
  refine ⟨[a, b, c], fun j hj => ?_⟩
  match j, hj with
  | 0, _ => exact one_of ha
  | 1, _ => exact one_of hb
  | 2, _ => exact one_of hc
set_option maxRecDepth 100000 in
theorem wt_open {n : Nat} {v : Value} {x : DataW H × List MemPlace} (h : DataW.trod enc Try.prog w 0 (fun _ => true) true n 32 v.cells.toList = some x) : ∃ y : Wt, v = wv y := by
  obtain ⟨fs, hu, hsz, _⟩ := fields3
  obtain ⟨_, _, _, _, hcl, _⟩ := DataW.trod_struct hu h
  rw [cells_wt] at hcl
  obtain ⟨z, hz⟩ := wt_cells _ _ _ h
  refine ⟨⟨nth z 0, nth z 1, nth z 2⟩, ?_⟩
  have hc : v.cells = #[.int .i64 (nth z 0), .int .i64 (nth z 1), .int .i64 (nth z 2)] := by
    apply Array.toList_inj.1
    have q0 := hz 0 (by decide)
    have q1 := hz 1 (by decide)
    have q2 := hz 2 (by decide)
    generalize v.cells.toList = L at *
    match L, hcl with
    | [y0, y1, y2], _ =>
      simp at q0 q1 q2
      simp [q0, q1, q2]
  cases v with
  | agg cs => unfold wv; rw [← hc]; rfl
  | _ => have := congrArg Array.size hc; simp [Value.cells] at this
end
end Pe
end Go.Proofs.Ytapabnakbaoijaa
