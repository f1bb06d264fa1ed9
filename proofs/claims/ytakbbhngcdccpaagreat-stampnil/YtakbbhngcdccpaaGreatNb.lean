/- Package entry: spans, over this seat's program. -/
import Derived.Test.YtakbbhngcdccpaaGreatNa
import Derived.Deep.RegionHeld3
namespace Go.Proofs.YtakbbhngcdccpaaGreat
open Go.ChangeShapes Go.WideShapes Go.ChangeAt Go.RowKit
namespace En
open Ba Re

def spn (e : Ev) : List Int :=
  if e.k = 1 then [0, 511, -1, -1, -1, -1, 0, 7, 0, 511]
  else if e.k = 2 then [0, 511, 0, 511, -1, -1, 0, 4, -1, -1]
  else if e.k = 3 ∨ e.k = 4 ∨ e.k = 7 then [0, 511, 0, 511, -1, 3, 0, vm e, ml e, mh e]
  else if e.k = 5 then [0, 511, 0, 511, -1, -1, -1, -1, -1, -1]
  else if e.k = 6 then if (e.a != -1) = true then [0, 511, -1, -1, -1, 4, 0, vm e, -1, -1] else [0, 511, -1, 511, -1, 4, 0, vm e, -1, -1]
  else if e.k = 9 ∨ e.k = 10 then [0, 511, -1, -1, -1, -1, 0, 7, -1, -1]
  else if e.k = 13 then [-1, -1, -1, -1, -1, -1, -1, -1, -1, -1]
  else [0, 511, -1, -1, -1, -1, -1, -1, -1, -1]
theorem size_a10 : (Tryz.prog.info? 138).map (·.size) = some 10 := by kernel_rfl
theorem loadVar_a10 {w : World} {b : Nat} {c : Array Value} {t : TypeId} (h : w.heap[b]? = some (.cells c t (0, 0))) (hc : c.size = 10) : (loadVar 138 ⟨b, 0, none⟩).run Tryz.prog w = .ok (.agg c) w :=
  run_loadVar_row w b t _ _ _ _ h Tryz.underlying138 rfl (by rw [size_a10, hc])
theorem in5 (w : World) (a b c d e : Obj) : (((((w.alloc a).alloc b).alloc c).alloc d).alloc e).heap[w.heap.size + 1]? = some b := heap_below (heap_new2 w a b) (btr (btr (below_alloc _ _) (below_alloc _ _)) (below_alloc _ _))
theorem below5 (w : World) (a b c d e : Obj) : Below w.heap.size w (((((w.alloc a).alloc b).alloc c).alloc d).alloc e) := btr (btr (btr (btr (below_alloc _ _) (below_alloc _ _)) (below_alloc _ _)) (below_alloc _ _)) (below_alloc _ _)
set_option maxRecDepth 100000 in
set_option maxHeartbeats 1600000 in
theorem spans1 (e : Ev) (w : World) (hk : e.k = 1) :
    Calls Tryz.prog 98 #[evv e] w fun r w' => r = .returned (.agg (row (spn e))) ∧ Below w.heap.size w w' := by
  have HS : Hid (spn e = [0, 511, -1, -1, -1, -1, 0, 7, 0, 511]) := by show _ = _; unfold spn; simp [hk]
  obtain ⟨k, g, c, a, v, m, s, o⟩ := e
  simp only at hk
  subst hk
  unfold evv evc
  go_enter Tryz.func98, Tryz.ntmps98
  go_wp2_with fail
  go_region
  all_goals
    go_wp2_with fail
    exact bodyPost_ret (results_row1 Tryz.results98 _ _ _ _ rfl (loadVar_a10 (heap_below (in5 _ _ _ _ _ _) (bdrew1 _)) rfl)) rfl ⟨by rw [HS.out]; rfl, btr (below5 _ _ _ _ _ _) (bdrew1 _)⟩
set_option maxRecDepth 100000 in
set_option maxHeartbeats 1600000 in
theorem spans2 (e : Ev) (w : World) (hk : e.k = 2) :
    Calls Tryz.prog 98 #[evv e] w fun r w' => r = .returned (.agg (row (spn e))) ∧ Below w.heap.size w w' := by
  have HS : Hid (spn e = [0, 511, 0, 511, -1, -1, 0, 4, -1, -1]) := by show _ = _; unfold spn; simp [hk]
  obtain ⟨k, g, c, a, v, m, s, o⟩ := e
  simp only at hk
  subst hk
  unfold evv evc
  go_enter Tryz.func98, Tryz.ntmps98
  go_wp2_with fail
  exact bodyPost_ret (results_row1 Tryz.results98 _ _ _ _ rfl (loadVar_a10 (in5 _ _ _ _ _ _) rfl)) rfl ⟨by rw [HS.out]; rfl, below5 _ _ _ _ _ _⟩
set_option maxRecDepth 100000 in
set_option maxHeartbeats 1600000 in
theorem spans5 (e : Ev) (w : World) (hk : e.k = 5) :
    Calls Tryz.prog 98 #[evv e] w fun r w' => r = .returned (.agg (row (spn e))) ∧ Below w.heap.size w w' := by
  have HS : Hid (spn e = [0, 511, 0, 511, -1, -1, -1, -1, -1, -1]) := by show _ = _; unfold spn; simp [hk]
  obtain ⟨k, g, c, a, v, m, s, o⟩ := e
  simp only at hk
  subst hk
  unfold evv evc
  go_enter Tryz.func98, Tryz.ntmps98
  go_wp2_with fail
  exact bodyPost_ret (results_row1 Tryz.results98 _ _ _ _ rfl (loadVar_a10 (in5 _ _ _ _ _ _) rfl)) rfl ⟨by rw [HS.out]; rfl, below5 _ _ _ _ _ _⟩
set_option maxRecDepth 100000 in
set_option maxHeartbeats 1600000 in
theorem spans8 (e : Ev) (w : World) (hk : e.k = 8) :
    Calls Tryz.prog 98 #[evv e] w fun r w' => r = .returned (.agg (row (spn e))) ∧ Below w.heap.size w w' := by
  have HS : Hid (spn e = [0, 511, -1, -1, -1, -1, -1, -1, -1, -1]) := by show _ = _; unfold spn; simp [hk]
  obtain ⟨k, g, c, a, v, m, s, o⟩ := e
  simp only at hk
  subst hk
  unfold evv evc
  go_enter Tryz.func98, Tryz.ntmps98
  go_wp2_with fail
  exact bodyPost_ret (results_row1 Tryz.results98 _ _ _ _ rfl (loadVar_a10 (in5 _ _ _ _ _ _) rfl)) rfl ⟨by rw [HS.out]; rfl, below5 _ _ _ _ _ _⟩
set_option maxRecDepth 100000 in
set_option maxHeartbeats 1600000 in
theorem spans11 (e : Ev) (w : World) (hk : e.k = 11) :
    Calls Tryz.prog 98 #[evv e] w fun r w' => r = .returned (.agg (row (spn e))) ∧ Below w.heap.size w w' := by
  have HS : Hid (spn e = [0, 511, -1, -1, -1, -1, -1, -1, -1, -1]) := by show _ = _; unfold spn; simp [hk]
  obtain ⟨k, g, c, a, v, m, s, o⟩ := e
  simp only at hk
  subst hk
  unfold evv evc
  go_enter Tryz.func98, Tryz.ntmps98
  go_wp2_with fail
  exact bodyPost_ret (results_row1 Tryz.results98 _ _ _ _ rfl (loadVar_a10 (in5 _ _ _ _ _ _) rfl)) rfl ⟨by rw [HS.out]; rfl, below5 _ _ _ _ _ _⟩
set_option maxRecDepth 100000 in
set_option maxHeartbeats 1600000 in
theorem spans12 (e : Ev) (w : World) (hk : e.k = 12) :
    Calls Tryz.prog 98 #[evv e] w fun r w' => r = .returned (.agg (row (spn e))) ∧ Below w.heap.size w w' := by
  have HS : Hid (spn e = [0, 511, -1, -1, -1, -1, -1, -1, -1, -1]) := by show _ = _; unfold spn; simp [hk]
  obtain ⟨k, g, c, a, v, m, s, o⟩ := e
  simp only at hk
  subst hk
  unfold evv evc
  go_enter Tryz.func98, Tryz.ntmps98
  go_wp2_with fail
  exact bodyPost_ret (results_row1 Tryz.results98 _ _ _ _ rfl (loadVar_a10 (in5 _ _ _ _ _ _) rfl)) rfl ⟨by rw [HS.out]; rfl, below5 _ _ _ _ _ _⟩
set_option maxRecDepth 100000 in
set_option maxHeartbeats 1600000 in
theorem spans9 (e : Ev) (w : World) (hk : e.k = 9) :
    Calls Tryz.prog 98 #[evv e] w fun r w' => r = .returned (.agg (row (spn e))) ∧ Below w.heap.size w w' := by
  have HS : Hid (spn e = [0, 511, -1, -1, -1, -1, 0, 7, -1, -1]) := by show _ = _; unfold spn; simp [hk]
  obtain ⟨k, g, c, a, v, m, s, o⟩ := e
  simp only at hk
  subst hk
  unfold evv evc
  go_enter Tryz.func98, Tryz.ntmps98
  go_wp2_with fail
  exact bodyPost_ret (results_row1 Tryz.results98 _ _ _ _ rfl (loadVar_a10 (in5 _ _ _ _ _ _) rfl)) rfl ⟨by rw [HS.out]; rfl, below5 _ _ _ _ _ _⟩
set_option maxRecDepth 100000 in
set_option maxHeartbeats 1600000 in
theorem spans10 (e : Ev) (w : World) (hk : e.k = 10) :
    Calls Tryz.prog 98 #[evv e] w fun r w' => r = .returned (.agg (row (spn e))) ∧ Below w.heap.size w w' := by
  have HS : Hid (spn e = [0, 511, -1, -1, -1, -1, 0, 7, -1, -1]) := by show _ = _; unfold spn; simp [hk]
  obtain ⟨k, g, c, a, v, m, s, o⟩ := e
  simp only at hk
  subst hk
  unfold evv evc
  go_enter Tryz.func98, Tryz.ntmps98
  go_wp2_with fail
  exact bodyPost_ret (results_row1 Tryz.results98 _ _ _ _ rfl (loadVar_a10 (in5 _ _ _ _ _ _) rfl)) rfl ⟨by rw [HS.out]; rfl, below5 _ _ _ _ _ _⟩
set_option maxRecDepth 100000 in
set_option maxHeartbeats 1600000 in
theorem spans13 (e : Ev) (w : World) (hk : e.k = 13) :
    Calls Tryz.prog 98 #[evv e] w fun r w' => r = .returned (.agg (row (spn e))) ∧ Below w.heap.size w w' := by
  have HS : Hid (spn e = [-1, -1, -1, -1, -1, -1, -1, -1, -1, -1]) := by show _ = _; unfold spn; simp [hk]
  obtain ⟨k, g, c, a, v, m, s, o⟩ := e
  simp only at hk
  subst hk
  unfold evv evc
  go_enter Tryz.func98, Tryz.ntmps98
  go_wp2_with fail
  exact bodyPost_ret (results_row1 Tryz.results98 _ _ _ _ rfl (loadVar_a10 (in5 _ _ _ _ _ _) rfl)) rfl ⟨by rw [HS.out]; rfl, below5 _ _ _ _ _ _⟩
end En
end Go.Proofs.YtakbbhngcdccpaaGreat
