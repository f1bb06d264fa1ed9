/- Package pick: Copy, and the laws' own draws(), over this seat's program. -/
import Derived.Test.YtabbmfaklekojabPc
import Derived.Deep.RegionWith
namespace Go.Proofs.Ytabbmfaklekojab
open Go.ChangeShapes Go.WideShapes Go.ChangeAt Go.RowKit
namespace Pk
open Ba

set_option maxRecDepth 100000 in
set_option maxHeartbeats 1600000 in
theorem copy_any (C : Nat) (p d : List Int) (w : World) (h : Cur w C p d) (hp : p.length ≤ 1000) (hd : d.length ≤ 1000) :
    Calls Try.prog 19 #[.pointer (some ⟨C, 0, none⟩)] w fun r w' => ∃ D, r = .returned (.pointer (some ⟨D, 0, none⟩)) ∧ w.heap.size ≤ D ∧ Cur w' D p d ∧ Below w.heap.size w w' := by
  obtain ⟨oa, ca, ob, cb, h0, ⟨h1, h2, h4⟩, h5, h6, h8⟩ := h
  have c0 := cell_of h0 0
  have c1 := cell_of h0 1
  simp at c0 c1
  have H := hide h0
  have H1 := hide h1
  have H5 := hide h5
  clear h0 h1 h5 h2 h4 h6 h8
  go_enter Try.func19, Try.ntmps19
  go_wp2_with fail
  go_region_with (first
    | (go_at_call_of 21 oa; refine (fresh_any oa p ca w.drew (H1.out.below (bdrew1 _)) hp).mono ?_; rintro r w1 ⟨o1, e1, rfl, k1, k2, k3, k4⟩; have K2 := hide k2; have K4 := hide k4; have d0 := (k4.cell (World.block_lt_of_cell? w _ c0)).trans c0; have d1 := (k4.cell (World.block_lt_of_cell? w _ c1)).trans c1; clear k2 k4)
    | (go_at_call_of 21 ob; refine (fresh_any ob d cb w.drew (H5.out.below (bdrew1 _)) hd).mono ?_; rintro r w1 ⟨o1, e1, rfl, k1, k2, k3, k4⟩; have K2 := hide k2; have K4 := hide k4; have d0 := (k4.cell (World.block_lt_of_cell? w _ c0)).trans c0; have d1 := (k4.cell (World.block_lt_of_cell? w _ c1)).trans c1; clear k2 k4)
    | (go_at_call_of 21 oa; refine (fresh_any oa p ca _ ((H1.out.below (bdrew1 _)).below K4.out) hp).mono ?_; rintro r w2 ⟨o2, e2, rfl, l1, l2, l3, l4⟩; have L2 := hide l2; have L4 := hide l4; clear l2 l4)
    | (go_at_call_of 21 ob; refine (fresh_any ob d cb _ ((H5.out.below (bdrew1 _)).below K4.out) hd).mono ?_; rintro r w2 ⟨o2, e2, rfl, l1, l2, l3, l4⟩; have L2 := hide l2; have L4 := hide l4; clear l2 l4))
  all_goals
    go_wp2_with fail
    go_ret
    have s1 := K4.out.size
    have s2 := L4.out.size
    have s0 : w.drew.heap.size = w.heap.size := rfl
    refine ⟨w2.heap.size, rfl, by omega, ?_, btr (btr (btr (bdrew1 w) K4.out) L4.out) (below_alloc _ _)⟩
    first
      | exact ⟨o1, e1, o2, e2, heap_new _ _, ⟨(K2.out.below L4.out).below (below_alloc _ _), k1, fun a e => by have := k3 a e; omega⟩, L2.out.below (below_alloc _ _), l1, l3⟩
      | exact ⟨o2, e2, o1, e1, heap_new _ _, ⟨L2.out.below (below_alloc _ _), l1, l3⟩, (K2.out.below L4.out).below (below_alloc _ _), k1, fun a e => by have := k3 a e; omega⟩

set_option maxRecDepth 100000 in
set_option maxHeartbeats 1600000 in
theorem draws_any (w : World) :
    Calls Try.prog 10 #[] w fun r w' => r = .returned (.bool true) ∧ Below w.heap.size w w' := by
  go_enter Try.func10, Try.ntmps10
  go_wp2_with fail
  refine (new_ok none _ [] [5, 7] 0 2 _ (At.nil _ _) (At.lit _ [5, 7] _ _ rfl) (by decide)).mono ?_
  rintro r w1 ⟨C, rfl, hC, cur, b1⟩
  have CU := hide cur
  have B1 := hide (btr (below_alloc _ _) b1)
  have hC' : w.heap.size ≤ C := by have := B1.out.size; simp at hC; omega
  clear cur b1 hC
  go_wp2_with fail
  refine (draw_some C 5 [] [7] 3 _ (by decide) (by decide) CU.out).mono ?_
  rintro r w2 ⟨rfl, cur, k2⟩
  have C2 := hide cur
  have B2 := hide (KB.below B1.out k2 hC')
  clear cur k2
  go_wp2_with fail
  refine (draw_one _ _).mono ?_
  rintro r w3 ⟨rfl, rfl⟩
  go_wp2_with fail
  refine (draw_some C 7 [] [] 4 _ (by decide) (by decide) C2.out).mono ?_
  rintro r w4 ⟨rfl, cur, k4⟩
  have C4 := hide cur
  have B4 := hide (KB.below B2.out k4 hC')
  clear cur k4
  go_wp2_with fail
  refine (draw_none C [] 9 _ (by decide) C4.out).mono ?_
  rintro r w5 ⟨rfl, b5⟩
  have B5 := hide (btr B4.out b5)
  clear b5
  go_wp2_with fail
  go_ret
  exact ⟨rfl, B5.out⟩
end Pk
end Go.Proofs.Ytabbmfaklekojab
