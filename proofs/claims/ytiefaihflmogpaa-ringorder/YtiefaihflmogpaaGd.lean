/- The laws' own two(), over this seat's program. -/
import Derived.Test.YtiefaihflmogpaaGc
namespace Go.Proofs.Ytiefaihflmogpaa
open Go.ChangeShapes Go.WideShapes Go.ChangeAt Go.RowKit
namespace Rn
open Ba

set_option maxRecDepth 100000 in
set_option maxHeartbeats 1600000 in
theorem two_any (w : World) :
    Calls Try.prog 20 #[] w fun r w' => r = .returned (.bool true) ∧ Below w.heap.size w w' := by
  go_enter Try.func20, Try.ntmps20
  go_wp2_with fail
  refine (new_ok 2 _ (by decide)).mono ?_
  rintro r w1 ⟨rfl, g1, b1⟩
  have G1 := hide g1
  have B1 := hide b1
  clear g1 b1
  go_wp2_with fail
  refine (push_ok _ 2 [] 1 _ G1.out (by decide)).mono ?_
  rintro r w2 ⟨rfl, g2, k2⟩
  have G2 := hide g2
  have B2 := hide (KB.below B1.out k2 (Nat.le_refl _))
  clear g2 k2
  go_wp2_with fail
  refine (push_ok _ 2 [1] 2 _ G2.out (by decide)).mono ?_
  rintro r w3 ⟨rfl, g3, k3⟩
  have G3 := hide g3
  have B3 := hide (KB.below B2.out k3 (Nat.le_refl _))
  clear g3 k3
  go_wp2_with fail
  refine (push_full _ 2 [1, 2] 3 _ G3.out rfl).mono ?_
  rintro r w4 ⟨rfl, rfl⟩
  go_wp2_with fail
  refine (turn_any _ 2 [1, 2] 3 _ G3.out).mono ?_
  rintro r w5 ⟨rfl, g5, k5⟩
  have G5 : Hid (Rg w5 w.heap.size 2 [2, 3]) := g5
  have B5 := hide (KB.below B3.out k5 (Nat.le_refl _))
  clear g5 k5
  simp only [show nth [1, 2] 0 = 1 from rfl, show oe [1, 2] = 0 from rfl]
  go_wp2_with fail
  refine (list_any _ 2 [2, 3] _ G5.out).mono ?_
  rintro r w6 ⟨rfl, a6, b6⟩
  have A6 := hide (a6.below (below_alloc w6 (.cells #[.int .i64 2, .int .i64 3] 3)))
  have A7 := hide (At.lit w6 [2, 3] 3 #[.int .i64 2, .int .i64 3] rfl)
  have B7 := hide (btr (btr B5.out b6) (below_alloc w6 (.cells #[.int .i64 2, .int .i64 3] 3)))
  clear a6 b6
  go_wp2_with fail
  refine (ints_is _ _ [2, 3] [2, 3] 2 2 2 2 true rfl rfl rfl _ A6.out A7.out (by decide) (by decide)).mono ?_
  rintro r w8 ⟨rfl, b8⟩
  have B8 := hide (btr B7.out b8)
  clear b8
  go_wp2_with fail
  go_ret
  exact ⟨rfl, B8.out⟩
end Rn
end Go.Proofs.Ytiefaihflmogpaa
