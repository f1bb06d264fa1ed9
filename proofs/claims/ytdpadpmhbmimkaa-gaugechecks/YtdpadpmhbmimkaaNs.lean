/- The reference's Check (kind 6, no Send), over this seat's program. -/
import Derived.Test.YtdpadpmhbmimkaaNm
namespace Go.Proofs.Ytdpadpmhbmimkaa
open Go.ChangeShapes Go.WideShapes Go.ChangeAt Go.RowKit
namespace En
open Ba Re

set_option maxRecDepth 100000 in
set_option maxHeartbeats 12800000 in
theorem rk6ff (g c a v m : Int) (w : World) :
    Calls Try.prog 16 #[.agg #[.int .i64 6, .int .i64 g, .int .i64 c, .int .i64 a, .int .i64 v, .int .i64 m, .bool false, .bool false]] w fun r w' => r = .returned (.int .i64 (chk ⟨6, g, c, a, v, m, false, false⟩)) ∧ Below w.heap.size w w' := by
  go_enter Try.func16, Try.ntmps16
  go_wp2_with (go_at_call 28; refine (within_any _ _ _ _).mono ?_; rintro r w' ⟨rfl, rfl⟩)
  all_goals
    go_ret
    refine ⟨ret_int ?_, below_alloc _ _⟩
    rw [chk6]
    first
      | (refine (if_pos ?_).symm; simp_all; done)
      | (refine (if_pos ?_).symm; simp_all; omega)
      | (refine (if_neg ?_).symm; simp_all; done)
      | (refine (if_neg ?_).symm; simp_all; omega)
      | (split <;> first | rfl | (exfalso; simp_all <;> omega))
set_option maxRecDepth 100000 in
set_option maxHeartbeats 12800000 in
theorem rk6ft (g c a v m : Int) (w : World) :
    Calls Try.prog 16 #[.agg #[.int .i64 6, .int .i64 g, .int .i64 c, .int .i64 a, .int .i64 v, .int .i64 m, .bool false, .bool true]] w fun r w' => r = .returned (.int .i64 (chk ⟨6, g, c, a, v, m, false, true⟩)) ∧ Below w.heap.size w w' := by
  go_enter Try.func16, Try.ntmps16
  go_wp2_with (go_at_call 28; refine (within_any _ _ _ _).mono ?_; rintro r w' ⟨rfl, rfl⟩)
  all_goals
    go_ret
    refine ⟨ret_int ?_, below_alloc _ _⟩
    rw [chk6]
    first
      | (refine (if_pos ?_).symm; simp_all; done)
      | (refine (if_pos ?_).symm; simp_all; omega)
      | (refine (if_neg ?_).symm; simp_all; done)
      | (refine (if_neg ?_).symm; simp_all; omega)
      | (split <;> first | rfl | (exfalso; simp_all <;> omega))
end En
end Go.Proofs.Ytdpadpmhbmimkaa
