/- The reference's Check (kinds 4), over this seat's program. -/
import Derived.Test.YtdpadpmhbmimkaaNm
namespace Go.Proofs.Ytdpadpmhbmimkaa
open Go.ChangeShapes Go.WideShapes Go.ChangeAt Go.RowKit
namespace En
open Ba Re

set_option maxRecDepth 100000 in
set_option maxHeartbeats 12800000 in
theorem rk4 (g c a v m : Int) (s o : Bool) (w : World) :
    Calls Try.prog 16 #[.agg #[.int .i64 4, .int .i64 g, .int .i64 c, .int .i64 a, .int .i64 v, .int .i64 m, .bool s, .bool o]] w fun r w' => r = .returned (.int .i64 (chk ⟨4, g, c, a, v, m, s, o⟩)) ∧ Below w.heap.size w w' := by
  go_enter Try.func16, Try.ntmps16
  go_wp2_with (go_at_call 28; refine (within_any _ _ _ _).mono ?_; rintro r w' ⟨rfl, rfl⟩)
  all_goals
    go_ret
    refine ⟨ret_int ?_, below_alloc _ _⟩
    rw [chk4]
    split <;> first | rfl | (exfalso; simp_all <;> omega)
end En
end Go.Proofs.Ytdpadpmhbmimkaa
