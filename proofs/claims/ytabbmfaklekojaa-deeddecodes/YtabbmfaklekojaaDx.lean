/- The reference's Decode where the number of programs is none, over this seat's program. -/
import Derived.Test.YtabbmfaklekojaaDw
namespace Go.Proofs.Ytabbmfaklekojaa
open Go.ChangeShapes Go.WideShapes Go.ChangeAt Go.RowKit
namespace De
open Ba Re

set_option maxRecDepth 100000 in
set_option maxHeartbeats 3200000 in
theorem rdecode_p (s : ByteArray) (p : Int) (w : World) (hp : okP p = false) :
    Calls Try.prog 10 #[.string s, .int .i64 p] w fun r w' => r = .returned (.tuple #[.agg #[.int .i64 0, .int .i64 0, .int .i64 0, .slice none 0 0, .bool false, .int .i64 0], .int .i64 1]) ∧ Below w.heap.size w w' := by
  have hq : ¬ (1 ≤ p ∧ p ≤ 8) := fun h => by rw [(okP_iff p).2 h] at hp; cases hp
  go_enter Try.func10, Try.ntmps10
  by_cases h1 : p < 1
  · have d1 : decide (p < 1) = true := by simp; omega
    go_wp2_with fail
    exact bodyPost_ret (results_row2 Try.results10 _ _ _ _ _ rfl rfl (loadVar_got (heap_new _ _) rfl)) rfl ⟨rfl, below_alloc _ _⟩
  · have d1 : decide (p < 1) = false := by simp; omega
    have d2 : decide (8 < p) = true := by simp; omega
    go_wp2_with fail
    exact bodyPost_ret (results_row2 Try.results10 _ _ _ _ _ rfl rfl (loadVar_got (heap_new _ _) rfl)) rfl ⟨rfl, below_alloc _ _⟩
end De
end Go.Proofs.Ytabbmfaklekojaa
