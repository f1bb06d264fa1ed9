/- The reference's Check, over this seat's program. -/
import Derived.Test.YtdpadpmhbmimkaaNn
import Derived.Test.YtdpadpmhbmimkaaNo
import Derived.Test.YtdpadpmhbmimkaaNp
import Derived.Test.YtdpadpmhbmimkaaNq
import Derived.Test.YtdpadpmhbmimkaaNr
import Derived.Test.YtdpadpmhbmimkaaNs
import Derived.Test.YtdpadpmhbmimkaaNt
import Derived.Test.YtdpadpmhbmimkaaNv
namespace Go.Proofs.Ytdpadpmhbmimkaa
open Go.ChangeShapes Go.WideShapes Go.ChangeAt Go.RowKit
namespace En
open Ba Re

set_option maxRecDepth 100000 in
set_option maxHeartbeats 1600000 in
theorem rcheck_any (e : Ev) (w : World) :
    Calls Try.prog 16 #[evv e] w fun r w' => r = .returned (.int .i64 (chk e)) ∧ Below w.heap.size w w' := by
  obtain ⟨k, g, c, a, v, m, s, o⟩ := e
  unfold evv evc
  by_cases hk : k < 1 ∨ 13 < k
  · have hc : chk ⟨k, g, c, a, v, m, s, o⟩ = 1 := by unfold chk; rw [if_pos hk]
    rw [hc]
    clear hc
    by_cases h1 : k < 1
    · have d1 : decide (k < 1) = true := decide_eq_true h1
      clear hk
      go_enter Try.func16, Try.ntmps16
      go_wp2_with fail
      go_ret
      exact ⟨rfl, below_alloc _ _⟩
    · have d1 : decide (k < 1) = false := decide_eq_false h1
      have d2 : decide (13 < k) = true := decide_eq_true (by omega)
      clear hk
      go_enter Try.func16, Try.ntmps16
      go_wp2_with fail
      go_ret
      exact ⟨rfl, below_alloc _ _⟩
  · have hk : k = 1 ∨ k = 2 ∨ k = 3 ∨ k = 4 ∨ k = 5 ∨ k = 6 ∨ k = 7 ∨ k = 8 ∨ k = 9 ∨ k = 10 ∨ k = 11 ∨ k = 12 ∨ k = 13 := by omega
    rcases hk with rfl | rfl | rfl | rfl | rfl | rfl | rfl | rfl | rfl | rfl | rfl | rfl | rfl
    · exact rk1 g c a v m s o w
    · exact rk2 g c a v m s o w
    · exact rk3 g c a v m s o w
    · exact rk4 g c a v m s o w
    · exact rk5 g c a v m s o w
    · cases s <;> cases o
      · exact rk6ff g c a v m w
      · exact rk6ft g c a v m w
      · exact rk6tf g c a v m w
      · exact rk6tt g c a v m w
    · exact rk7 g c a v m s o w
    · exact rk8 g c a v m s o w
    · exact rk9 g c a v m s o w
    · exact rk10 g c a v m s o w
    · exact rk11 g c a v m s o w
    · exact rk12 g c a v m s o w
    · exact rk13 g c a v m s o w
end En
end Go.Proofs.Ytdpadpmhbmimkaa
