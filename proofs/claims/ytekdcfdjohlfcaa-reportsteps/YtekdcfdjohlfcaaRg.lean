/- What any 64 bits are, in one contract for the laws' read(), and Plain of it, over this seat's program. -/
import Derived.Test.YtekdcfdjohlfcaaRf
namespace Go.Proofs.Ytekdcfdjohlfcaa
open Go.ChangeShapes Go.WideShapes Go.ChangeAt Go.RowKit
namespace Ep

def rdN (e : Int) : Bool := decide (e = 0)
def rdT (e : Int) : Bool := decide (e = 18446744073709551615)
def rdt (e : Int) : Int := bif ownB e then e / 4294967296 - 1 else 0
def rdc (e : Int) : Int := bif ownB e then e % 4294967296 else 0
def rdk (e : Int) : Bool := ownB e || rdN e || rdT e

theorem rd_none : rdN 0 = true ∧ rdT 0 = false ∧ rdt 0 = 0 ∧ rdc 0 = 0 ∧ rdk 0 = true := by decide
theorem rd_tail : rdN 18446744073709551615 = false ∧ rdT 18446744073709551615 = true ∧ rdt 18446744073709551615 = 0 ∧ rdc 18446744073709551615 = 0 ∧ rdk 18446744073709551615 = true := by decide
theorem rd_own (e : Int) (h : ownB e = true) : rdN e = false ∧ rdT e = false ∧ rdt e = e / 4294967296 - 1 ∧ rdc e = e % 4294967296 ∧ rdk e = true := by
  have hb := own_bd e h
  refine ⟨?_, ?_, ?_, ?_, ?_⟩
  · simp [rdN]; omega
  · simp [rdT]; omega
  · simp [rdt, h]
  · simp [rdc, h]
  · simp [rdk, h]
theorem rd_bad (e : Int) (h : ownB e = false) (hn : ¬ e = 0) (ht : ¬ e = 18446744073709551615) : rdN e = false ∧ rdT e = false ∧ rdt e = 0 ∧ rdc e = 0 ∧ rdk e = false := by
  refine ⟨?_, ?_, ?_, ?_, ?_⟩
  · simp [rdN]; omega
  · simp [rdT]; omega
  · simp [rdt, h]
  · simp [rdc, h]
  · simp [rdk, h, rdN, rdT]; omega

theorem plain_rd (e : Int) : (rdk e && !rdN e && !rdT e) = ownB e := by
  by_cases hn : e = 0
  · subst hn; decide
  by_cases ht : e = 18446744073709551615
  · subst ht; decide
  cases ho : ownB e
  · obtain ⟨e1, e2, e3, e4, e5⟩ := rd_bad e ho hn ht
    rw [e1, e2, e5]; rfl
  · obtain ⟨e1, e2, e3, e4, e5⟩ := rd_own e ho
    rw [e1, e2, e5]; rfl

set_option maxHeartbeats 800000 in
theorem plain_any (n t ok : Bool) (x y : Int) (w : World) :
    Calls Try.prog 56 #[.agg #[.bool n, .bool t, .int .i64 x, .int .i64 y], .bool ok] w fun r w' => r = .returned (.bool (ok && !n && !t)) ∧ w' = w.alloc (.cells #[.bool n, .bool t, .int .i64 x, .int .i64 y] 127) := by
  cases ok <;> cases n <;> cases t
  all_goals
    go_enter Try.func56, Try.ntmps56
    go_wp2
    go_ret
    exact ⟨rfl, rfl⟩

theorem plain_e (e : Int) (w : World) :
    Calls Try.prog 56 #[.agg #[.bool (rdN e), .bool (rdT e), .int .i64 (rdt e), .int .i64 (rdc e)], .bool (rdk e)] w fun r w' => r = .returned (.bool (ownB e)) ∧ w' = w.alloc (.cells #[.bool (rdN e), .bool (rdT e), .int .i64 (rdt e), .int .i64 (rdc e)] 127) := by
  have h := plain_any (rdN e) (rdT e) (rdk e) (rdt e) (rdc e) w
  rw [plain_rd] at h
  exact h

end Ep
end Go.Proofs.Ytekdcfdjohlfcaa
