/- Package pick: Of, and the reference's, over this seat's program. -/
import Derived.Test.YtabbmfaklekojabPd
namespace Go.Proofs.Ytabbmfaklekojab
open Go.ChangeShapes Go.WideShapes Go.ChangeAt Go.RowKit
namespace Pk
open Ba

theorem of_neg (p : Int) (oa : Option Addr) (n c : Nat) (w : World) (h : p < 0) :
    Calls Try.prog 16 #[.int .i64 p, .slice oa n c] w fun r w' => r = .returned (.tuple #[.int .i64 0, .int .i64 1]) ∧ w' = w := by
  go_enter Try.func16, Try.ntmps16
  go_wp2_with fail
  go_ret2
  exact ⟨rfl, rfl⟩
theorem of_none (p : Nat) (oa : Option Addr) (c : Nat) (w : World) :
    Calls Try.prog 16 #[.int .i64 (p : Int), .slice oa 0 c] w fun r w' => r = .returned (.tuple #[.int .i64 0, .int .i64 6]) ∧ w' = w := by
  have h : ¬ ((p : Int) < 0) := by omega
  go_enter Try.func16, Try.ntmps16
  go_wp2_with fail
  go_ret2
  exact ⟨rfl, rfl⟩
theorem of_ok (p : Nat) (oa : Option Addr) (l : List Int) (c : Nat) (w : World) (hA : At w oa l) (h0 : 0 < l.length) (hm : l.length ≤ maxLen) :
    Calls Try.prog 16 #[.int .i64 (p : Int), .slice oa l.length c] w fun r w' => r = .returned (.tuple #[.int .i64 (nth l (p % l.length)), .int .i64 0]) ∧ w' = w := by
  have hlt := Nat.mod_lt p h0
  obtain ⟨b, off, rfl, hc⟩ := hA _ hlt
  unfold maxLen at hm
  have h : ¬ ((p : Int) < 0) := by omega
  have h1 : ((l.length : Int) == 0) = false := by rw [beq_eq_false_iff_ne]; omega
  have h2 : (0 : Int) < (l.length : Int) := by omega
  have h3 : ((p : Int) % (l.length : Int)) = ((p % l.length : Nat) : Int) := by simp
  have h4 : ((p : Int).tmod (l.length : Int)) = ((p % l.length : Nat) : Int) := by rw [Int.tmod_eq_emod_of_nonneg (by omega), h3]
  have hlt' : ((p % l.length : Nat) : Int) < (l.length : Int) := by omega
  generalize p % l.length = q at *
  clear hA
  go_enter Try.func16, Try.ntmps16
  go_wp2_with fail
  go_ret2
  exact ⟨rfl, rfl⟩
theorem rof_neg (p : Int) (oa : Option Addr) (n c : Nat) (w : World) (h : p < 0) :
    Calls Try.prog 17 #[.int .i64 p, .slice oa n c] w fun r w' => r = .returned (.tuple #[.int .i64 0, .int .i64 1]) ∧ w' = w := by
  go_enter Try.func17, Try.ntmps17
  go_wp2_with fail
  go_ret2
  exact ⟨rfl, rfl⟩
theorem rof_none (p : Nat) (oa : Option Addr) (c : Nat) (w : World) :
    Calls Try.prog 17 #[.int .i64 (p : Int), .slice oa 0 c] w fun r w' => r = .returned (.tuple #[.int .i64 0, .int .i64 6]) ∧ w' = w := by
  have h : ¬ ((p : Int) < 0) := by omega
  go_enter Try.func17, Try.ntmps17
  go_wp2_with fail
  go_ret2
  exact ⟨rfl, rfl⟩
theorem rof_ok (p : Nat) (oa : Option Addr) (l : List Int) (c : Nat) (w : World) (hA : At w oa l) (h0 : 0 < l.length) (hm : l.length ≤ maxLen) :
    Calls Try.prog 17 #[.int .i64 (p : Int), .slice oa l.length c] w fun r w' => r = .returned (.tuple #[.int .i64 (nth l (p % l.length)), .int .i64 0]) ∧ w' = w := by
  have hlt := Nat.mod_lt p h0
  obtain ⟨b, off, rfl, hc⟩ := hA _ hlt
  unfold maxLen at hm
  have h : ¬ ((p : Int) < 0) := by omega
  have h1 : ((l.length : Int) == 0) = false := by rw [beq_eq_false_iff_ne]; omega
  have h2 : (0 : Int) < (l.length : Int) := by omega
  have h3 : ((p : Int) % (l.length : Int)) = ((p % l.length : Nat) : Int) := by simp
  have h4 : ((p : Int).tmod (l.length : Int)) = ((p % l.length : Nat) : Int) := by rw [Int.tmod_eq_emod_of_nonneg (by omega), h3]
  have hlt' : ((p % l.length : Nat) : Int) < (l.length : Int) := by omega
  generalize p % l.length = q at *
  clear hA
  go_enter Try.func17, Try.ntmps17
  go_wp2_with fail
  go_ret2
  exact ⟨rfl, rfl⟩
end Pk
end Go.Proofs.Ytabbmfaklekojab
