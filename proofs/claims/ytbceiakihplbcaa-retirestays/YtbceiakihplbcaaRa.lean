/- The reference's clock (an array of 256 numbers) in memory: Get, Set, Tick, over this seat's program. -/
import Derived.Test.YtbceiakihplbcaaCt
import Derived.Deep.MidRow
import Derived.Deep.WholeRow
namespace Go.Proofs.Ytbceiakihplbcaa
open Go.ChangeShapes Go.WideShapes Go.ChangeAt Go.RowKit
namespace Ck

/-- the 256 numbers F lie in block b from off on, and may be written -/
def RA (w : World) (b off : Nat) (F : Nat → Int) : Prop := ∀ k, k < 256 → w.cell? ⟨b, off + k, none⟩ = some (.int .i64 (F k)) ∧ w.frozen? ⟨b, off + k, none⟩ = false

/-- a tid's number -/
def rg (F : Nat → Int) (t : Int) : Int := if 0 ≤ t ∧ t < 256 then F t.toNat else 0
theorem rg_out (F : Nat → Int) (t : Int) (h : t < 0 ∨ 256 ≤ t) : rg F t = 0 := by
  have : ¬ (0 ≤ t ∧ t < 256) := by omega
  simp [rg, this]
theorem rg_nat (F : Nat → Int) (k : Nat) (h : k < 256) : rg F (k : Int) = F k := by
  have : 0 ≤ (k : Int) ∧ (k : Int) < 256 := by omega
  simp only [rg, if_pos this, Int.toNat_natCast]

set_option maxHeartbeats 400000 in
theorem rget_any (b off : Nat) (F : Nat → Int) (t : Int) (w : World) (h : RA w b off F) :
    Calls Try.prog 12 #[.pointer (some ⟨b, off, none⟩), .int .i64 t] w fun r w' => r = .returned (.int .i64 (rg F t)) ∧ w' = w := by
  by_cases h0 : t < 0
  · rw [rg_out F t (.inl h0)]
    clear h
    go_enter Try.func12, Try.ntmps12
    go_wp2
    go_ret
    exact ⟨rfl, rfl⟩
  by_cases h1 : 256 ≤ t
  · rw [rg_out F t (.inr h1)]
    clear h
    go_enter Try.func12, Try.ntmps12
    go_wp2
    go_ret
    exact ⟨rfl, rfl⟩
  obtain ⟨k, rfl⟩ := Int.eq_ofNat_of_zero_le (by omega : 0 ≤ t)
  have hk : k < 256 := by omega
  rw [rg_nat F k hk]
  have hc := (h k hk).1
  clear h h0 h1
  go_enter Try.func12, Try.ntmps12
  go_wp2
  go_ret
  exact ⟨rfl, rfl⟩

end Ck
end Go.Proofs.Ytbceiakihplbcaa
