/- What a select's reading is, number by number. -/
import Derived.Test.YtabbmfaklekojaaDt
namespace Go.Proofs.Ytabbmfaklekojaa
open Go.ChangeShapes Go.WideShapes Go.ChangeAt Go.RowKit
namespace De
open Ba Re

theorem rux_n {m : Int} {s : ByteArray} {z : Nat} (hm : 0 ≤ m) (h : tk ((nbs s).drop z) = none) : rup m (s.extract z s.size) false = (0, bs [], true) := by
  have : decide (m < 0) = false := by simp; omega
  simp only [rup, rx_n h, this, cond_false]
theorem rux_b {m : Int} {s : ByteArray} {z n k : Nat} (h : tk ((nbs s).drop z) = some (n, k)) (hb : m < (n : Int)) : (rup m (s.extract z s.size) false).2.2 = true := by
  have : decide (m < (n : Int)) = true := by simpa using hb
  simp only [rup, rx_s h, this, cond_true]
theorem rux_s {m : Int} {s : ByteArray} {z n k : Nat} (h : tk ((nbs s).drop z) = some (n, k)) (hb : (n : Int) ≤ m) : rup m (s.extract z s.size) false = ((n : Int), s.extract (z + k) s.size, false) := by
  have : decide (m < (n : Int)) = false := by simp; omega
  simp only [rup, rx_s h, this, cond_false]
theorem rc_t (s : ByteArray) : (rc s true).2.2 = true := by simp only [rc, rup_t, rnum_t]
theorem rcs_t (s : ByteArray) (f : Bool) (i : Nat) (h : (rcs s f i).2.2 = true) : ∀ j, (rcs s f (i + j)).2.2 = true := by
  intro j
  induction j with
  | zero => exact h
  | succ j ih =>
    rw [← Nat.add_assoc, rcs]
    simp only [ih]
    exact rc_t _
theorem rcs_f (s : ByteArray) (j : Nat) : (rcs s true j).2.2 = true := by
  have := rcs_t s true 0 rfl j
  rwa [Nat.zero_add] at this
theorem rop_6d {s : ByteArray} {k : Nat} (h : tk (nbs s) = some (6, k)) (hd : (rup 1 (s.extract k s.size) false).2.2 = true) : (rop s false).2.2 = true := by
  unfold rop
  rw [rnum_s h]
  simp only [show nf ((6 : Nat) : Int) = 0 from rfl, rf, show (((6 : Nat) : Int) == 6) = true from rfl, cond_true, hd, rup_t]
  exact rcs_f _ _
theorem rop_6c {s : ByteArray} {k dv q : Nat} (h : tk (nbs s) = some (6, k)) (hd : rup 1 (s.extract k s.size) false = ((dv : Int), s.extract (k + q) s.size, false)) (hc : (rup 4 (s.extract (k + q) s.size) false).2.2 = true) : (rop s false).2.2 = true := by
  unfold rop
  rw [rnum_s h]
  simp only [show nf ((6 : Nat) : Int) = 0 from rfl, rf, show (((6 : Nat) : Int) == 6) = true from rfl, cond_true, hd, hc]
  exact rcs_f _ _
theorem rop_6 {s : ByteArray} {k dv q m t : Nat} (h : tk (nbs s) = some (6, k)) (hd : rup 1 (s.extract k s.size) false = ((dv : Int), s.extract (k + q) s.size, false)) (hc : rup 4 (s.extract (k + q) s.size) false = ((m : Int), s.extract (k + q + t) s.size, false)) : rop s false = (⟨6, 0, 0, (rcs (s.extract (k + q + t) s.size) false m).1, (dv : Int) == 1⟩, (rcs (s.extract (k + q + t) s.size) false m).2) := by
  unfold rop
  rw [rnum_s h]
  simp only [show nf ((6 : Nat) : Int) = 0 from rfl, rf, show (((6 : Nat) : Int) == 6) = true from rfl, cond_true, hd, hc, Int.toNat_natCast]
  rfl
end De
end Go.Proofs.Ytabbmfaklekojaa
