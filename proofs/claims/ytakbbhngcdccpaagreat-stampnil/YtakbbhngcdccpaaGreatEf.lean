/- The reference's Take, over this seat's program. -/
import Derived.Test.YtakbbhngcdccpaaGreatEe
namespace Go.Proofs.YtakbbhngcdccpaaGreat
open Go.ChangeShapes Go.WideShapes Go.ChangeAt Go.RowKit
namespace Re
open Ba

theorem dg_snoc (k n : Nat) : dg (k + 1) n = dg k (n / 256) ++ [n % 256] := by
  induction k with
  | zero => simp [dg]
  | succ k ih =>
    rw [show dg (k + 1 + 1) n = n / 256 ^ (k + 1) % 256 :: dg (k + 1) n from rfl, ih, show dg (k + 1) (n / 256) = n / 256 / 256 ^ k % 256 :: dg k (n / 256) from rfl]
    rw [Nat.div_div_eq_div_mul, Nat.pow_succ, Nat.mul_comm]
    rfl
theorem dg_vl (k : Nat) : ∀ D : List Nat, D.length = k → (∀ b ∈ D, b < 256) → dg k (vl D) = D := by
  induction k with
  | zero => intro D h _; rw [List.eq_nil_of_length_eq_zero h]; rfl
  | succ k ih =>
    intro D h hD
    have hk : k < D.length := by omega
    have e : D = D.take k ++ [D[k]] := by
      rw [List.take_append_getElem]
      rw [List.take_of_length_le (by omega)]
    have hb := hD D[k] (List.getElem_mem hk)
    have h2 := ih (D.take k) (by simp; omega) (fun b hb => hD b (List.mem_of_mem_take hb))
    have hv : vl D = 256 * vl (D.take k) + D[k] := by
      have := vl_take D k D[k] (by simp [hk])
      rw [List.take_of_length_le (by omega)] at this
      exact this
    rw [dg_snoc, hv, show (256 * vl (D.take k) + D[k]) / 256 = vl (D.take k) by omega, show (256 * vl (D.take k) + D[k]) % 256 = D[k] by omega, h2, ← e]
/-- a number of k bytes more: whether they are as few as hold it -/
theorem fit_iff (D : List Nat) (k : Nat) (h1 : 1 ≤ k) (hD : D.length = k) (hb : ∀ b ∈ D, b < 256) : szn (vl D) = 1 + k ↔ vl D ≤ 1099511627776 ∧ spl (vl D) = (240 + k) :: D := by
  constructor
  · intro h
    have hn : vl D ≤ 1099511627776 := by
      by_cases q : vl D ≤ 1099511627776
      · exact q
      · rw [szn_hi _ q] at h; omega
    refine ⟨hn, ?_⟩
    rw [szn_lo _ hn] at h
    by_cases q : vl D < 240
    · rw [spl_lo _ q] at h; simp at h; omega
    · rw [spl_hi _ (by omega)] at h ⊢
      rw [List.length_cons, dg_length] at h
      have e : nb (vl D) = k := by omega
      rw [e, dg_vl k D hD hb]
  · rintro ⟨h, e⟩
    rw [szn_lo _ h, e, List.length_cons, hD]
    omega

theorem eq_str (L : List Nat) (t : ByteArray) (x : Bool) (hL : ∀ b ∈ L, b < 256) (h : decide (L = nbs t) = x) : ((bs L).toList == t.toList) = x := by
  subst h
  rw [toList_is, toList_is]
  by_cases e : L = nbs t
  · have : bs L = t := nbs_inj (by rw [nbs_bs L hL, e])
    rw [this, beq_self_eq_true, decide_eq_true e]
  · have : ¬ ((bs L).data.toList = t.data.toList) := fun q => e (by
      have := congrArg (List.map UInt8.toNat) q
      rw [← nbs_bs L hL]
      exact this)
    rw [decide_eq_false e]
    exact beq_eq_false_iff_ne.2 this
theorem two_set {w : World} {b : Nat} {x y : Value} {t : TypeId} (h : w.heap[b]? = some (.cells #[x, y] t (0, 0))) (u v : Value) : ((w.setCell ⟨b, 0, none⟩ u).setCell ⟨b, 1, none⟩ v).heap[b]? = some (.cells #[u, v] t (0, 0)) := by
  rw [Ba.heap_setCell_same (Ba.heap_setCell_same h u) v]
  rfl

end Re
end Go.Proofs.YtakbbhngcdccpaaGreat
