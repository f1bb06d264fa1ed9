/- Numbers out of bytes, one behind the other; there and back, plain. -/
import Derived.Test.YtlcaelfkgillmaaEf
namespace Go.Proofs.Ytlcaelfkgillmaa
open Go.ChangeShapes Go.WideShapes Go.ChangeAt Go.RowKit
namespace Re
open Ba

theorem tk_le {L : List Nat} {n k : Nat} (h : tk L = some (n, k)) : 1 ≤ k ∧ k ≤ L.length := by
  cases L with
  | nil => simp [tk] at h
  | cons b t =>
    simp only [tk] at h
    split at h
    · simp at h
      obtain ⟨_, rfl⟩ := h
      simp
    · split at h
      · rename_i q
        simp at h
        obtain ⟨_, rfl⟩ := h
        simp
        omega
      · simp at h
theorem tk_bound {L : List Nat} {n k : Nat} (h : tk L = some (n, k)) : n ≤ 1099511627776 := by
  cases L with
  | nil => simp [tk] at h
  | cons b t =>
    simp only [tk] at h
    split at h
    · simp at h
      obtain ⟨rfl, _⟩ := h
      omega
    · split at h
      · rename_i q
        simp only [Option.some.injEq, Prod.mk.injEq] at h
        obtain ⟨rfl, _⟩ := h
        have := q.2.2.2
        by_cases e : vl (t.take (b - 240)) ≤ 1099511627776
        · exact e
        · rw [szn_hi _ e] at this; omega
      · simp at h
/-- the first i numbers with which bytes begin, and how many bytes they have -/
def tst (L : List Nat) : Nat → Option (List Int × Nat)
  | 0 => some ([], 0)
  | i + 1 => match tst L i with
    | none => none
    | some (xs, o) => match tk (L.drop o) with
      | none => none
      | some (x, k) => some (xs ++ [(x : Int)], o + k)
theorem tst_some {L : List Nat} : ∀ {i : Nat} {xs : List Int} {o : Nat}, tst L i = some (xs, o) → xs.length = i ∧ i ≤ o ∧ o ≤ L.length
  | 0, xs, o, h => by
    simp [tst] at h
    obtain ⟨rfl, rfl⟩ := h
    simp
  | i + 1, xs, o, h => by
    rw [tst] at h
    cases hi : tst L i with
    | none => rw [hi] at h; simp at h
    | some p =>
      obtain ⟨ys, q⟩ := p
      rw [hi] at h
      have ih := tst_some hi
      simp only at h
      cases ht : tk (L.drop q) with
      | none => rw [ht] at h; simp at h
      | some z =>
        obtain ⟨x, k⟩ := z
        rw [ht] at h
        simp at h
        obtain ⟨rfl, rfl⟩ := h
        have := tk_le ht
        simp at this ⊢
        omega
theorem tst_next {L : List Nat} {i o x k : Nat} {xs : List Int} (h : tst L i = some (xs, o)) (ht : tk (L.drop o) = some (x, k)) : tst L (i + 1) = some (xs ++ [(x : Int)], o + k) := by
  rw [tst, h]; simp only [ht]
theorem tst_stop {L : List Nat} {i o : Nat} {xs : List Int} (h : tst L i = some (xs, o)) (ht : tk (L.drop o) = none) : ∀ n, i < n → tst L n = none := by
  intro n
  induction n with
  | zero => intro q; omega
  | succ n ih =>
    intro q
    by_cases e : i = n
    · subst e
      rw [tst, h]; simp only [ht]
    · rw [tst, ih (by omega)]
theorem nbs_sfx (s : ByteArray) (a : Nat) : nbs (s.extract a s.size) = (nbs s).drop a := by
  rw [nbs_extract, ← nbs_length, List.take_length]
theorem sfx_sfx (s : ByteArray) (a b : Nat) : (s.extract a s.size).extract b (s.extract a s.size).size = s.extract (a + b) s.size := by
  apply nbs_inj
  rw [nbs_sfx, nbs_sfx, nbs_sfx, List.drop_drop]

theorem foldl_dg (k n : Nat) : ∀ a, (dg k n).foldl (fun a b => 256 * a + b) a = a * 256 ^ k + n % 256 ^ k := by
  induction k with
  | zero => intro a; simp [dg, Nat.mod_one]
  | succ k ih =>
    intro a
    rw [show dg (k + 1) n = n / 256 ^ k % 256 :: dg k n from rfl, List.foldl_cons, ih, Nat.mod_pow_succ, Nat.pow_succ, Nat.add_mul]
    have e1 : 256 * a * 256 ^ k = a * (256 ^ k * 256) := by rw [Nat.mul_comm 256 a, Nat.mul_assoc, Nat.mul_comm 256]
    have e2 : n / 256 ^ k % 256 * 256 ^ k = 256 ^ k * (n / 256 ^ k % 256) := Nat.mul_comm _ _
    rw [e1, e2]
    omega
theorem vl_dg (k n : Nat) (h : n < 256 ^ k) : vl (dg k n) = n := by
  have := foldl_dg k n 0
  rw [Nat.zero_mul, Nat.zero_add, Nat.mod_eq_of_lt h] at this
  exact this
set_option maxRecDepth 100000 in
theorem nb_holds (n : Nat) (h : n ≤ 1099511627776) : n < 256 ^ nb n := by
  unfold nb
  by_cases h1 : n < 256
  · rw [if_pos h1]; exact h1
  rw [if_neg h1]
  by_cases h2 : n < 65536
  · rw [if_pos h2]; exact h2
  rw [if_neg h2]
  by_cases h3 : n < 16777216
  · rw [if_pos h3]; exact h3
  rw [if_neg h3]
  by_cases h4 : n < 4294967296
  · rw [if_pos h4]; exact h4
  rw [if_neg h4]
  by_cases h5 : n < 1099511627776
  · rw [if_pos h5]; exact h5
  rw [if_neg h5]
  have : 256 ^ 6 = 281474976710656 := rfl
  omega
theorem tk_spl (n : Nat) (R : List Nat) (h : n ≤ 1099511627776) : tk (spl n ++ R) = some (n, (spl n).length) := by
  by_cases h1 : n < 240
  · rw [spl_lo n h1]
    simp [tk, h1]
  · have hz := szn_lo n h
    rw [spl_hi n (by omega)] at hz ⊢
    rw [List.length_cons, dg_length] at hz
    rw [List.length_cons, dg_length, List.cons_append]
    have h2 := nb_le n
    have h3 := nb_pos n
    have e : 240 + nb n - 240 = nb n := by omega
    have et : (dg (nb n) n ++ R).take (nb n) = dg (nb n) n := by
      rw [List.take_append_of_le_length (by rw [dg_length]; exact Nat.le_refl _), List.take_of_length_le (by rw [dg_length]; exact Nat.le_refl _)]
    have ev := vl_dg (nb n) n (nb_holds n h)
    simp only [tk]
    rw [if_neg (by omega), e, et, ev, if_pos ⟨h3, h2, by rw [List.length_append, dg_length]; omega, by omega⟩, Nat.add_comm]
theorem tk_put {L : List Nat} {n k : Nat} (hL : ∀ b ∈ L, b < 256) (h : tk L = some (n, k)) : spl n ++ L.drop k = L := by
  cases L with
  | nil => simp [tk] at h
  | cons b t =>
    simp only [tk] at h
    by_cases h1 : b < 240
    · rw [if_pos h1] at h
      simp at h
      obtain ⟨rfl, rfl⟩ := h
      rw [spl_lo b h1]
      rfl
    · rw [if_neg h1] at h
      split at h
      · rename_i q
        simp only [Option.some.injEq, Prod.mk.injEq] at h
        obtain ⟨rfl, rfl⟩ := h
        have := ((fit_iff (t.take (b - 240)) (b - 240) q.1 (by simp; omega) (fun x hx => hL x (List.mem_cons_of_mem _ (List.mem_of_mem_take hx)))).1 q.2.2.2).2
        rw [this, show 240 + (b - 240) = b by omega, Nat.add_comm 1]
        simp
      · simp at h
theorem tst_bd {L : List Nat} : ∀ {i : Nat} {xs : List Int} {o : Nat}, tst L i = some (xs, o) → ∀ x ∈ xs, 0 ≤ x ∧ x ≤ 1099511627776
  | 0, xs, o, h => by
    simp [tst] at h
    obtain ⟨rfl, rfl⟩ := h
    intro x hx
    simp at hx
  | i + 1, xs, o, h => by
    cases h1 : tst L i with
    | none => simp [tst, h1] at h
    | some p =>
      obtain ⟨ys, q⟩ := p
      cases h2 : tk (L.drop q) with
      | none => simp [tst, h1, h2] at h
      | some r =>
        obtain ⟨n, k⟩ := r
        rw [tst_next h1 h2] at h
        cases h
        intro x hx
        rcases List.mem_append.1 hx with hx | hx
        · exact tst_bd h1 x hx
        · simp at hx
          subst hx
          have := tk_bound h2
          omega
theorem sfx_zero (s : ByteArray) : s.extract 0 s.size = s := nbs_inj (by rw [nbs_sfx]; rfl)
end Re
end Go.Proofs.Ytlcaelfkgillmaa
