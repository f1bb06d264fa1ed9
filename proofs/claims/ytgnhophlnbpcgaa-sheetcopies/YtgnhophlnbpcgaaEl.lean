/- There and back: numbers and lists of numbers, plain. -/
import Derived.Test.YtgnhophlnbpcgaaEk
namespace Go.Proofs.Ytgnhophlnbpcgaa
open Go.ChangeShapes Go.WideShapes Go.ChangeAt Go.RowKit
namespace Re
open Ba

theorem foldl_dg (k n : Nat) : ∀ a, (dg k n).foldl (fun a b => 256 * a + b) a = a * 256 ^ k + n % 256 ^ k := by
  induction k with
  | zero => intro a; simp [dg, Nat.mod_one]
  | succ k ih =>
    intro a
    rw [show dg (k + 1) n = n / 256 ^ k % 256 :: dg k n from rfl, List.foldl_cons, ih, Nat.mod_pow_succ, Nat.pow_succ, Nat.add_mul]
    have e1 : 256 * a * 256 ^ k = a * (256 ^ k * 256) := by rw [Nat.mul_comm 256 a, Nat.mul_assoc, Nat.mul_comm 256]
    have e2 : n / 256 ^ k % 256 * 256 ^ k = 256 ^ k * (n / 256 ^ k % 256) := Nat.mul_comm _ _
    rw [e1, e2]
    omega
theorem vl_dg (k n : Nat) (h : n < 256 ^ k) : vl (dg k n) = n := by
  have := foldl_dg k n 0
  rw [Nat.zero_mul, Nat.zero_add, Nat.mod_eq_of_lt h] at this
  exact this
set_option maxRecDepth 100000 in
theorem nb_holds (n : Nat) (h : n ≤ 1099511627776) : n < 256 ^ nb n := by
  unfold nb
  by_cases h1 : n < 256
  · rw [if_pos h1]; exact h1
  rw [if_neg h1]
  by_cases h2 : n < 65536
  · rw [if_pos h2]; exact h2
  rw [if_neg h2]
  by_cases h3 : n < 16777216
  · rw [if_pos h3]; exact h3
  rw [if_neg h3]
  by_cases h4 : n < 4294967296
  · rw [if_pos h4]; exact h4
  rw [if_neg h4]
  by_cases h5 : n < 1099511627776
  · rw [if_pos h5]; exact h5
  rw [if_neg h5]
  have : 256 ^ 6 = 281474976710656 := rfl
  omega
theorem tk_spl (n : Nat) (R : List Nat) (h : n ≤ 1099511627776) : tk (spl n ++ R) = some (n, (spl n).length) := by
  by_cases h1 : n < 240
  · rw [spl_lo n h1]
    simp [tk, h1]
  · have hz := szn_lo n h
    rw [spl_hi n (by omega)] at hz ⊢
    rw [List.length_cons, dg_length] at hz
    rw [List.length_cons, dg_length, List.cons_append]
    have h2 := nb_le n
    have h3 := nb_pos n
    have e : 240 + nb n - 240 = nb n := by omega
    have et : (dg (nb n) n ++ R).take (nb n) = dg (nb n) n := by
      rw [List.take_append_of_le_length (by rw [dg_length]; exact Nat.le_refl _), List.take_of_length_le (by rw [dg_length]; exact Nat.le_refl _)]
    have ev := vl_dg (nb n) n (nb_holds n h)
    simp only [tk]
    rw [if_neg (by omega), e, et, ev, if_pos ⟨h3, h2, by rw [List.length_append, dg_length]; omega, by omega⟩, Nat.add_comm]
theorem pls_append (a b : List Int) : pls (a ++ b) = pls a ++ pls b := by simp [pls]
theorem pls_cons (x : Int) (l : List Int) : pls (x :: l) = spl x.toNat ++ pls l := by simp [pls]
theorem tst_pls (l : List Int) (R : List Nat) (h : ∀ x ∈ l, okR x = true) : ∀ i, i ≤ l.length → tst (pls l ++ R) i = some (l.take i, (pls (l.take i)).length) := by
  intro i
  induction i with
  | zero => intro _; simp [tst, pls]
  | succ i ih =>
    intro hi
    have hi' : i < l.length := by omega
    have h0 := ih (by omega)
    have hx := (okR_iff _).1 (h l[i] (List.getElem_mem hi'))
    have ed : (pls l ++ R).drop (pls (l.take i)).length = spl (l[i]).toNat ++ (pls (l.drop (i + 1)) ++ R) := by
      have e1 : pls l = pls (l.take i) ++ pls (l.drop i) := by rw [← pls_append, List.take_append_drop]
      rw [e1, List.append_assoc, List.drop_left]
      rw [List.drop_eq_getElem_cons hi', pls_cons, List.append_assoc]
    have ht := tk_spl (l[i]).toNat (pls (l.drop (i + 1)) ++ R) (by omega)
    rw [← ed] at ht
    have := tst_next h0 ht
    rw [this, pls_take l i hi', List.length_append, nth_lt l i hi']
    have e2 : l.take i ++ [((l[i]).toNat : Int)] = l.take (i + 1) := by
      rw [show ((l[i]).toNat : Int) = l[i] by omega, List.take_append_getElem]
    rw [e2]
theorem tl_plist (l : List Int) (R : List Nat) (hl : l.length ≤ 2000) (h : l.all okR = true) : tl (plist l ++ R) (l.length : Int) = .ok (l, (plist l).length) := by
  have h' : ∀ x ∈ l, okR x = true := List.all_eq_true.1 h
  have h1 := tk_spl l.length (pls l ++ R) (by omega)
  rw [← List.append_assoc] at h1
  have h2 := tst_pls l R h' l.length (Nat.le_refl _)
  rw [List.take_length] at h2
  unfold tl
  rw [show plist l = spl l.length ++ pls l from rfl, h1]
  simp only
  rw [if_neg (by omega), List.append_assoc, List.drop_left, h2]
  simp
theorem tk_put {L : List Nat} {n k : Nat} (hL : ∀ b ∈ L, b < 256) (h : tk L = some (n, k)) : spl n ++ L.drop k = L := by
  cases L with
  | nil => simp [tk] at h
  | cons b t =>
    simp only [tk] at h
    by_cases h1 : b < 240
    · rw [if_pos h1] at h
      simp at h
      obtain ⟨rfl, rfl⟩ := h
      rw [spl_lo b h1]
      rfl
    · rw [if_neg h1] at h
      split at h
      · rename_i q
        simp only [Option.some.injEq, Prod.mk.injEq] at h
        obtain ⟨rfl, rfl⟩ := h
        have := ((fit_iff (t.take (b - 240)) (b - 240) q.1 (by simp; omega) (fun x hx => hL x (List.mem_cons_of_mem _ (List.mem_of_mem_take hx)))).1 q.2.2.2).2
        rw [this, show 240 + (b - 240) = b by omega, Nat.add_comm 1]
        simp
      · simp at h
end Re
end Go.Proofs.Ytgnhophlnbpcgaa
