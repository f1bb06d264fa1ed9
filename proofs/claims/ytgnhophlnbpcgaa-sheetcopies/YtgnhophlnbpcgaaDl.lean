/- There and back: operations and their bytes, plain. -/
import Derived.Test.YtgnhophlnbpcgaaDk
namespace Go.Proofs.Ytgnhophlnbpcgaa
open Go.ChangeShapes Go.WideShapes Go.ChangeAt Go.RowKit
namespace De
open Ba Re

theorem foldl_dg (k n : Nat) : ∀ a, (dg k n).foldl (fun a b => 256 * a + b) a = a * 256 ^ k + n % 256 ^ k := by
  induction k with
  | zero => intro a; simp [dg, Nat.mod_one]
  | succ k ih =>
    intro a
    rw [show dg (k + 1) n = n / 256 ^ k % 256 :: dg k n from rfl, List.foldl_cons, ih, Nat.mod_pow_succ, Nat.pow_succ, Nat.add_mul]
    have e1 : 256 * a * 256 ^ k = a * (256 ^ k * 256) := by rw [Nat.mul_comm 256 a, Nat.mul_assoc, Nat.mul_comm 256]
    have e2 : n / 256 ^ k % 256 * 256 ^ k = 256 ^ k * (n / 256 ^ k % 256) := Nat.mul_comm _ _
    rw [e1, e2]
    omega
theorem vl_dg (k n : Nat) (h : n < 256 ^ k) : vl (dg k n) = n := by
  have := foldl_dg k n 0
  rw [Nat.zero_mul, Nat.zero_add, Nat.mod_eq_of_lt h] at this
  exact this
set_option maxRecDepth 100000 in
theorem nb_holds (n : Nat) (h : n ≤ 1099511627776) : n < 256 ^ nb n := by
  unfold nb
  by_cases h1 : n < 256
  · rw [if_pos h1]; exact h1
  rw [if_neg h1]
  by_cases h2 : n < 65536
  · rw [if_pos h2]; exact h2
  rw [if_neg h2]
  by_cases h3 : n < 16777216
  · rw [if_pos h3]; exact h3
  rw [if_neg h3]
  by_cases h4 : n < 4294967296
  · rw [if_pos h4]; exact h4
  rw [if_neg h4]
  by_cases h5 : n < 1099511627776
  · rw [if_pos h5]; exact h5
  rw [if_neg h5]
  have : 256 ^ 6 = 281474976710656 := rfl
  omega
theorem tk_spl (n : Nat) (R : List Nat) (h : n ≤ 1099511627776) : tk (spl n ++ R) = some (n, (spl n).length) := by
  by_cases h1 : n < 240
  · rw [spl_lo n h1]
    simp [tk, h1]
  · have hz := szn_lo n h
    rw [spl_hi n (by omega)] at hz ⊢
    rw [List.length_cons, dg_length] at hz
    rw [List.length_cons, dg_length, List.cons_append]
    have h2 := nb_le n
    have h3 := nb_pos n
    have e : 240 + nb n - 240 = nb n := by omega
    have et : (dg (nb n) n ++ R).take (nb n) = dg (nb n) n := by
      rw [List.take_append_of_le_length (by rw [dg_length]; exact Nat.le_refl _), List.take_of_length_le (by rw [dg_length]; exact Nat.le_refl _)]
    have ev := vl_dg (nb n) n (nb_holds n h)
    simp only [tk]
    rw [if_neg (by omega), e, et, ev, if_pos ⟨h3, h2, by rw [List.length_append, dg_length]; omega, by omega⟩, Nat.add_comm]
theorem tk_put {L : List Nat} {n k : Nat} (hL : ∀ b ∈ L, b < 256) (h : tk L = some (n, k)) : spl n ++ L.drop k = L := by
  cases L with
  | nil => simp [tk] at h
  | cons b t =>
    simp only [tk] at h
    by_cases h1 : b < 240
    · rw [if_pos h1] at h
      simp at h
      obtain ⟨rfl, rfl⟩ := h
      rw [spl_lo b h1]
      rfl
    · rw [if_neg h1] at h
      split at h
      · rename_i q
        simp only [Option.some.injEq, Prod.mk.injEq] at h
        obtain ⟨rfl, rfl⟩ := h
        have := ((fit_iff (t.take (b - 240)) (b - 240) q.1 (by simp; omega) (fun x hx => hL x (List.mem_cons_of_mem _ (List.mem_of_mem_take hx)))).1 q.2.2.2).2
        rw [this, show 240 + (b - 240) = b by omega, Nat.add_comm 1]
        simp
      · simp at h
theorem tk_bound {L : List Nat} {n k : Nat} (h : tk L = some (n, k)) : n ≤ 1099511627776 := by
  cases L with
  | nil => simp [tk] at h
  | cons b t =>
    simp only [tk] at h
    split at h
    · simp at h
      obtain ⟨rfl, _⟩ := h
      omega
    · split at h
      · rename_i q
        simp only [Option.some.injEq, Prod.mk.injEq] at h
        obtain ⟨rfl, _⟩ := h
        have := q.2.2.2
        by_cases e : vl (t.take (b - 240)) ≤ 1099511627776
        · exact e
        · rw [szn_hi _ e] at this; omega
      · simp at h

theorem pls_cons (x : Int) (l : List Int) : pls (x :: l) = spl x.toNat ++ pls l := by simp [pls]
theorem pls_append (a b : List Int) : pls (a ++ b) = pls a ++ pls b := by simp [pls]
theorem pls_nil : pls [] = [] := rfl

/-! there -/
theorem rn {s : ByteArray} {n : Int} {R : List Nat} (hn : okR n = true) (h : nbs s = spl n.toNat ++ R) : ∃ r, rnum s false = (n, r, false) ∧ nbs r = R := by
  obtain ⟨h0, h1⟩ := (okR_iff n).1 hn
  have ht := tk_spl n.toNat R (by omega)
  rw [← h] at ht
  refine ⟨_, ?_, nsfx h _ |>.trans (by rw [List.drop_left])⟩
  rw [rnum_s ht]
  simp only [Prod.mk.injEq, and_true]
  omega
theorem ru {s : ByteArray} {n m : Int} {R : List Nat} (hn : 0 ≤ n) (hm : n ≤ m) (hb : n ≤ 1000) (h : nbs s = spl n.toNat ++ R) : ∃ r, rup m s false = (n, r, false) ∧ nbs r = R := by
  obtain ⟨r, h1, h2⟩ := rn (by rw [okR_iff]; omega) h
  refine ⟨r, ?_, h2⟩
  have hd : decide (m < n) = false := by simp; omega
  simp only [rup, h1, hd, cond_false]
theorem bt_one (b : Bool) : (bt b == 1) = b := by cases b <;> decide
theorem rcs_enc (l : List Cs) (hl : ∀ x ∈ l, okC x = true) (s : ByteArray) (R : List Nat) (h : nbs s = pls (l.flatMap cn) ++ R) : ∀ j, j ≤ l.length → ∃ r, rcs s false j = (l.take j, r, false) ∧ nbs r = pls ((l.drop j).flatMap cn) ++ R := by
  intro j
  induction j with
  | zero => intro _; exact ⟨s, rfl, h⟩
  | succ j ih =>
    intro hj
    obtain ⟨r, h1, h2⟩ := ih (by omega)
    have hlt : j < l.length := by omega
    rw [List.drop_eq_getElem_cons hlt, List.flatMap_cons, pls_append, List.append_assoc] at h2
    have hok := okC_bd (hl l[j] (List.getElem_mem hlt))
    have hbt := bt_bd l[j].send
    have e : pls (cn l[j]) = spl (bt l[j].send).toNat ++ (spl (l[j].ch).toNat ++ spl (l[j].val).toNat) := by simp [pls, cn]
    rw [e, List.append_assoc, List.append_assoc] at h2
    obtain ⟨r1, q1, p1⟩ := ru (m := 1) hbt.1 hbt.2 (by omega) h2
    obtain ⟨r2, q2, p2⟩ := rn (by rw [okR_iff]; omega) p1
    obtain ⟨r3, q3, p3⟩ := rn (by rw [okR_iff]; omega) p2
    refine ⟨r3, ?_, p3⟩
    rw [rcs, h1]
    simp only [rc, q1, q2, q3, bt_one]
    rw [List.take_add_one, List.getElem?_eq_getElem hlt]
    rfl
theorem rop_enc {o : OpD} {p : Int} (hc : chk o p = 0) (s : ByteArray) (R : List Nat) (h : nbs s = pls (nums o) ++ R) : ∃ r, rop s false = (o, r, false) ∧ nbs r = R := by
  obtain ⟨hp, hk, hl, ha, hb, hd, hcs⟩ := chk_zero hc
  have hA := mA_le o.kind p hp.2
  have hB := mB_le o.kind
  obtain ⟨k, a, b, cs, d⟩ := o
  simp only at hk hl ha hb hd hcs hA hB
  unfold nums at h
  simp only at h
  rw [List.cons_append, pls_cons, List.append_assoc] at h
  obtain ⟨s1, q1, p1⟩ := rn (by rw [okR_iff]; omega) h
  unfold rop
  rw [q1]
  simp only
  rcases kind_cases hk.1 hk.2 with rfl | rfl | rfl | rfl | rfl | rfl | rfl | rfl | rfl
  case inr.inr.inr.inr.inr.inl =>
    have ea : a = 0 := by simp [mA] at ha; omega
    have eb : b = 0 := by simp [mB] at hb; omega
    subst ea eb
    have e : pls ([(0 : Int), 0].take (nf 6) ++ (bif (6 : Int) == 6 then bt d :: (cs.length : Int) :: cs.flatMap cn else [])) = spl (bt d).toNat ++ (spl (cs.length : Int).toNat ++ pls (cs.flatMap cn)) := by simp [nf, pls]
    rw [e, List.append_assoc, List.append_assoc] at p1
    have hbt := bt_bd d
    obtain ⟨s2, q2, p2⟩ := ru (m := 1) hbt.1 hbt.2 (by omega) p1
    obtain ⟨s3, q3, p3⟩ := ru (m := 4) (by omega) (by omega) (by omega) p2
    obtain ⟨s4, q4, p4⟩ := rcs_enc cs hcs s3 R p3 cs.length (Nat.le_refl _)
    refine ⟨s4, ?_, by rw [p4, List.drop_length]; rfl⟩
    simp only [show nf 6 = 0 from rfl, rf, q2, q3, Int.toNat_natCast, q4, List.take_length, bt_one]
    rfl
  case inl =>
    obtain ⟨rfl, rfl⟩ : d = false ∧ cs = [] := by
      rcases hd with hd | hd
      · omega
      · exact hd
    have eb : b = 0 := by simp [mB] at hb; omega
    subst eb
    have e : pls ([(a : Int), 0].take (nf 1) ++ (bif (1 : Int) == 6 then bt false :: (([] : List Cs).length : Int) :: ([] : List Cs).flatMap cn else [])) = spl a.toNat := by simp [nf, pls]
    rw [e] at p1
    obtain ⟨s2, q2, p2⟩ := rn (by rw [okR_iff]; omega) p1
    refine ⟨s2, ?_, p2⟩
    simp only [show nf 1 = 1 from rfl, rf, q2]
    rfl
  case inr.inl =>
    obtain ⟨rfl, rfl⟩ : d = false ∧ cs = [] := by
      rcases hd with hd | hd
      · omega
      · exact hd
    have e : pls ([(a : Int), b].take (nf 2) ++ (bif (2 : Int) == 6 then bt false :: (([] : List Cs).length : Int) :: ([] : List Cs).flatMap cn else [])) = spl a.toNat ++ spl b.toNat := by simp [nf, pls]
    rw [e, List.append_assoc] at p1
    obtain ⟨s2, q2, p2⟩ := rn (by rw [okR_iff]; omega) p1
    obtain ⟨s3, q3, p3⟩ := rn (by rw [okR_iff]; omega) p2
    refine ⟨s3, ?_, p3⟩
    simp only [show nf 2 = 2 from rfl, rf, q2, q3]
    rfl
  case inr.inr.inl =>
    obtain ⟨rfl, rfl⟩ : d = false ∧ cs = [] := by
      rcases hd with hd | hd
      · omega
      · exact hd
    have e : pls ([(a : Int), b].take (nf 3) ++ (bif (3 : Int) == 6 then bt false :: (([] : List Cs).length : Int) :: ([] : List Cs).flatMap cn else [])) = spl a.toNat ++ spl b.toNat := by simp [nf, pls]
    rw [e, List.append_assoc] at p1
    obtain ⟨s2, q2, p2⟩ := rn (by rw [okR_iff]; omega) p1
    obtain ⟨s3, q3, p3⟩ := rn (by rw [okR_iff]; omega) p2
    refine ⟨s3, ?_, p3⟩
    simp only [show nf 3 = 2 from rfl, rf, q2, q3]
    rfl
  case inr.inr.inr.inl =>
    obtain ⟨rfl, rfl⟩ : d = false ∧ cs = [] := by
      rcases hd with hd | hd
      · omega
      · exact hd
    have eb : b = 0 := by simp [mB] at hb; omega
    subst eb
    have e : pls ([(a : Int), 0].take (nf 4) ++ (bif (4 : Int) == 6 then bt false :: (([] : List Cs).length : Int) :: ([] : List Cs).flatMap cn else [])) = spl a.toNat := by simp [nf, pls]
    rw [e] at p1
    obtain ⟨s2, q2, p2⟩ := rn (by rw [okR_iff]; omega) p1
    refine ⟨s2, ?_, p2⟩
    simp only [show nf 4 = 1 from rfl, rf, q2]
    rfl
  case inr.inr.inr.inr.inl =>
    obtain ⟨rfl, rfl⟩ : d = false ∧ cs = [] := by
      rcases hd with hd | hd
      · omega
      · exact hd
    have eb : b = 0 := by simp [mB] at hb; omega
    subst eb
    have e : pls ([(a : Int), 0].take (nf 5) ++ (bif (5 : Int) == 6 then bt false :: (([] : List Cs).length : Int) :: ([] : List Cs).flatMap cn else [])) = spl a.toNat := by simp [nf, pls]
    rw [e] at p1
    obtain ⟨s2, q2, p2⟩ := rn (by rw [okR_iff]; omega) p1
    refine ⟨s2, ?_, p2⟩
    simp only [show nf 5 = 1 from rfl, rf, q2]
    rfl
  case inr.inr.inr.inr.inr.inr.inl =>
    obtain ⟨rfl, rfl⟩ : d = false ∧ cs = [] := by
      rcases hd with hd | hd
      · omega
      · exact hd
    have eb : b = 0 := by simp [mB] at hb; omega
    subst eb
    have e : pls ([(a : Int), 0].take (nf 7) ++ (bif (7 : Int) == 6 then bt false :: (([] : List Cs).length : Int) :: ([] : List Cs).flatMap cn else [])) = spl a.toNat := by simp [nf, pls]
    rw [e] at p1
    obtain ⟨s2, q2, p2⟩ := rn (by rw [okR_iff]; omega) p1
    refine ⟨s2, ?_, p2⟩
    simp only [show nf 7 = 1 from rfl, rf, q2]
    rfl
  case inr.inr.inr.inr.inr.inr.inr.inl =>
    obtain ⟨rfl, rfl⟩ : d = false ∧ cs = [] := by
      rcases hd with hd | hd
      · omega
      · exact hd
    have eb : b = 0 := by simp [mB] at hb; omega
    subst eb
    have e : pls ([(a : Int), 0].take (nf 8) ++ (bif (8 : Int) == 6 then bt false :: (([] : List Cs).length : Int) :: ([] : List Cs).flatMap cn else [])) = spl a.toNat := by simp [nf, pls]
    rw [e] at p1
    obtain ⟨s2, q2, p2⟩ := rn (by rw [okR_iff]; omega) p1
    refine ⟨s2, ?_, p2⟩
    simp only [show nf 8 = 1 from rfl, rf, q2]
    rfl
  case inr.inr.inr.inr.inr.inr.inr.inr =>
    obtain ⟨rfl, rfl⟩ : d = false ∧ cs = [] := by
      rcases hd with hd | hd
      · omega
      · exact hd
    have eb : b = 0 := by simp [mB] at hb; omega
    subst eb
    have ea : a = 0 := by simp [mA] at ha; omega
    subst ea
    have e : pls ([(0 : Int), 0].take (nf 9) ++ (bif (9 : Int) == 6 then bt false :: (([] : List Cs).length : Int) :: ([] : List Cs).flatMap cn else [])) = [] := by simp [nf, pls]
    rw [e] at p1
    exact ⟨s1, rfl, p1⟩
end De
end Go.Proofs.Ytgnhophlnbpcgaa
