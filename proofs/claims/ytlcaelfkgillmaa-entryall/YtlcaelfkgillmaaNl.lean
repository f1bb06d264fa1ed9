/- There and back: events and bytes, plain; events compared. -/
import Derived.Test.YtlcaelfkgillmaaNk
import Derived.Laws.StructEq
namespace Go.Proofs.Ytlcaelfkgillmaa
open Go.ChangeShapes Go.WideShapes Go.ChangeAt Go.RowKit
namespace En
open Ba Re

theorem pls_append (a b : List Int) : pls (a ++ b) = pls a ++ pls b := by simp [pls]
theorem pls_cons (x : Int) (l : List Int) : pls (x :: l) = spl x.toNat ++ pls l := by simp [pls]
theorem pls_lt (l : List Int) : ∀ b ∈ pls l, b < 256 := by
  intro b hb
  simp only [pls, List.mem_flatMap] at hb
  obtain ⟨n, _, hb⟩ := hb
  exact spl_lt _ b hb
theorem tst_pls (l : List Int) (R : List Nat) (h : ∀ k, k < l.length → 0 ≤ nth l k ∧ nth l k ≤ 1099511627776) : ∀ i, i ≤ l.length → tst (pls l ++ R) i = some (l.take i, (pls (l.take i)).length) := by
  intro i
  induction i with
  | zero => intro _; simp [tst, pls]
  | succ i ih =>
    intro hi
    have hi' : i < l.length := by omega
    have h0 := ih (by omega)
    have hx := h i hi'
    have ed : (pls l ++ R).drop (pls (l.take i)).length = spl (nth l i).toNat ++ (pls (l.drop (i + 1)) ++ R) := by
      have e1 : pls l = pls (l.take i) ++ pls (l.drop i) := by rw [← pls_append, List.take_append_drop]
      rw [e1, List.append_assoc, List.drop_left]
      rw [List.drop_eq_getElem_cons hi', pls_cons, List.append_assoc, nth_lt l i hi']
    have ht := tk_spl (nth l i).toNat (pls (l.drop (i + 1)) ++ R) (by omega)
    rw [← ed] at ht
    have := tst_next h0 ht
    rw [this, pls_take l i hi', List.length_append]
    have e2 : l.take i ++ [((nth l i).toNat : Int)] = l.take (i + 1) := by
      rw [show ((nth l i).toNat : Int) = nth l i by omega, nth_lt l i hi', List.take_append_getElem]
    rw [e2]
theorem tst_put {L : List Nat} (hL : ∀ b ∈ L, b < 256) : ∀ {i : Nat} {xs : List Int} {o : Nat}, tst L i = some (xs, o) → pls xs ++ L.drop o = L
  | 0, xs, o, h => by
    simp [tst] at h
    obtain ⟨rfl, rfl⟩ := h
    rfl
  | i + 1, xs, o, h => by
    cases h1 : tst L i with
    | none => simp [tst, h1] at h
    | some p =>
      obtain ⟨ys, q⟩ := p
      cases h2 : tk (L.drop q) with
      | none => simp [tst, h1, h2] at h
      | some r =>
        obtain ⟨n, k⟩ := r
        rw [tst_next h1 h2] at h
        cases h
        have ih := tst_put hL h1
        have hp := tk_put (fun b hb => hL b (List.mem_of_mem_drop hb)) h2
        rw [pls_append, pls_cons, show pls [] = [] from rfl, List.append_nil, Int.toNat_natCast, List.append_assoc, ← List.drop_drop, hp, ih]
theorem evl_nm {e : Ev} : evl (nm e) = e := by
  obtain ⟨k, g, c, a, v, m, s, o⟩ := e
  unfold evl evn nm
  have h6 : (nth [k, g + 1, c + 1, a + 1, v + 1, m + 1, fg ⟨k, g, c, a, v, m, s, o⟩] 6).toNat = (fg ⟨k, g, c, a, v, m, s, o⟩).toNat := rfl
  rw [h6]
  have e1 : ((fg ⟨k, g, c, a, v, m, s, o⟩).toNat % 2 == 1) = s := by cases s <;> cases o <;> simp [fg]
  have e2 : ((fg ⟨k, g, c, a, v, m, s, o⟩).toNat / 2 % 2 == 1) = o := by cases s <;> cases o <;> simp [fg]
  rw [e1, e2]
  simp [nth]
theorem dec_enc {e : Ev} (h : chk e = 0) (R : List Nat) : dec (enc e ++ R) = some (e, (enc e).length) := by
  have ht := tst_pls (nm e) R (fun k hk => by have := nm_b h k hk; omega) 7 (Nat.le_refl 7)
  rw [List.take_of_length_le (Nat.le_refl 7)] at ht
  unfold dec enc
  rw [ht]
  simp only [evl_nm]
  rw [if_pos]
  refine ⟨?_, h⟩
  show fg e ≤ 3
  exact (fg_b e).2
theorem dec_put {L : List Nat} {e : Ev} {z : Nat} (hL : ∀ b ∈ L, b < 256) (h : dec L = some (e, z)) : chk e = 0 ∧ enc e ++ L.drop z = L ∧ 0 < z ∧ z ≤ L.length := by
  unfold dec at h
  cases ht : tst L 7 with
  | none => rw [ht] at h; cases h
  | some p =>
    obtain ⟨xs, z'⟩ := p
    obtain ⟨t0, t1, t2, t3, t4, t5, t6, rfl⟩ := seven (tst_some ht).1
    obtain ⟨n, rfl⟩ := Int.eq_ofNat_of_zero_le (tst_bd ht t6 (by simp)).1
    rw [ht] at h
    simp only at h
    split at h
    · rename_i q
      cases h
      have q1 : (n : Int) ≤ 3 := q.1
      refine ⟨q.2, ?_, by have := (tst_some ht).2.1; omega, (tst_some ht).2.2⟩
      have hp := tst_put hL ht
      have e1 : nm (evl [t0, t1, t2, t3, t4, t5, (n : Int)]) = [t0, t1, t2, t3, t4, t5, (n : Int)] := by
        show nm (evn t0 t1 t2 t3 t4 t5 n) = _
        have e2 : nm (evn t0 t1 t2 t3 t4 t5 n) = [t0, t1, t2, t3, t4, t5, fg (evn t0 t1 t2 t3 t4 t5 n)] := by simp [nm, evn]
        rw [e2, fg_evn, show n % 4 = n by omega]
      unfold enc
      rw [e1]
      exact hp
    · cases h
theorem dec_le {L : List Nat} {e : Ev} {z : Nat} (h : dec L = some (e, z)) : 7 ≤ z ∧ z ≤ L.length := by
  unfold dec at h
  cases ht : tst L 7 with
  | none => rw [ht] at h; cases h
  | some p =>
    obtain ⟨xs, z'⟩ := p
    rw [ht] at h
    simp only at h
    split at h
    · cases h
      exact (tst_some ht).2
    · cases h
/-- one's bytes are the beginning of another one's only if both are the same -/
theorem apart {a b : Ev} (ha : chk a = 0) (hb : chk b = 0) (R : List Nat) (h : enc b = enc a ++ R) : a = b := by
  have h1 := dec_enc ha R
  have h2 := dec_enc hb []
  rw [List.append_nil, h, h1] at h2
  simp at h2
  exact h2.1
def evb (a b : Ev) : Bool := a.k == b.k && (a.g == b.g && (a.c == b.c && (a.a == b.a && (a.v == b.v && (a.m == b.m && (a.s == b.s && a.o == b.o))))))
theorem evb_iff (a b : Ev) : evb a b = true ↔ a = b := by
  obtain ⟨k, g, c, x, v, m, s, o⟩ := a
  obtain ⟨k', g', c', x', v', m', s', o'⟩ := b
  simp [evb]
theorem evb_self (a : Ev) : evb a a = true := (evb_iff a a).2 rfl
set_option maxHeartbeats 1600000 in
theorem eqE (a b : Ev) (w : World) : (Op.equalIn 10000 23 (evv a) (evv b)).run Try.prog w = .ok (evb a b) w := by
  obtain ⟨k, g, c, x, v, m, s, o⟩ := a
  obtain ⟨k', g', c', x', v', m', s', o'⟩ := b
  unfold evv evc evb
  simp only
  cases h0 : (k == k')
  · simp [go_sem, h0]
  cases h1 : (g == g')
  · simp [go_sem, h0, h1]
  cases h2 : (c == c')
  · simp [go_sem, h0, h1, h2]
  cases h3 : (x == x')
  · simp [go_sem, h0, h1, h2, h3]
  cases h4 : (v == v')
  · simp [go_sem, h0, h1, h2, h3, h4]
  cases h5 : (m == m')
  · simp [go_sem, h0, h1, h2, h3, h4, h5]
  cases h6 : (s == s')
  · simp [go_sem, h0, h1, h2, h3, h4, h5, h6]
  cases h7 : (o == o')
  · simp [go_sem, h0, h1, h2, h3, h4, h5, h6, h7]
  · simp [go_sem, h0, h1, h2, h3, h4, h5, h6, h7]
end En
end Go.Proofs.Ytlcaelfkgillmaa
