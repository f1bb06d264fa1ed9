/- What is decoded was encoded so, plain; Decode in one contract. -/
import Derived.Test.YtgnhophlnbpcgaaDl
namespace Go.Proofs.Ytgnhophlnbpcgaa
open Go.ChangeShapes Go.WideShapes Go.ChangeAt Go.RowKit
namespace De
open Ba Re

theorem rn_inv {s r : ByteArray} {f : Bool} {n : Int} (h : rnum s f = (n, r, false)) : f = false ∧ 0 ≤ n ∧ nbs s = spl n.toNat ++ nbs r := by
  cases f
  · cases ht : tk (nbs s) with
    | none => rw [rnum_n ht] at h; simp at h
    | some q =>
      obtain ⟨m, k⟩ := q
      rw [rnum_s ht] at h
      simp only [Prod.mk.injEq, and_true] at h
      obtain ⟨rfl, rfl⟩ := h
      refine ⟨rfl, Int.natCast_nonneg _, ?_⟩
      rw [nsfx rfl, Int.toNat_natCast]
      exact (tk_put (nbs_lt s) ht).symm
  · rw [rnum_t] at h; simp at h
theorem ru_inv {m : Int} {s r : ByteArray} {f : Bool} {n : Int} (h : rup m s f = (n, r, false)) : f = false ∧ 0 ≤ n ∧ n ≤ m ∧ nbs s = spl n.toNat ++ nbs r := by
  unfold rup at h
  cases hd : decide (m < (rnum s f).1)
  · rw [hd] at h
    simp only [cond_false] at h
    obtain ⟨h1, h2, h3⟩ := rn_inv h
    rw [h] at hd
    simp at hd
    exact ⟨h1, h2, hd, h3⟩
  · rw [hd] at h
    simp at h
theorem bt_of (n : Int) (h0 : 0 ≤ n) (h1 : n ≤ 1) : bt (n == 1) = n := by
  have : n = 0 ∨ n = 1 := by omega
  rcases this with rfl | rfl <;> rfl
theorem rc_inv {s r : ByteArray} {f : Bool} {x : Cs} (h : rc s f = (x, r, false)) : f = false ∧ nbs s = pls (cn x) ++ nbs r := by
  unfold rc at h
  obtain ⟨b, s1, f1, e1⟩ : ∃ b s1 f1, rup 1 s f = (b, s1, f1) := ⟨_, _, _, rfl⟩
  rw [e1] at h
  simp only at h
  obtain ⟨c, s2, f2, e2⟩ : ∃ c s2 f2, rnum s1 f1 = (c, s2, f2) := ⟨_, _, _, rfl⟩
  rw [e2] at h
  simp only at h
  obtain ⟨v, s3, f3, e3⟩ : ∃ v s3 f3, rnum s2 f2 = (v, s3, f3) := ⟨_, _, _, rfl⟩
  rw [e3] at h
  simp only [Prod.mk.injEq] at h
  obtain ⟨rfl, rfl, rfl⟩ := h
  obtain ⟨rfl, _, q3⟩ := rn_inv e3
  obtain ⟨rfl, _, q2⟩ := rn_inv e2
  obtain ⟨rfl, p0, p1, q1⟩ := ru_inv e1
  refine ⟨rfl, ?_⟩
  rw [q1, q2, q3]
  simp [pls, cn, bt_of b p0 p1]
theorem rcs_inv {s : ByteArray} {f : Bool} : ∀ {j : Nat} {l : List Cs} {r : ByteArray}, rcs s f j = (l, r, false) → f = false ∧ nbs s = pls (l.flatMap cn) ++ nbs r
  | 0, l, r, h => by
    simp only [rcs, Prod.mk.injEq] at h
    obtain ⟨rfl, rfl, rfl⟩ := h
    exact ⟨rfl, rfl⟩
  | j + 1, l, r, h => by
    rw [rcs] at h
    obtain ⟨l0, s0, f0, e0⟩ : ∃ l0 s0 f0, rcs s f j = (l0, s0, f0) := ⟨_, _, _, rfl⟩
    rw [e0] at h
    simp only [Prod.mk.injEq] at h
    obtain ⟨h1, h2⟩ := h
    obtain ⟨rfl, q⟩ := rc_inv (s := s0) (f := f0) (x := (rc s0 f0).1) (r := r) (by rw [← h2])
    obtain ⟨rfl, q0⟩ := rcs_inv e0
    refine ⟨rfl, ?_⟩
    rw [q0, q, ← h1, List.flatMap_append, pls_append, List.append_assoc]
    simp
theorem rf_inv {s r : ByteArray} {f : Bool} {n : Nat} (hn : n ≤ 2) {a b : Int} (h : rf s f n = (a, b, r, false)) : f = false ∧ nbs s = pls ([a, b].take n) ++ nbs r := by
  match n, hn with
  | 0, _ =>
    simp only [rf, Prod.mk.injEq] at h
    obtain ⟨_, _, rfl, rfl⟩ := h
    exact ⟨rfl, rfl⟩
  | 1, _ =>
    simp only [rf, Prod.mk.injEq] at h
    obtain ⟨h1, _, h2, h3⟩ := h
    obtain ⟨rfl, _, q⟩ := rn_inv (s := s) (f := f) (n := a) (r := r) (by rw [← h1, ← h2, ← h3])
    refine ⟨rfl, ?_⟩
    rw [q]
    simp [pls]
  | 2, _ =>
    simp only [rf, Prod.mk.injEq] at h
    obtain ⟨h1, h2, h3, h4⟩ := h
    obtain ⟨x, s1, f1, e1⟩ : ∃ x s1 f1, rnum s f = (x, s1, f1) := ⟨_, _, _, rfl⟩
    rw [e1] at h1 h2 h3 h4
    simp only at h1 h2 h3 h4
    obtain ⟨rfl, _, q2⟩ := rn_inv (s := s1) (f := f1) (n := b) (r := r) (by rw [← h2, ← h3, ← h4])
    obtain ⟨rfl, _, q1⟩ := rn_inv e1
    refine ⟨rfl, ?_⟩
    rw [q1, q2, ← h1]
    simp [pls]
theorem rop_inv {s r : ByteArray} {o : OpD} (h : rop s false = (o, r, false)) : nbs s = pls (nums o) ++ nbs r := by
  unfold rop at h
  obtain ⟨k, s1, f1, e1⟩ : ∃ k s1 f1, rnum s false = (k, s1, f1) := ⟨_, _, _, rfl⟩
  rw [e1] at h
  simp only at h
  obtain ⟨a, b, s2, f2, e2⟩ : ∃ a b s2 f2, rf s1 f1 (nf k) = (a, b, s2, f2) := ⟨_, _, _, _, rfl⟩
  rw [e2] at h
  simp only at h
  cases h6 : k == 6
  · rw [h6] at h
    simp only [cond_false, Prod.mk.injEq] at h
    obtain ⟨rfl, rfl, rfl⟩ := h
    obtain ⟨rfl, q2⟩ := rf_inv (nf_le k) e2
    obtain ⟨_, _, q1⟩ := rn_inv e1
    rw [q1, q2]
    simp [nums, h6, pls]
  · rw [h6] at h
    obtain rfl : k = 6 := by simpa using h6
    simp only [cond_true] at h
    obtain ⟨dn, s3, f3, e3⟩ : ∃ dn s3 f3, rup 1 s2 f2 = (dn, s3, f3) := ⟨_, _, _, rfl⟩
    rw [e3] at h
    simp only at h
    obtain ⟨n, s4, f4, e4⟩ : ∃ n s4 f4, rup 4 s3 f3 = (n, s4, f4) := ⟨_, _, _, rfl⟩
    rw [e4] at h
    simp only at h
    obtain ⟨l, s5, f5, e5⟩ : ∃ l s5 f5, rcs s4 f4 n.toNat = (l, s5, f5) := ⟨_, _, _, rfl⟩
    rw [e5] at h
    simp only [Prod.mk.injEq] at h
    obtain ⟨rfl, rfl, rfl⟩ := h
    have hl := rcs_len s4 f4 n.toNat
    rw [e5] at hl
    simp only at hl
    obtain ⟨rfl, q5⟩ := rcs_inv e5
    obtain ⟨rfl, n0, _, q4⟩ := ru_inv e4
    obtain ⟨rfl, d0, d1, q3⟩ := ru_inv e3
    obtain ⟨rfl, q2⟩ := rf_inv (nf_le 6) e2
    obtain ⟨_, _, q1⟩ := rn_inv e1
    rw [q1, q2, q3, q4, q5]
    have en : (l.length : Int) = n := by omega
    simp [nums, pls, nf, bt_of dn d0 d1, en]

/-- what Decode answers -/
theorem decode_any (s : ByteArray) (p : Int) (w : World) :
    Calls Try.prog 9 #[.string s, .int .i64 p] w fun r w' => ((∃ e : Int, (e == 0) = false ∧ (e != 0) = true ∧ (e = if okP p = true then 4 else 1) ∧ (okP p = false ∨ (rop s false).2.2 = true ∨ (chk (rop s false).1 p == 0) = false) ∧ r = .returned (.tuple #[.agg #[.int .i64 0, .int .i64 0, .int .i64 0, .slice none 0 0, .bool false], .string (bs []), .int .i64 e])) ∨ (okP p = true ∧ (rop s false).2.2 = false ∧ chk (rop s false).1 p = 0 ∧ ∃ oa c, r = .returned (.tuple #[.agg #[.int .i64 (rop s false).1.kind, .int .i64 (rop s false).1.a, .int .i64 (rop s false).1.b, .slice oa (rop s false).1.cases.length c, .bool (rop s false).1.def_], .string (rop s false).2.1, .int .i64 0]) ∧ CAt w' oa (rop s false).1.cases)) ∧ Below w.heap.size w w' := by
  cases hp : okP p
  · refine (decode_arg s p w hp).mono ?_
    rintro r w' ⟨rfl, hb⟩
    exact ⟨.inl ⟨1, by decide, by decide, by simp, .inl rfl, rfl⟩, hb⟩
  · refine (decode_main s p w hp).mono ?_
    rintro r w' ⟨⟨hq, rfl⟩ | ⟨h1, h2, oa, c, rfl, hA⟩, hb⟩
    · exact ⟨.inl ⟨4, by decide, by decide, by simp, .inr hq, rfl⟩, hb⟩
    · exact ⟨.inr ⟨rfl, h1, h2, oa, c, rfl, hA⟩, hb⟩
end De
end Go.Proofs.Ytgnhophlnbpcgaa
