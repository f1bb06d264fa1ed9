/- The gauge's reader, over this seat's program: the rules one behind the other (broken). -/
import Derived.Test.YtakbbhngcdccpaaGreatGue
namespace Go.Proofs.YtakbbhngcdccpaaGreat
open Go.ChangeShapes Go.WideShapes Go.ChangeAt Go.RowKit
namespace Gu
open En Ba

/-- the i'th rule, from 0 on -/
def rl (i k : Nat) (e : Ev) (nx : Option Ev) (s : Gs) : Option Gs := match i with
  | 0 => if 2000 ≤ k ∨ chk e ≠ 0 then none else some s
  | 1 => (r2 s.st s.pn e).map fun q => { s with st := q.1, pn := q.2 }
  | 2 => (r3 s.ch e).map fun c => { s with ch := c }
  | 3 => (r4 s.la e).map fun x => { s with la := x }
  | 4 => (r5 s.ch e nx).map fun c => { s with ch := c }
  | _ => (r6 s.ch e).map fun c => { s with ch := c }
/-- behind the first i rules -/
def upto (i k : Nat) (e : Ev) (nx : Option Ev) (s : Gs) : Option Gs := match i with
  | 0 => some s
  | i + 1 => (upto i k e nx s).bind (rl i k e nx)
theorem stepG_rl (s : Gs) (k : Nat) (e : Ev) (nx : Option Ev) :
    (∃ n s', n < 6 ∧ upto n k e nx s = some s' ∧ rl n k e nx s' = none ∧ stepG s k e nx = .error ((n : Int) + 1)) ∨ (∃ s', upto 6 k e nx s = some s' ∧ stepG s k e nx = .ok s') := by
  unfold stepG
  by_cases h1 : 2000 ≤ k ∨ chk e ≠ 0
  · exact .inl ⟨0, s, by decide, rfl, by unfold rl; simp only; rw [if_pos h1], by rw [if_pos h1]; rfl⟩
  rw [if_neg h1]
  have u1 : upto 1 k e nx s = some s := by unfold upto upto rl; simp only [Option.bind_some]; rw [if_neg h1]
  cases e2 : r2 s.st s.pn e with
  | none => exact .inl ⟨1, s, by decide, u1, by simp [rl, e2], rfl⟩
  | some q =>
  obtain ⟨st, pn⟩ := q
  have u2 : upto 2 k e nx s = some { s with st := st, pn := pn } := by unfold upto; rw [u1]; simp [rl, e2]
  cases e3 : r3 s.ch e with
  | none => exact .inl ⟨2, _, by decide, u2, by simp [rl, e3], rfl⟩
  | some ch3 =>
  have u3 : upto 3 k e nx s = some { s with st := st, pn := pn, ch := ch3 } := by unfold upto; rw [u2]; simp [rl, e3]
  cases e4 : r4 s.la e with
  | none => exact .inl ⟨3, _, by decide, u3, by simp [rl, e4], rfl⟩
  | some la =>
  have u4 : upto 4 k e nx s = some ⟨st, pn, ch3, la⟩ := by unfold upto; rw [u3]; simp [rl, e4]
  cases e5 : r5 ch3 e nx with
  | none => exact .inl ⟨4, _, by decide, u4, by simp [rl, e5], by simp only [e5]; rfl⟩
  | some ch5 =>
  have u5 : upto 5 k e nx s = some ⟨st, pn, ch5, la⟩ := by unfold upto; rw [u4]; simp [rl, e5]
  cases e6 : r6 ch5 e with
  | none => exact .inl ⟨5, _, by decide, u5, by simp [rl, e6], by simp only [e5, e6]; rfl⟩
  | some ch6 =>
  have u6 : upto 6 k e nx s = some ⟨st, pn, ch6, la⟩ := by unfold upto; rw [u5]; simp [rl, e6]
  exact .inr ⟨_, u6, by simp only [e5, e6]⟩
/-- bounds on what the reader keeps -/
structure Bn (s : Gs) (m : Nat) : Prop where
  st : s.st.length ≤ m
  ch : s.ch.length ≤ m
  vs : ∀ (j : Nat) d, s.ch[j]? = some d → d.vs.length ≤ m
theorem Bn.mono {s : Gs} {m n : Nat} (h : Bn s m) (hn : m ≤ n) : Bn s n := ⟨Nat.le_trans h.st hn, Nat.le_trans h.ch hn, fun j d hd => Nat.le_trans (h.vs j d hd) hn⟩
theorem r2_len {st st' : List Int} {pn pn' : Bool} {e : Ev} (h : r2 st pn e = some (st', pn')) : st'.length ≤ st.length + 1 := by
  unfold r2 at h
  repeat' split at h
  all_goals first | (cases h; done) | (cases h; simp)
theorem r3_len {ch ch' : List Chn} {e : Ev} (h : r3 ch e = some ch') : (e.k = 2 ∧ ch' = ch ++ [⟨e.v, [], false⟩]) ∨ (e.k ≠ 2 ∧ ch' = ch ∧ e.c < ch.length) := by
  unfold r3 at h
  split at h
  · split at h
    · cases h
    · cases h; exact .inl ⟨by assumption, rfl⟩
  · split at h
    · cases h; exact .inr ⟨by assumption, rfl, by assumption⟩
    · cases h
theorem putP_len (c : Chn) (e : Ev) (nx : Option Ev) : (putP c e nx).length ≤ c.vs.length + 1 := by
  unfold putP
  split
  · simp
  · split
    · cases nx <;> simp
    · simp
theorem r5c_len {c c' : Chn} {e : Ev} {nx : Option Ev} (h : r5c c e nx = some c') : c'.vs.length ≤ c.vs.length + 1 := by
  have hp := putP_len c e nx
  unfold r5c at h
  split at h
  · split at h
    · split at h
      · cases h; exact Nat.le_succ _
      · cases h
    · rename_i v r hq
      rw [hq] at hp
      split at h
      · cases h
      · split at h
        · cases h; simp at hp ⊢; omega
        · cases h
  · split at h
    · cases h; exact hp
    · cases h
theorem getD_at {ch : List Chn} {m j : Nat} (h : ∀ (j : Nat) d, ch[j]? = some d → d.vs.length ≤ m) : (ch.getD j chz).vs.length ≤ m := by
  rw [List.getD_eq_getElem?_getD]
  cases hq : ch[j]? with
  | none => exact Nat.zero_le _
  | some d => exact h j d hq
theorem set_vs {ch : List Chn} {m j : Nat} {c : Chn} (h : ∀ (j : Nat) d, ch[j]? = some d → d.vs.length ≤ m) (hc : c.vs.length ≤ m + 1) (i : Nat) (d : Chn) (hd : (ch.set j c)[i]? = some d) : d.vs.length ≤ m + 1 := by
  by_cases e : j = i
  · subst e
    have hl : j < ch.length := by have := (List.getElem?_eq_some_iff.1 hd).1; simpa using this
    rw [List.getElem?_set_self hl] at hd
    cases hd
    exact hc
  · rw [List.getElem?_set_ne e] at hd
    exact Nat.le_succ_of_le (h i d hd)
theorem Bn.rl {i k : Nat} {e : Ev} {nx : Option Ev} {s s' : Gs} {m : Nat} (h : Bn s m) (hr : rl i k e nx s = some s') : Bn s' (m + 1) := by
  unfold Gu.rl at hr
  split at hr
  · split at hr
    · cases hr
    · cases hr; exact h.mono (Nat.le_succ _)
  · rw [Option.map_eq_some_iff] at hr
    obtain ⟨q, hq, rfl⟩ := hr
    have := r2_len (st' := q.1) (pn' := q.2) hq
    exact ⟨by have := h.st; simp only; omega, Nat.le_succ_of_le h.ch, fun j d hd => Nat.le_succ_of_le (h.vs j d hd)⟩
  · rw [Option.map_eq_some_iff] at hr
    obtain ⟨q, hq, rfl⟩ := hr
    rcases r3_len hq with ⟨-, rfl⟩ | ⟨-, rfl, -⟩
    · refine ⟨Nat.le_succ_of_le h.st, by have := h.ch; simp; omega, fun j d hd => ?_⟩
      simp only at hd
      by_cases hj : j < s.ch.length
      · rw [List.getElem?_append_left hj] at hd
        exact Nat.le_succ_of_le (h.vs j d hd)
      · rw [List.getElem?_append_right (by omega)] at hd
        have : d = ⟨e.v, [], false⟩ := by
          have hl := (List.getElem?_eq_some_iff.1 hd).1
          simp at hl
          rw [hl] at hd
          simp at hd
          exact hd.symm
        rw [this]
        exact Nat.zero_le _
    · exact h.mono (Nat.le_succ _)
  · rw [Option.map_eq_some_iff] at hr
    obtain ⟨q, hq, rfl⟩ := hr
    exact ⟨Nat.le_succ_of_le h.st, Nat.le_succ_of_le h.ch, fun j d hd => Nat.le_succ_of_le (h.vs j d hd)⟩
  · rw [Option.map_eq_some_iff] at hr
    obtain ⟨q, hq, rfl⟩ := hr
    unfold r5 at hq
    split at hq
    · rw [Option.map_eq_some_iff] at hq
      obtain ⟨c, hc, rfl⟩ := hq
      refine ⟨Nat.le_succ_of_le h.st, by simp; exact Nat.le_succ_of_le h.ch, set_vs h.vs ?_⟩
      have := r5c_len hc
      have := getD_at (j := e.c.toNat) h.vs
      omega
    · cases hq; exact h.mono (Nat.le_succ _)
  · rw [Option.map_eq_some_iff] at hr
    obtain ⟨q, hq, rfl⟩ := hr
    have hg := getD_at (j := e.c.toNat) h.vs
    unfold r6 at hq
    simp only at hq
    repeat' split at hq
    all_goals first
      | (cases hq; done)
      | (cases hq; exact h.mono (Nat.le_succ _))
      | (cases hq; exact ⟨Nat.le_succ_of_le h.st, by simp; exact Nat.le_succ_of_le h.ch, set_vs h.vs (by simp only; omega)⟩)
theorem Bn.upto {i k : Nat} {e : Ev} {nx : Option Ev} {s s' : Gs} {m : Nat} (h : Bn s m) (hr : upto i k e nx s = some s') : Bn s' (m + i) := by
  induction i generalizing s' with
  | zero => cases hr; exact h
  | succ i ih =>
    unfold Gu.upto at hr
    rw [Option.bind_eq_some_iff] at hr
    obtain ⟨t, ht, hr⟩ := hr
    exact (ih ht).rl hr
theorem up_chk {i k : Nat} {e : Ev} {nx : Option Ev} {s s' : Gs} (hi : 1 ≤ i) (hr : upto i k e nx s = some s') : chk e = 0 := by
  induction i generalizing s' with
  | zero => omega
  | succ i ih =>
    unfold Gu.upto at hr
    rw [Option.bind_eq_some_iff] at hr
    obtain ⟨t, ht, hr⟩ := hr
    by_cases h0 : i = 0
    · subst h0
      unfold rl at hr
      simp only at hr
      split at hr
      · cases hr
      · omega
    · exact ih (by omega) ht
theorem up_in {k : Nat} {e : Ev} {nx : Option Ev} {s s' : Gs} (h2 : e.k ≠ 2) :
    (upto 4 k e nx s = some s' → e.c < s'.ch.length) ∧ (upto 5 k e nx s = some s' → e.c < s'.ch.length) := by
  have h3 : ∀ t, upto 3 k e nx s = some t → e.c < t.ch.length := fun t ht => by
    unfold upto at ht
    rw [Option.bind_eq_some_iff] at ht
    obtain ⟨u, -, hu⟩ := ht
    unfold rl at hu
    simp only at hu
    rw [Option.map_eq_some_iff] at hu
    obtain ⟨q, hq, rfl⟩ := hu
    rcases r3_len hq with ⟨q2, -⟩ | ⟨-, rfl, h⟩
    · exact absurd q2 h2
    · exact h
  have h4 : ∀ t, upto 4 k e nx s = some t → e.c < t.ch.length := fun t ht => by
    unfold upto at ht
    rw [Option.bind_eq_some_iff] at ht
    obtain ⟨u, hu0, hu⟩ := ht
    unfold rl at hu
    simp only at hu
    rw [Option.map_eq_some_iff] at hu
    obtain ⟨q, -, rfl⟩ := hu
    exact h3 u hu0
  refine ⟨h4 s', fun ht => ?_⟩
  unfold upto at ht
  rw [Option.bind_eq_some_iff] at ht
  obtain ⟨u, hu0, hu⟩ := ht
  unfold rl at hu
  simp only at hu
  rw [Option.map_eq_some_iff] at hu
  obtain ⟨q, hq, rfl⟩ := hu
  have := h4 u hu0
  unfold r5 at hq
  split at hq
  · rw [Option.map_eq_some_iff] at hq
    obtain ⟨c, -, rfl⟩ := hq
    simpa using this
  · cases hq; exact this
theorem c_pos {e : Ev} (h : chk e = 0) (hk : e.k = 3 ∨ e.k = 4 ∨ e.k = 5) : 0 ≤ e.c := by
  have f := fit_of h
  exact f.c (by omega)
/-- behind one rule -/
def RP (q : Option Gs) (N R : Nat) (ev : Value) (w : World) (r : Ending) (w' : World) : Prop := ((q = none ∧ r = .returned (.bool false)) ∨ ∃ s', q = some s' ∧ r = .returned (.bool true) ∧ GW w' N R ev s') ∧ Fb N w w'
section
variable {w w' : World} {N R k c : Nat} {ev : Value} {e : Ev} {nx : Option Ev} {s s0 : Gs} {r : Ending} {oa : Option Addr} {l : List Ev}
theorem rp1 (h : GoP (r2 s.st s.pn e) N R ev s w r w') : RP (rl 1 k e nx s) N R ev w r w' := by
  obtain ⟨h | ⟨st, pn, h1, h2, h3⟩, b⟩ := h
  · exact ⟨.inl ⟨by simp [rl, h.1], h.2⟩, b⟩
  · exact ⟨.inr ⟨_, by simp only [rl, h1]; rfl, h2, h3⟩, b⟩
theorem rp2 (h : ChP (r3 s.ch e) N R ev s w r w') : RP (rl 2 k e nx s) N R ev w r w' := by
  obtain ⟨h | ⟨st, h1, h2, h3⟩, b⟩ := h
  · exact ⟨.inl ⟨by simp [rl, h.1], h.2⟩, b⟩
  · exact ⟨.inr ⟨_, by simp only [rl, h1]; rfl, h2, h3⟩, b⟩
theorem rp3 (h : SeP (r4 s.la e) N R ev s w r w') : RP (rl 3 k e nx s) N R ev w r w' := by
  obtain ⟨h | ⟨st, h1, h2, h3⟩, b⟩ := h
  · exact ⟨.inl ⟨by simp [rl, h.1], h.2⟩, b⟩
  · exact ⟨.inr ⟨_, by simp only [rl, h1]; rfl, h2, h3⟩, b⟩
theorem rp4 (h : ChP (r5 s.ch e nx) N R ev s w r w') : RP (rl 4 k e nx s) N R ev w r w' := by
  obtain ⟨h | ⟨st, h1, h2, h3⟩, b⟩ := h
  · exact ⟨.inl ⟨by simp [rl, h.1], h.2⟩, b⟩
  · exact ⟨.inr ⟨_, by simp only [rl, h1]; rfl, h2, h3⟩, b⟩
theorem rp5 (h : ChP (r6 s.ch e) N R ev s w r w') : RP (rl 5 k e nx s) N R ev w r w' := by
  obtain ⟨h | ⟨st, h1, h2, h3⟩, b⟩ := h
  · exact ⟨.inl ⟨by simp [rl, h.1], h.2⟩, b⟩
  · exact ⟨.inr ⟨_, by simp only [rl, h1]; rfl, h2, h3⟩, b⟩
theorem c0_any (h : GW w N R (.slice oa l.length c) s) (hA : EsAt w oa l) (hi : l[k]? = some e) (hN : N ≤ w.heap.size) : Calls Tryz.prog 49 #[.pointer (some ⟨R, 0, none⟩), .int .i64 (k : Int)] w fun r w' => RP (rl 0 k e nx s) N R (.slice oa l.length c) w r w' := by
  refine (right_any h hA hi).mono ?_
  rintro r w' ⟨rfl, b⟩
  have hg : GW w' N R (.slice oa l.length c) s := by obtain ⟨mb, vs, D, cs, g⟩ := h; exact ⟨mb, vs, D, cs, g.below b⟩
  by_cases h1 : 2000 ≤ k ∨ chk e ≠ 0
  · refine ⟨.inl ⟨by unfold rl; simp only; rw [if_pos h1], ?_⟩, Fb.of b hN⟩
    have : (decide (2000 ≤ k) || decide (chk e ≠ 0)) = true := by simpa using h1
    rw [this]; rfl
  · refine ⟨.inr ⟨s, by unfold rl; simp only; rw [if_neg h1], ?_, hg⟩, Fb.of b hN⟩
    have : (decide (2000 ≤ k) || decide (chk e ≠ 0)) = false := by
      rw [Bool.eq_false_iff]; intro q; exact h1 (by simpa using q)
    rw [this]; rfl
theorem c1_any (h : GW w N R (.slice oa l.length c) s) (hA : EsAt w oa l) (hi : l[k]? = some e) (hN : N ≤ w.heap.size) (bn : Bn s 3000) (hu : upto 1 k e nx s0 = some s) : Calls Tryz.prog 50 #[.pointer (some ⟨R, 0, none⟩), .int .i64 (k : Int)] w fun r w' => RP (rl 1 k e nx s) N R (.slice oa l.length c) w r w' :=
  (gor_any h hA hi (fit_of (up_chk (by decide) hu)).g bn.st hN).mono fun _ _ q => rp1 q
theorem c2_any (h : GW w N R (.slice oa l.length c) s) (hA : EsAt w oa l) (hi : l[k]? = some e) (hN : N ≤ w.heap.size) (bn : Bn s 3000) : Calls Tryz.prog 51 #[.pointer (some ⟨R, 0, none⟩), .int .i64 (k : Int)] w fun r w' => RP (rl 2 k e nx s) N R (.slice oa l.length c) w r w' :=
  (numb_any h hA hi bn.ch hN).mono fun _ _ q => rp2 q
theorem c3_any (h : GW w N R (.slice oa l.length c) s) (hA : EsAt w oa l) (hi : l[k]? = some e) (hN : N ≤ w.heap.size) : Calls Tryz.prog 52 #[.pointer (some ⟨R, 0, none⟩), .int .i64 (k : Int)] w fun r w' => RP (rl 3 k e nx s) N R (.slice oa l.length c) w r w' :=
  (serv_any h hA hi hN).mono fun _ _ q => rp3 q
theorem c4_any (h : GW w N R (.slice oa l.length c) s) (hA : EsAt w oa l) (hi : l[k]? = some e) (hN : N ≤ w.heap.size) (bn : Bn s 3000) (hll : l.length ≤ 4000) (hu : upto 4 k e l[k + 1]? s0 = some s) : Calls Tryz.prog 53 #[.pointer (some ⟨R, 0, none⟩), .int .i64 (k : Int)] w fun r w' => RP (rl 4 k e l[k + 1]? s) N R (.slice oa l.length c) w r w' :=
  (ord_any h hA hi (chk_c (up_chk (by decide) hu)) (fun q => by
    have h3 := moves_k q
    exact ⟨c_pos (up_chk (by decide) hu) (by omega), (up_in (by omega)).1 hu⟩) bn.ch bn.vs hll hN).mono fun _ _ q => rp4 q
theorem c5_any (h : GW w N R (.slice oa l.length c) s) (hA : EsAt w oa l) (hi : l[k]? = some e) (hN : N ≤ w.heap.size) (bn : Bn s 3000) (hu : upto 5 k e nx s0 = some s) : Calls Tryz.prog 54 #[.pointer (some ⟨R, 0, none⟩), .int .i64 (k : Int)] w fun r w' => RP (rl 5 k e nx s) N R (.slice oa l.length c) w r w' :=
  (clos_any h hA hi (chk_c (up_chk (by decide) hu)) (fun q => ⟨c_pos (up_chk (by decide) hu) q, (up_in (by omega)).2 hu⟩) bn.ch bn.vs hN).mono fun _ _ q => rp5 q
end
/-- behind all rules -/
def BrP (k : Nat) (e : Ev) (nx : Option Ev) (s : Gs) (N R : Nat) (ev : Value) (w : World) (r : Ending) (w' : World) : Prop :=
  ((∃ n : Int, stepG s k e nx = .error n ∧ r = .returned (.int .i64 n)) ∨ ∃ s', stepG s k e nx = .ok s' ∧ r = .returned (.int .i64 0) ∧ GW w' N R ev s') ∧ Fb N w w'
theorem BrP.no {k n : Nat} {e : Ev} {nx : Option Ev} {s s' : Gs} {N R : Nat} {ev : Value} {w w' : World} {v : Int} (hn : n < 6) (hu : upto n k e nx s = some s') (hr : rl n k e nx s' = none) (hv : v = (n : Int) + 1) (b : Fb N w w') : BrP k e nx s N R ev w (.returned (.int .i64 v)) w' := by
  subst hv
  have key : ∀ a b, a ≤ b → ∀ t, upto b k e nx s = some t → ∃ u, upto a k e nx s = some u := by
    intro a b hab
    induction b with
    | zero => intro t ht; have : a = 0 := by omega
              subst this; exact ⟨t, ht⟩
    | succ b ih =>
      intro t ht
      by_cases hq : a = b + 1
      · subst hq; exact ⟨t, ht⟩
      · unfold upto at ht
        rw [Option.bind_eq_some_iff] at ht
        obtain ⟨u, hu, -⟩ := ht
        exact ih (by omega) u hu
  have stop : ∀ m, n < m → ∀ t, upto m k e nx s = some t → False := fun m hm t ht => by
    obtain ⟨u, hu'⟩ := key (n + 1) m hm t ht
    unfold upto at hu'
    rw [hu] at hu'
    simp [hr] at hu'
  rcases stepG_rl s k e nx with ⟨m, t, hm, h1, h2, h3⟩ | ⟨t, h1, -⟩
  · have : m = n := by
      rcases Nat.lt_trichotomy m n with q | q | q
      · obtain ⟨u, hu'⟩ := key (m + 1) n q s' hu
        unfold upto at hu'
        rw [h1] at hu'
        simp [h2] at hu'
      · exact q
      · exact (stop m q t h1).elim
    subst this
    exact ⟨.inl ⟨_, h3, rfl⟩, b⟩
  · exact (stop 6 hn t h1).elim
theorem BrP.yes {k : Nat} {e : Ev} {nx : Option Ev} {s s' : Gs} {N R : Nat} {ev : Value} {w w' : World} (hu : upto 6 k e nx s = some s') (g : GW w' N R ev s') (b : Fb N w w') : BrP k e nx s N R ev w (.returned (.int .i64 0)) w' := by
  rcases stepG_rl s k e nx with ⟨m, t, hm, h1, h2, h3⟩ | ⟨t, h1, h2⟩
  · exfalso
    have key : ∀ b, m < b → upto b k e nx s = none := by
      intro b hb
      induction b with
      | zero => omega
      | succ b ih =>
        unfold upto
        by_cases hq : b = m
        · subst hq; rw [h1]; simp [h2]
        · rw [ih (by omega)]; rfl
    rw [key 6 hm] at hu
    cases hu
  · rw [h1] at hu
    cases hu
    exact ⟨.inr ⟨_, h2, rfl, g⟩, b⟩
def fv (R : Nat) (f : Nat) : Value := .func (.func f) #[.pointer (some ⟨R, 0, none⟩)] #[]
set_option maxRecDepth 100000 in
set_option maxHeartbeats 6400000 in
theorem bro_any {w0 w : World} {N R B c k : Nat} {oa : Option Addr} {l : List Ev} {s : Gs} {e : Ev} (h : GW w N R (.slice oa l.length c) s) (hA : EsAt w0 oa l) (hN0 : N = w0.heap.size) (hb0 : Below N w0 w) (hi : l[k]? = some e) (bn : Bn s 2900) (hll : l.length ≤ 4000) (hB : w.heap[B]? = some (.cells #[fv R 49, fv R 50, fv R 51, fv R 52, fv R 53, fv R 54] 43 (0, 0))) :
    Calls Tryz.prog 48 #[.int .i64 (k : Int), .slice (some ⟨B, 0, none⟩) 6 6] w fun r w' => BrP k e l[k + 1]? s N R (.slice oa l.length c) w r w' := by
  have HH := hide h
  have HA := hide hA
  have HI := hide hi
  have BN := hide bn
  have HB := hide hB
  have HB0 := hide hb0
  have hNw : N ≤ w.heap.size := by rw [hN0]; exact hN0 ▸ hb0.size
  have HN := hide hNw
  have HN0 := hide hN0
  obtain ⟨nx, hnx⟩ : ∃ nx, l[k + 1]? = nx := ⟨_, rfl⟩
  obtain ⟨ev, hev⟩ : ∃ ev, Value.slice oa l.length c = ev := ⟨_, rfl⟩
  have HNX := hide hnx
  have HEV := hide hev
  rw [hnx, hev]
  rw [hev] at HH
  have HLL := hide hll
  clear h hA hi bn hB hb0 hnx hev hN0 hNw hll
  go_enter Tryz.func48, Tryz.ntmps48
  go_wp2_with fail
  go_loopw [9] (fun i wr => ∃ (n : Nat) (t : Gs), n ≤ 6 ∧ i = .int .i64 (n : Int) ∧ upto n k e nx s = some t ∧ GW wr N R ev t ∧ Fb N w wr) (fun i _ => 6 - (intOf i).toNat)
  case atStart => exact ⟨0, s, Nat.zero_le _, rfl, rfl, HH.out, Fb.of (Below.refl _ _) HN.out⟩
  case round =>
    obtain ⟨n, t, hn, rfl, hu, g, fb⟩ := hrel
    have HU := hide hu
    have HG := hide g
    have FB := hide fb
    have HW : Hid (N ≤ wr.heap.size) := by have := FB.out.size; have := HN.out; show N ≤ _; omega
    have EA : Hid (EsAt wr oa l) := HA.out.below (by rw [← HN0.out]; exact HB0.out.trans FB.out.b)
    have CB := hide (FB.out.f _ _ HB.out)
    have B3 := hide ((BN.out.upto HU.out).mono (show 2900 + n ≤ 3000 by omega))
    clear hu g fb
    by_cases hlt : n < 6
    · have hlt' : (n : Int) < 6 := by omega
      have hcs : n = 0 ∨ n = 1 ∨ n = 2 ∨ n = 3 ∨ n = 4 ∨ n = 5 := by omega
      rcases hcs with q | q | q | q | q | q
      · have cf : wr.cell? ⟨B, n, none⟩ = some (.func (.func 49) #[.pointer (some ⟨R, 0, none⟩)] #[]) := by rw [q]; exact cell_of CB.out 0
        have CT : Hid (Calls Tryz.prog 49 #[.pointer (some ⟨R, 0, none⟩), .int .i64 (k : Int)] wr fun r w' => RP (rl n k e nx t) N R ev wr r w') := by
          show Calls _ _ _ _ _
          have g := HG.out
          have ea := EA.out
          have hu := HU.out
          rw [q] at hu ⊢
          rw [← HEV.out] at g ⊢
          rw [← HNX.out] at hu ⊢
          exact c0_any g ea HI.out HW.out
        clear q
        go_wp2_with fail
        refine CT.out.mono ?_
        rintro r w1 ⟨⟨hq, rfl⟩ | ⟨t', hq, rfl, g'⟩, fb1⟩
        · have HQ := hide hq
          have FB1 := hide (FB.out.trans fb1)
          clear hq fb1
          go_wp2_with fail
          go_ret
          exact BrP.no hlt HU.out HQ.out rfl FB1.out
        · have HQ : Hid (upto (n + 1) k e nx s = some t') := by show _ = _; unfold upto; rw [HU.out]; exact hq
          have FB1 := hide (FB.out.trans fb1)
          have G1 := hide g'
          clear hq fb1 g'
          go_wp2_with fail
          go_roundw
          case measure => simp [intOf]; omega
          case rel => exact ⟨n + 1, t', by omega, by simp, HQ.out, G1.out, FB1.out⟩
      · have cf : wr.cell? ⟨B, n, none⟩ = some (.func (.func 50) #[.pointer (some ⟨R, 0, none⟩)] #[]) := by rw [q]; exact cell_of CB.out 1
        have CT : Hid (Calls Tryz.prog 50 #[.pointer (some ⟨R, 0, none⟩), .int .i64 (k : Int)] wr fun r w' => RP (rl n k e nx t) N R ev wr r w') := by
          show Calls _ _ _ _ _
          have g := HG.out
          have ea := EA.out
          have hu := HU.out
          rw [q] at hu ⊢
          rw [← HEV.out] at g ⊢
          rw [← HNX.out] at hu ⊢
          exact c1_any g ea HI.out HW.out B3.out hu
        clear q
        go_wp2_with fail
        refine CT.out.mono ?_
        rintro r w1 ⟨⟨hq, rfl⟩ | ⟨t', hq, rfl, g'⟩, fb1⟩
        · have HQ := hide hq
          have FB1 := hide (FB.out.trans fb1)
          clear hq fb1
          go_wp2_with fail
          go_ret
          exact BrP.no hlt HU.out HQ.out rfl FB1.out
        · have HQ : Hid (upto (n + 1) k e nx s = some t') := by show _ = _; unfold upto; rw [HU.out]; exact hq
          have FB1 := hide (FB.out.trans fb1)
          have G1 := hide g'
          clear hq fb1 g'
          go_wp2_with fail
          go_roundw
          case measure => simp [intOf]; omega
          case rel => exact ⟨n + 1, t', by omega, by simp, HQ.out, G1.out, FB1.out⟩
      · have cf : wr.cell? ⟨B, n, none⟩ = some (.func (.func 51) #[.pointer (some ⟨R, 0, none⟩)] #[]) := by rw [q]; exact cell_of CB.out 2
        have CT : Hid (Calls Tryz.prog 51 #[.pointer (some ⟨R, 0, none⟩), .int .i64 (k : Int)] wr fun r w' => RP (rl n k e nx t) N R ev wr r w') := by
          show Calls _ _ _ _ _
          have g := HG.out
          have ea := EA.out
          have hu := HU.out
          rw [q] at hu ⊢
          rw [← HEV.out] at g ⊢
          rw [← HNX.out] at hu ⊢
          exact c2_any g ea HI.out HW.out B3.out
        clear q
        go_wp2_with fail
        refine CT.out.mono ?_
        rintro r w1 ⟨⟨hq, rfl⟩ | ⟨t', hq, rfl, g'⟩, fb1⟩
        · have HQ := hide hq
          have FB1 := hide (FB.out.trans fb1)
          clear hq fb1
          go_wp2_with fail
          go_ret
          exact BrP.no hlt HU.out HQ.out rfl FB1.out
        · have HQ : Hid (upto (n + 1) k e nx s = some t') := by show _ = _; unfold upto; rw [HU.out]; exact hq
          have FB1 := hide (FB.out.trans fb1)
          have G1 := hide g'
          clear hq fb1 g'
          go_wp2_with fail
          go_roundw
          case measure => simp [intOf]; omega
          case rel => exact ⟨n + 1, t', by omega, by simp, HQ.out, G1.out, FB1.out⟩
      · have cf : wr.cell? ⟨B, n, none⟩ = some (.func (.func 52) #[.pointer (some ⟨R, 0, none⟩)] #[]) := by rw [q]; exact cell_of CB.out 3
        have CT : Hid (Calls Tryz.prog 52 #[.pointer (some ⟨R, 0, none⟩), .int .i64 (k : Int)] wr fun r w' => RP (rl n k e nx t) N R ev wr r w') := by
          show Calls _ _ _ _ _
          have g := HG.out
          have ea := EA.out
          have hu := HU.out
          rw [q] at hu ⊢
          rw [← HEV.out] at g ⊢
          rw [← HNX.out] at hu ⊢
          exact c3_any g ea HI.out HW.out
        clear q
        go_wp2_with fail
        refine CT.out.mono ?_
        rintro r w1 ⟨⟨hq, rfl⟩ | ⟨t', hq, rfl, g'⟩, fb1⟩
        · have HQ := hide hq
          have FB1 := hide (FB.out.trans fb1)
          clear hq fb1
          go_wp2_with fail
          go_ret
          exact BrP.no hlt HU.out HQ.out rfl FB1.out
        · have HQ : Hid (upto (n + 1) k e nx s = some t') := by show _ = _; unfold upto; rw [HU.out]; exact hq
          have FB1 := hide (FB.out.trans fb1)
          have G1 := hide g'
          clear hq fb1 g'
          go_wp2_with fail
          go_roundw
          case measure => simp [intOf]; omega
          case rel => exact ⟨n + 1, t', by omega, by simp, HQ.out, G1.out, FB1.out⟩
      · have cf : wr.cell? ⟨B, n, none⟩ = some (.func (.func 53) #[.pointer (some ⟨R, 0, none⟩)] #[]) := by rw [q]; exact cell_of CB.out 4
        have CT : Hid (Calls Tryz.prog 53 #[.pointer (some ⟨R, 0, none⟩), .int .i64 (k : Int)] wr fun r w' => RP (rl n k e nx t) N R ev wr r w') := by
          show Calls _ _ _ _ _
          have g := HG.out
          have ea := EA.out
          have hu := HU.out
          rw [q] at hu ⊢
          rw [← HEV.out] at g ⊢
          rw [← HNX.out] at hu ⊢
          exact c4_any g ea HI.out HW.out B3.out HLL.out hu
        clear q
        go_wp2_with fail
        refine CT.out.mono ?_
        rintro r w1 ⟨⟨hq, rfl⟩ | ⟨t', hq, rfl, g'⟩, fb1⟩
        · have HQ := hide hq
          have FB1 := hide (FB.out.trans fb1)
          clear hq fb1
          go_wp2_with fail
          go_ret
          exact BrP.no hlt HU.out HQ.out rfl FB1.out
        · have HQ : Hid (upto (n + 1) k e nx s = some t') := by show _ = _; unfold upto; rw [HU.out]; exact hq
          have FB1 := hide (FB.out.trans fb1)
          have G1 := hide g'
          clear hq fb1 g'
          go_wp2_with fail
          go_roundw
          case measure => simp [intOf]; omega
          case rel => exact ⟨n + 1, t', by omega, by simp, HQ.out, G1.out, FB1.out⟩
      · have cf : wr.cell? ⟨B, n, none⟩ = some (.func (.func 54) #[.pointer (some ⟨R, 0, none⟩)] #[]) := by rw [q]; exact cell_of CB.out 5
        have CT : Hid (Calls Tryz.prog 54 #[.pointer (some ⟨R, 0, none⟩), .int .i64 (k : Int)] wr fun r w' => RP (rl n k e nx t) N R ev wr r w') := by
          show Calls _ _ _ _ _
          have g := HG.out
          have ea := EA.out
          have hu := HU.out
          rw [q] at hu ⊢
          rw [← HEV.out] at g ⊢
          rw [← HNX.out] at hu ⊢
          exact c5_any g ea HI.out HW.out B3.out hu
        clear q
        go_wp2_with fail
        refine CT.out.mono ?_
        rintro r w1 ⟨⟨hq, rfl⟩ | ⟨t', hq, rfl, g'⟩, fb1⟩
        · have HQ := hide hq
          have FB1 := hide (FB.out.trans fb1)
          clear hq fb1
          go_wp2_with fail
          go_ret
          exact BrP.no hlt HU.out HQ.out rfl FB1.out
        · have HQ : Hid (upto (n + 1) k e nx s = some t') := by show _ = _; unfold upto; rw [HU.out]; exact hq
          have FB1 := hide (FB.out.trans fb1)
          have G1 := hide g'
          clear hq fb1 g'
          go_wp2_with fail
          go_roundw
          case measure => simp [intOf]; omega
          case rel => exact ⟨n + 1, t', by omega, by simp, HQ.out, G1.out, FB1.out⟩
    · have hge : n = 6 := by omega
      have dl : decide ((n : Int) < 6) = false := by simp; omega
      have dl2 : decide (n < 6) = false := by simp; omega
      rw [hge] at HU
      clear hge hlt
      go_wp2_with fail
      go_ret
      exact BrP.yes HU.out HG.out FB.out
end Gu
end Go.Proofs.YtakbbhngcdccpaaGreat
