/- A run's trace in which one event stands twice; without memory. -/
import Derived.Test.YtkkgbeaaekmhfaaGreatZjGl12
import Derived.Test.YtkkgbeaaekmhfaaGreatQr9
namespace Go.Proofs.YtkkgbeaaekmhfaaGreat
namespace Gu
open En

theorem stepH_in {gs g1 : Gs} {e : Ev} {nx : Option Ev} (h : stepH gs e nx = some g1) : ∃ ch3 ch5, r2 gs.st gs.pn e = some (g1.st, g1.pn) ∧ r3 gs.ch e = some ch3 ∧ r4 gs.la e = some g1.la ∧ r5 ch3 e nx = some ch5 ∧ r6 ch5 e = some g1.ch := by
  unfold stepH at h
  split at h
  · cases h
  · rename_i st pn e2
    split at h
    · cases h
    · rename_i ch3 e3
      split at h
      · cases h
      · rename_i la e4
        split at h
        · cases h
        · rename_i ch5 e5
          split at h
          · cases h
          · rename_i ch6 e6
            cases h
            exact ⟨ch3, ch5, e2, e3, e4, e5, e6⟩
theorem stepH_of {gs : Gs} {e : Ev} {nx : Option Ev} {st : List Int} {pn : Bool} {ch3 ch5 ch6 : List Chn} {la : Ev} (h2 : r2 gs.st gs.pn e = some (st, pn)) (h3 : r3 gs.ch e = some ch3) (h4 : r4 gs.la e = some la) (h5 : r5 ch3 e nx = some ch5) (h6 : r6 ch5 e = some ch6) : stepH gs e nx = some ⟨st, pn, ch6, la⟩ := by
  unfold stepH
  rw [h2]
  simp only [h3, h4, h5, h6]
theorem stepG_h {gs g1 : Gs} {i : Nat} {e : Ev} {nx : Option Ev} (h : stepG gs i e nx = .ok g1) : stepH gs e nx = some g1 := by
  unfold stepG at h
  split at h
  · cases h
  · split at h
    · cases h
    · rename_i st pn e2
      split at h
      · cases h
      · rename_i ch3 e3
        split at h
        · cases h
        · rename_i la e4
          split at h
          · cases h
          · rename_i ch5 e5
            split at h
            · cases h
            · rename_i ch6 e6
              cases h
              exact stepH_of e2 e3 e4 e5 e6
theorem r5_still {ch : List Chn} {e : Ev} (h3 : e.k ≠ 3) (h4 : e.k ≠ 4) (nx : Option Ev) : r5 ch e nx = some ch := by
  unfold r5 moves
  simp [h3, h4]
/-- an event that moves no value is read whatever comes next -/
theorem stepH_nx {gs g1 : Gs} {e : Ev} {nx : Option Ev} (h3 : e.k ≠ 3) (h4 : e.k ≠ 4) (h : stepH gs e nx = some g1) (nx' : Option Ev) : stepH gs e nx' = some g1 := by
  obtain ⟨ch3, ch5, a2, a3, a4, a5, a6⟩ := stepH_in h
  rw [r5_still h3 h4] at a5
  exact stepH_of a2 a3 a4 ((r5_still h3 h4 nx').trans a5) a6
def quiet (e : Ev) : Prop := e.k = 8 ∨ e.k = 9 ∨ e.k = 10 ∨ e.k = 13
/-- a quiet event twice is as once -/
theorem stepH_quiet {gs g1 : Gs} {e : Ev} {nx : Option Ev} (hq : quiet e) (h : stepH gs e nx = some g1) (nx' : Option Ev) : stepH g1 e nx' = some g1 := by
  obtain ⟨ch3, ch5, a2, a3, a4, a5, a6⟩ := stepH_in h
  have k3 : e.k ≠ 3 := by rcases hq with q | q | q | q <;> omega
  have k4 : e.k ≠ 4 := by rcases hq with q | q | q | q <;> omega
  have e3 : ch3 = gs.ch := by
    unfold r3 at a3
    rw [if_neg (by rcases hq with q | q | q | q <;> omega)] at a3
    split at a3
    · cases a3; rfl
    · cases a3
  rw [r5_still k3 k4] at a5
  cases a5
  have e6 : g1.ch = ch3 := by
    unfold r6 at a6
    simp only at a6
    rw [if_neg (by rcases hq with q | q | q | q <;> omega), if_neg k3, if_neg k4] at a6
    cases a6; rfl
  have e2 : g1.st = gs.st ∧ g1.pn = gs.pn := by
    unfold r2 at a2
    split at a2
    · cases a2
    · split at a2
      · simp only [Option.some.injEq, Prod.mk.injEq] at a2
        exact ⟨a2.1.symm, a2.2.symm⟩
      · split at a2
        · cases a2
        · split at a2
          · cases a2
          · rw [if_neg (by rcases hq with q | q | q | q <;> omega), if_neg (by rcases hq with q | q | q | q <;> omega), if_neg (by rcases hq with q | q | q | q <;> omega), if_neg (by rcases hq with q | q | q | q <;> omega), if_neg (by rcases hq with q | q | q | q <;> omega)] at a2
            simp only [Option.some.injEq, Prod.mk.injEq] at a2
            exact ⟨a2.1.symm, a2.2.symm⟩
  have e4 : g1.la = e := by
    unfold r4 at a4
    split at a4
    · split at a4
      · cases a4; rfl
      · cases a4
    · rw [if_pos (by rcases hq with q | q | q | q <;> omega)] at a4
      cases a4; rfl
  have h4 : r4 e e = some e := by
    unfold r4 owed
    have k7 : e.k ≠ 7 := by rcases hq with q | q | q | q <;> omega
    simp [k3, k4, k7]
  have : stepH g1 e nx' = some ⟨g1.st, g1.pn, g1.ch, e⟩ := by
    refine stepH_of (ch3 := ch3) (ch5 := ch3) ?_ ?_ (by rw [e4]; exact h4) (r5_still k3 k4 _) a6
    · rw [e2.1, e2.2, ← e2.1, ← e2.2] at a2 ⊢
      rw [e2.1, e2.2] at a2 ⊢
      exact a2
    · rw [e6, e3]
      rw [e3] at a3
      exact a3
  rw [this]
  cases g1
  simp only at e4
  rw [e4]
theorem AccH.dup {e : Ev} {rest : List Ev} (hq : quiet e) : ∀ {pre : List Ev} {a c : Gs}, AccH a (pre ++ e :: rest) c → AccH a (pre ++ e :: e :: rest) c
  | [], a, c, h => by
    obtain ⟨g1, h1, h2, h3⟩ := h
    have k3 : e.k ≠ 3 := by rcases hq with q | q | q | q <;> omega
    have k4 : e.k ≠ 4 := by rcases hq with q | q | q | q <;> omega
    have q1 := h1 rest.head? (fun _ => rfl)
    exact ⟨g1, fun nx _ => stepH_nx k3 k4 q1 nx, h2, g1, fun nx _ => stepH_quiet hq q1 nx, ⟨g1, stepH_quiet hq q1 none⟩, h3⟩
  | x :: pre, a, c, h => by
    obtain ⟨g1, h1, h2, h3⟩ := h
    refine ⟨g1, fun nx hnx => h1 nx fun _ => ?_, h2, h3.dup hq⟩
    rw [hnx (by simp)]
    cases pre <;> rfl
/-- an event that may not stand twice -/
def loud (e : Ev) : Prop := e.k = 1 ∨ e.k = 2 ∨ e.k = 5 ∨ e.k = 6 ∨ e.k = 7 ∨ e.k = 11 ∨ e.k = 12
theorem getD_set (st : List Int) (k : Nat) (v : Int) (h : k < st.length) : (st.set k v).getD k 0 = v := by simp [List.getD_eq_getElem?_getD, h]
theorem r2_known {st st' : List Int} {pn pn' : Bool} {e : Ev} (h : r2 st pn e = some (st', pn')) (h13 : e.k ≠ 13) : pn = false ∧ e.g < st.length ∧ may (st.getD e.g.toNat 0) e.k = true ∧ (e.k = 1 → e.m = st.length ∧ st' = st ++ [0]) ∧ (e.k = 6 → st' = st.set e.g.toNat 1) ∧ (e.k = 7 → st' = st.set e.g.toNat 0) ∧ (e.k = 11 → st' = st.set e.g.toNat 2) ∧ (e.k = 12 → pn' = true) := by
  unfold r2 at h
  split at h
  · cases h
  · rename_i p0
    try rw [if_neg h13] at h
    split at h
    · cases h
    · rename_i p1
      split at h
      · cases h
      · rename_i p2
        refine ⟨by simpa using p0, by omega, by simpa using p2, fun q => ?_, fun q => ?_, fun q => ?_, fun q => ?_, fun q => ?_⟩
        · rw [if_pos q] at h
          split at h
          · cases h
          · rename_i p3
            cases h
            exact ⟨by omega, rfl⟩
        · rw [if_neg (by omega), if_pos q] at h
          cases h; rfl
        · rw [if_neg (by omega), if_neg (by omega), if_pos q] at h
          cases h; rfl
        · rw [if_neg (by omega), if_neg (by omega), if_neg (by omega), if_pos q] at h
          cases h; rfl
        · rw [if_neg (by omega), if_neg (by omega), if_neg (by omega), if_neg (by omega), if_pos q] at h
          cases h; rfl
theorem stepH_loud {gs g1 : Gs} {e : Ev} {nx : Option Ev} (hl : loud e) (hf : Fit e) (h : stepH gs e nx = some g1) (nx' : Option Ev) : stepH g1 e nx' = none := by
  cases hz : stepH g1 e nx' with
  | none => rfl
  | some g2 =>
  exfalso
  obtain ⟨ch3, ch5, a2, a3, a4, a5, a6⟩ := stepH_in h
  obtain ⟨dh3, dh5, b2, b3, b4, b5, b6⟩ := stepH_in hz
  have h13 : e.k ≠ 13 := by rcases hl with q | q | q | q | q | q | q <;> omega
  have hg := hf.g h13
  obtain ⟨p1, p2, p3, p4, p5, p6, p7, p8⟩ := r2_known a2 h13
  obtain ⟨q1, q2, q3, q4, q5, q6, q7, q8⟩ := r2_known b2 h13
  have hgl : e.g.toNat < gs.st.length := by omega
  rcases hl with q | q | q | q | q | q | q
  · obtain ⟨u1, u2⟩ := p4 q
    obtain ⟨v1, v2⟩ := q4 q
    rw [u2] at v1
    simp at v1
    omega
  · rw [r5_still (by omega) (by omega)] at a5
    cases a5
    unfold r3 at a3 b3
    rw [if_pos q] at a3 b3
    split at a3
    · cases a3
    · rename_i w
      cases a3
      unfold r6 at a6
      simp only at a6
      rw [if_neg (by omega), if_neg (by omega), if_neg (by omega)] at a6
      simp only [Option.some.injEq] at a6
      rw [← a6] at b3
      split at b3
      · cases b3
      · rename_i w2
        simp at w w2
        omega
  · rw [r5_still (by omega) (by omega)] at a5 b5
    cases a5
    cases b5
    have hc := hf.c (.inr (.inr (.inr q)))
    unfold r3 at a3 b3
    rw [if_neg (by omega)] at a3 b3
    split at a3
    · rename_i w
      cases a3
      split at b3
      · cases b3
        unfold r6 at a6 b6
        simp only at a6 b6
        rw [if_pos q] at a6 b6
        split at a6
        · cases a6
        · simp only [Option.some.injEq] at a6
          rw [← a6] at b6
          rw [if_pos (by simp [List.getD_eq_getElem?_getD, show e.c.toNat < gs.ch.length by omega])] at b6
          cases b6
      · cases b3
    · cases a3
  · rw [p5 q, getD_set _ _ _ hgl] at q3
    unfold may at q3
    simp [q] at q3
  · rw [p6 q, getD_set _ _ _ hgl] at q3
    unfold may at q3
    simp [q] at q3
  · rw [p7 q, getD_set _ _ _ hgl] at q3
    unfold may at q3
    simp [q] at q3
  · rw [p8 q] at q1
    cases q1
/-- where such an event stands twice a rule is broken, at the second at the latest -/
theorem AccH.spoil {e : Ev} {rest : List Ev} (hl : loud e) (hc : chk e = 0) : ∀ {pre : List Ev} {a c : Gs} {i : Nat}, AccH a (pre ++ e :: rest) c → (∀ x ∈ pre, chk x = 0) → ∀ m : List Ev, IG m i a → m.drop i = pre ++ e :: e :: rest → i + pre.length + 2 ≤ 2000 → ∃ j x, j ≤ i + pre.length + 1 ∧ m[j]? = some x ∧ ruleD m j x ≠ 0
  | [], a, c, i, h, _, m, I, hd, hn => by
    obtain ⟨g1, h1, -, -⟩ := h
    have k3 : e.k ≠ 3 := by rcases hl with q | q | q | q | q | q | q <;> omega
    have k4 : e.k ≠ 4 := by rcases hl with q | q | q | q | q | q | q <;> omega
    have q1 := h1 rest.head? (fun _ => rfl)
    have he : m[i]? = some e := by
      have := congrArg List.head? hd
      simpa using this
    have hr : m.drop (i + 1) = e :: rest := by
      have := congrArg List.tail hd
      simpa using this
    have he2 : m[i + 1]? = some e := by
      have := congrArg List.head? hr
      simpa using this
    have s1 := stepH_g (i := i) (stepH_nx k3 k4 q1 m[i + 1]?) (by simp at hn; omega) hc
    rcases stepG_is I he with ⟨n, _, _, q⟩ | ⟨_, s', q, I'⟩
    · rw [s1] at q; cases q
    · rw [s1] at q
      cases q
      rcases stepG_is I' he2 with ⟨n, n0, r, _⟩ | ⟨_, s2, q, _⟩
      · exact ⟨i + 1, e, by simp, he2, by rw [r]; exact n0⟩
      · have := stepG_h q
        rw [stepH_loud hl (fit_of hc) q1] at this
        cases this
  | x :: pre, a, c, i, h, hp, m, I, hd, hn => by
    obtain ⟨g1, h1, -, h3⟩ := h
    have he : m[i]? = some x := by
      have := congrArg List.head? hd
      simpa using this
    have hr : m.drop (i + 1) = pre ++ e :: e :: rest := by
      have := congrArg List.tail hd
      simpa using this
    have hh : m[i + 1]? = (pre ++ e :: rest).head? := by
      have := congrArg List.head? hr
      simp only [List.head?_drop] at this
      rw [this]
      cases pre <;> rfl
    have s1 := stepH_g (i := i) (h1 m[i + 1]? (fun _ => hh)) (by simp at hn; omega) (hp x (by simp))
    rcases stepG_is I he with ⟨n, _, _, q⟩ | ⟨_, s', q, I'⟩
    · rw [s1] at q; cases q
    · rw [s1] at q
      cases q
      obtain ⟨j, y, hj, hy, hr2⟩ := h3.spoil hl hc (fun y hy => hp y (by simp [hy])) m I' hr (by simp at hn ⊢; omega)
      exact ⟨j, y, by simp at hj ⊢; omega, hy, hr2⟩
end Gu
end Go.Proofs.YtkkgbeaaekmhfaaGreat
