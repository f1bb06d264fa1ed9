/- A trace that the reader takes event by event keeps all rules, and so does each beginning of it; without memory. -/
import Derived.Test.YtkkgbeaaekmhfaaGreatZjGl12
namespace Go.Proofs.YtkkgbeaaekmhfaaGreat
namespace Gu
open En

/-- the reader takes all, whatever comes behind; and each as a last one -/
def Acc : Gs → Nat → List Ev → Gs → Prop
  | gs, _, [], g' => g' = gs
  | gs, i, e :: es, g' => ∃ g1, (∀ nx, (es ≠ [] → nx = es.head?) → stepG gs i e nx = .ok g1) ∧ (∃ g2, stepG gs i e none = .ok g2) ∧ Acc g1 (i + 1) es g'
theorem Acc.app : ∀ {es fs : List Ev} {a b c : Gs} {i : Nat}, Acc a i es b → Acc b (i + es.length) fs c → Acc a i (es ++ fs) c
  | [], fs, a, b, c, i, h, k => by
    have : b = a := h
    subst this
    exact k
  | e :: es, fs, a, b, c, i, h, k => by
    obtain ⟨g1, h1, h2, h3⟩ := h
    refine ⟨g1, fun nx hnx => h1 nx fun hne => ?_, h2, h3.app ?_⟩
    · cases es with
      | nil => exact absurd rfl hne
      | cons x es => exact hnx (by simp)
    · have : i + 1 + es.length = i + (e :: es).length := by simp; omega
      rw [this]
      exact k
theorem Acc.one {gs g' : Gs} {i : Nat} {e : Ev} (h : ∀ nx, stepG gs i e nx = .ok g') : Acc gs i [e] g' := ⟨g', fun nx _ => h nx, ⟨g', h none⟩, rfl⟩
theorem Acc.snoc {es : List Ev} {a b c : Gs} {i : Nat} {e : Ev} (h : Acc a i es b) (k : ∀ nx, stepG b (i + es.length) e nx = .ok c) : Acc a i (es ++ [e]) c := h.app (Acc.one k)
theorem Acc.rules : ∀ {es : List Ev} {gs g' : Gs} {i : Nat}, Acc gs i es g' → ∀ (m : List Ev), IG m i gs → (∃ fs, es = m.drop i ++ fs) → ∀ j x, i ≤ j → m[j]? = some x → ruleD m j x = 0
  | [], gs, g', i, h, m, I, ⟨fs, hf⟩, j, x, hj, hx => by
    have h0 : m.drop i = [] := (List.append_eq_nil_iff.1 hf.symm).1
    have h1 : m.length ≤ i := by simpa using h0
    have := (List.getElem?_eq_some_iff.1 hx).1
    omega
  | e :: es, gs, g', i, h, m, I, ⟨fs, hf⟩, j, x, hj, hx => by
    obtain ⟨g1, h1, ⟨g2, h2⟩, h3⟩ := h
    cases hd : m.drop i with
    | nil =>
      have h1 : m.length ≤ i := by simpa using hd
      have := (List.getElem?_eq_some_iff.1 hx).1
      omega
    | cons a r =>
      rw [hd] at hf
      simp at hf
      obtain ⟨rfl, rfl⟩ := hf
      have he : m[i]? = some e := by
        have := congrArg List.head? hd
        simpa using this
      have hr : m.drop (i + 1) = r := by
        have := congrArg List.tail hd
        simpa using this
      have hn : m[i + 1]? = r.head? := by rw [← hr]; simp
      have key : ∃ g, stepG gs i e m[i + 1]? = .ok g ∧ (r ≠ [] → g = g1) := by
        cases r with
        | nil => exact ⟨g2, by rw [hn]; exact h2, fun q => absurd rfl q⟩
        | cons b r => exact ⟨g1, by rw [hn]; exact h1 _ (fun _ => rfl), fun _ => rfl⟩
      obtain ⟨g, hg, hg1⟩ := key
      rcases stepG_is I he with ⟨n, _, _, q⟩ | ⟨q0, s', q, I'⟩
      · rw [hg] at q; cases q
      · rw [hg] at q
        cases q
        by_cases hij : j = i
        · subst hij
          rw [he] at hx
          cases hx
          exact q0
        · cases hr2 : r with
          | nil =>
            rw [hr2] at hr
            have h1 : m.length ≤ i + 1 := by simpa using hr
            have := (List.getElem?_eq_some_iff.1 hx).1
            omega
          | cons b r' =>
            have : g = g1 := hg1 (by rw [hr2]; simp)
            subst this
            exact h3.rules m I' ⟨fs, by rw [hr]⟩ j x (by omega) hx
/-- what is answered of a beginning -/
theorem Acc.chk {l : List Ev} {g' : Gs} (h : Acc gs0 0 l g') (n : Nat) : Chk (l.take n) (if (l.take n).getLast?.any serves = true then 4 else 0) (if (l.take n).getLast?.any serves = true then ((l.take n).length : Int) else 0) := by
  refine .inr ⟨fun j x hx => h.rules (l.take n) (IG.nil _) ⟨l.drop n, by simp⟩ j x (Nat.zero_le _) hx, ?_⟩
  split <;> rfl
/-- the reader's step but for its first rule -/
def stepH (s : Gs) (e : Ev) (nx : Option Ev) : Option Gs :=
  match r2 s.st s.pn e with
  | none => none
  | some (st, pn) => match r3 s.ch e with
    | none => none
    | some ch3 => match r4 s.la e with
      | none => none
      | some la => match r5 ch3 e nx with
        | none => none
        | some ch5 => match r6 ch5 e with
          | none => none
          | some ch6 => some ⟨st, pn, ch6, la⟩
theorem stepH_g {s s' : Gs} {i : Nat} {e : Ev} {nx : Option Ev} (h : stepH s e nx = some s') (hi : i < 2000) (hc : chk e = 0) : stepG s i e nx = .ok s' := by
  unfold stepH at h
  unfold stepG
  rw [if_neg (by omega)]
  split at h
  · cases h
  · rename_i e2
    rw [e2]
    split at h
    · cases h
    · rename_i e3
      simp only [e3]
      split at h
      · cases h
      · rename_i e4
        simp only [e4]
        split at h
        · cases h
        · rename_i e5
          simp only [e5]
          split at h
          · cases h
          · rename_i e6
            simp only [e6]
            cases h
            rfl
def AccH : Gs → List Ev → Gs → Prop
  | gs, [], g' => g' = gs
  | gs, e :: es, g' => ∃ g1, (∀ nx, (es ≠ [] → nx = es.head?) → stepH gs e nx = some g1) ∧ (∃ g2, stepH gs e none = some g2) ∧ AccH g1 es g'
theorem AccH.app : ∀ {es fs : List Ev} {a b c : Gs}, AccH a es b → AccH b fs c → AccH a (es ++ fs) c
  | [], fs, a, b, c, h, k => by
    have : b = a := h
    subst this
    exact k
  | e :: es, fs, a, b, c, h, k => by
    obtain ⟨g1, h1, h2, h3⟩ := h
    refine ⟨g1, fun nx hnx => h1 nx fun hne => ?_, h2, h3.app k⟩
    cases es with
    | nil => exact absurd rfl hne
    | cons x es => exact hnx (by simp)
theorem AccH.one {gs g' : Gs} {e : Ev} (h : ∀ nx, stepH gs e nx = some g') : AccH gs [e] g' := ⟨g', fun nx _ => h nx, ⟨g', h none⟩, rfl⟩
theorem AccH.two {gs g1 g2 g' : Gs} {e x : Ev} (h : stepH gs e (some x) = some g1) (h2 : stepH gs e none = some g2) (k : ∀ nx, stepH g1 x nx = some g') : AccH gs [e, x] g' :=
  ⟨g1, fun nx hnx => by rw [hnx (by simp)]; exact h, ⟨g2, h2⟩, AccH.one k⟩
theorem AccH.acc : ∀ {es : List Ev} {gs g' : Gs} {i : Nat}, AccH gs es g' → (∀ e ∈ es, chk e = 0) → i + es.length ≤ 2000 → Acc gs i es g'
  | [], _, _, _, h, _, _ => h
  | e :: es, gs, g', i, h, hc, hl => by
    obtain ⟨g1, h1, ⟨g2, h2⟩, h3⟩ := h
    have hl' : i + 1 + es.length ≤ 2000 := by simp at hl; omega
    exact ⟨g1, fun nx hnx => stepH_g (h1 nx hnx) (by omega) (hc e (by simp)), ⟨g2, stepH_g h2 (by omega) (hc e (by simp))⟩, h3.acc (fun x hx => hc x (by simp [hx])) hl'⟩
end Gu
end Go.Proofs.YtkkgbeaaekmhfaaGreat
