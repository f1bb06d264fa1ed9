/- Layer 16, plain: nobody knows more of one than he himself, over this seat's program. -/
import Derived.Test.YtfimfgffbfjkeaaWm
namespace Go.Proofs.Ytfimfgffbfjkeaa
open Go.ChangeShapes Go.WideShapes Go.ChangeAt Go.RowKit
namespace Wq
open Ck
open Wa (Wst Used)

/-- nobody knows more of one than he himself; of a tid that is nobody's nobody knows anything -/
structure Own (qs : Qst) : Prop where
  le : ∀ (i j : Nat) (o p : On), qs.L[i]? = some o → qs.L[j]? = some p → p.F o.t ≤ o.F o.t
  no : ∀ (j : Nat) (p : On) (t : Nat), qs.L[j]? = some p → t < 256 → (∀ (i : Nat) (o : On), qs.L[i]? = some o → o.t ≠ t) → p.F t = 0
/-- what a step keeps -/
def Nx (wh : Int) (qs qs' : Qst) : Prop := qs'.T = qs.T ∧ qs'.M = qs.M ∧ (wh ≠ 2 → Own qs → Own qs')
theorem Nx.refl (wh : Int) (qs : Qst) : Nx wh qs qs := ⟨rfl, rfl, fun _ h => h⟩
theorem up_same (F : Nat → Int) (k : Nat) (v : Int) : upF F k v k = v := by simp [upF]
theorem up_other (F : Nat → Int) (k j : Nat) (v : Int) (h : j ≠ k) : upF F k v j = F j := by simp [upF, h]
theorem app_at {α : Type} {l : List α} {x y : α} {i : Nat} (h : (l ++ [x])[i]? = some y) : l[i]? = some y ∨ y = x := by
  by_cases q : i < l.length
  · rw [List.getElem?_append_left q] at h; exact .inl h
  · rw [List.getElem?_append_right (by omega)] at h
    have : i - l.length = 0 := by have := (List.getElem?_eq_some_iff.1 h).1; simp at this; omega
    rw [this] at h
    simp at h
    exact .inr h.symm
theorem set_at {α : Type} {l : List α} {x y : α} {k i : Nat} (h : (l.set k x)[i]? = some y) : (i = k ∧ y = x) ∨ (i ≠ k ∧ l[i]? = some y) := by
  rw [List.getElem?_set] at h
  by_cases q : k = i
  · subst q
    simp only [if_true] at h
    split at h
    · cases h; exact .inl ⟨rfl, rfl⟩
    · cases h
  · rw [if_neg q] at h
    exact .inr ⟨fun e => q e.symm, h⟩
theorem set_has {α : Type} {l : List α} {x y : α} {k : Nat} (hk : l[k]? = some y) : (l.set k x)[k]? = some x := by
  have := (List.getElem?_eq_some_iff.1 hk).1
  rw [List.getElem?_set]
  simp [this]
section
variable {st : Wst} {h : Nat → Option (List Int)} {qs qs' qs2 : Qst}
theorem Rw.t256 (r : Rw st h qs) (hT : qs.T ≤ 256) {i : Nat} {o : On} (ho : qs.L[i]? = some o) : o.t < 256 := by
  have := r.tt o (List.mem_of_getElem? ho); omega
theorem Own.spawn (w : Own qs) {c : Int} {t k : Nat} {o : On} (hk : qs.L[k]? = some o) (ht : t < 256) (hn : ∀ (i : Nat) (p : On), qs.L[i]? = some p → p.t ≠ t) : Own { qs with L := qs.L ++ [⟨c, t, upF o.F t 1⟩] } := by
  refine ⟨fun i j a p ha hp => ?_, fun j p s hp hs hno => ?_⟩
  · rcases app_at ha with ha | rfl <;> rcases app_at hp with hp | rfl
    · exact w.le i j a p ha hp
    · show upF o.F t 1 a.t ≤ _
      rw [up_other _ _ _ _ (hn i a ha)]
      exact w.le i k a o ha hk
    · show p.F t ≤ upF o.F t 1 t
      rw [up_same, w.no j p t hp ht hn]
      decide
    · exact Int.le_refl _
  · have hno' : ∀ (i : Nat) (o : On), qs.L[i]? = some o → o.t ≠ s := fun i a ha => hno i a (by
      have := (List.getElem?_eq_some_iff.1 ha).1
      show (qs.L ++ _)[i]? = _
      rw [List.getElem?_append_left this]; exact ha)
    have hts : t ≠ s := hno qs.L.length ⟨c, t, upF o.F t 1⟩ (by show (qs.L ++ _)[qs.L.length]? = _; simp)
    rcases app_at hp with hp | rfl
    · exact w.no j p s hp hs hno'
    · show upF o.F t 1 s = 0
      rw [up_other _ _ _ _ (fun e => hts e.symm)]
      exact w.no k o s hk hs hno'
theorem Own.retire (w : Own qs) (r : Rw st h qs) {g : Int} {k : Nat} {o : On} (hk : qs.L[k]? = some o) (hg : o.g = g) : Own { qs with L := rtL qs.L g o.t } := by
  have inv : ∀ (i : Nat) (p : On), (rtL qs.L g o.t)[i]? = some p → ∃ (j : Nat) (q : On), qs.L[j]? = some q ∧ q.g ≠ g ∧ p = ⟨q.g, q.t, upF q.F o.t 0⟩ ∧ q.t ≠ o.t := fun i p hp => by
    obtain ⟨q, hq, hne, rfl⟩ := rt_mem.1 (List.mem_of_getElem? hp)
    obtain ⟨j, hj⟩ := List.getElem?_of_mem hq
    refine ⟨j, q, hj, hne, rfl, fun e => hne ?_⟩
    have := r.td j k q o hj hk e
    subst this
    rw [hj] at hk
    cases hk
    exact hg
  refine ⟨fun i j a p ha hp => ?_, fun j p s hp hs hno => ?_⟩
  · obtain ⟨i2, a2, ha2, -, rfl, hat⟩ := inv i a ha
    obtain ⟨j2, p2, hp2, -, rfl, -⟩ := inv j p hp
    show upF p2.F o.t 0 a2.t ≤ upF a2.F o.t 0 a2.t
    rw [up_other _ _ _ _ hat, up_other _ _ _ _ hat]
    exact w.le i2 j2 a2 p2 ha2 hp2
  · obtain ⟨j2, p2, hp2, -, rfl, -⟩ := inv j p hp
    show upF p2.F o.t 0 s = 0
    by_cases e : s = o.t
    · rw [e, up_same]
    · rw [up_other _ _ _ _ e]
      refine w.no j2 p2 s hp2 hs fun i a ha e2 => ?_
      by_cases q : a.g = g
      · have := r.nd i k a o ha hk (by rw [q, hg])
        subst this
        rw [ha] at hk
        cases hk
        exact e e2.symm
      · have hm : (⟨a.g, a.t, upF a.F o.t 0⟩ : On) ∈ rtL qs.L g o.t := rt_mem.2 ⟨a, List.mem_of_getElem? ha, q, rfl⟩
        obtain ⟨m, hm2⟩ := List.getElem?_of_mem hm
        exact hno m _ hm2 e2
theorem Own.tell (w : Own qs) (r : Rw st h qs) {k : Nat} {o : On} (hk : qs.L[k]? = some o) : Own { qs with L := qs.L.set k ⟨o.g, o.t, upF o.F o.t (o.F o.t + 1)⟩ } ∧ (∀ (i : Nat) (a : On), (qs.L.set k ⟨o.g, o.t, upF o.F o.t (o.F o.t + 1)⟩)[i]? = some a → o.F a.t ≤ a.F a.t) ∧ (∀ t, t < 256 → (∀ (i : Nat) (a : On), (qs.L.set k ⟨o.g, o.t, upF o.F o.t (o.F o.t + 1)⟩)[i]? = some a → a.t ≠ t) → o.F t = 0) := by
  have un : ∀ t, (∀ (i : Nat) (a : On), (qs.L.set k ⟨o.g, o.t, upF o.F o.t (o.F o.t + 1)⟩)[i]? = some a → a.t ≠ t) → o.t ≠ t ∧ ∀ (i : Nat) (a : On), qs.L[i]? = some a → a.t ≠ t := fun t ht => by
    have h0 : o.t ≠ t := ht k ⟨o.g, o.t, upF o.F o.t (o.F o.t + 1)⟩ (set_has hk)
    refine ⟨h0, fun i a ha => ?_⟩
    by_cases e : i = k
    · subst e; rw [ha] at hk; cases hk; exact h0
    · refine ht i a ?_
      rw [List.getElem?_set, if_neg (fun q => e q.symm)]
      exact ha
  refine ⟨⟨fun i j a p ha hp => ?_, fun j p s hp hs hno => ?_⟩, fun i a ha => ?_, fun t ht hno => w.no k o t hk ht (un t hno).2⟩
  · rcases set_at ha with ⟨rfl, rfl⟩ | ⟨hi, ha1⟩ <;> rcases set_at hp with ⟨rfl, rfl⟩ | ⟨hj, hp1⟩
    · exact Int.le_refl _
    · show p.F o.t ≤ upF o.F o.t (o.F o.t + 1) o.t
      rw [up_same]
      have := w.le i j o p hk hp1
      omega
    · show upF o.F o.t (o.F o.t + 1) a.t ≤ _
      rw [up_other _ _ _ _ (fun e => hi (r.td i j a o ha1 hk e))]
      exact w.le i j a o ha1 hk
    · exact w.le i j a p ha1 hp1
  · obtain ⟨h0, hno'⟩ := un s hno
    rcases set_at hp with ⟨rfl, rfl⟩ | ⟨hj, hp⟩
    · show upF o.F o.t (o.F o.t + 1) s = 0
      rw [up_other _ _ _ _ (fun e => h0 e.symm)]
      exact w.no j o s hk hs hno'
    · exact w.no j p s hp hs hno'
  · rcases set_at ha with ⟨rfl, rfl⟩ | ⟨hi, ha⟩
    · show o.F o.t ≤ upF o.F o.t (o.F o.t + 1) o.t
      rw [up_same]; omega
    · exact w.le i k a o ha hk
theorem Own.know (w : Own qs) {F : Nat → Int} (h1 : ∀ (i : Nat) (a : On), qs.L[i]? = some a → F a.t ≤ a.F a.t) (h2 : ∀ t, t < 256 → (∀ (i : Nat) (a : On), qs.L[i]? = some a → a.t ≠ t) → F t = 0) (h256 : ∀ (i : Nat) (a : On), qs.L[i]? = some a → a.t < 256) {k : Nat} {o : On} (hk : qs.L[k]? = some o) : Own { qs with L := qs.L.set k ⟨o.g, o.t, jf o.F F 256⟩ } := by
  have J : ∀ t, t < 256 → jf o.F F 256 t = max (o.F t) (F t) := fun t ht => by
    simp [jf, ht]
  have un : ∀ t, (∀ (i : Nat) (a : On), (qs.L.set k ⟨o.g, o.t, jf o.F F 256⟩)[i]? = some a → a.t ≠ t) → ∀ (i : Nat) (a : On), qs.L[i]? = some a → a.t ≠ t := fun t ht i a ha => by
    by_cases e : i = k
    · subst e; rw [ha] at hk; cases hk; exact ht i ⟨o.g, o.t, jf o.F F 256⟩ (set_has ha)
    · refine ht i a ?_
      rw [List.getElem?_set, if_neg (fun q => e q.symm)]
      exact ha
  refine ⟨fun i j a p ha hp => ?_, fun j p s hp hs hno => ?_⟩
  · rcases set_at ha with ⟨rfl, rfl⟩ | ⟨hi, ha1⟩ <;> rcases set_at hp with ⟨rfl, rfl⟩ | ⟨hj, hp1⟩
    · exact Int.le_refl _
    · show p.F o.t ≤ jf o.F F 256 o.t
      rw [J _ (h256 i o hk)]
      have := w.le i j o p hk hp1
      omega
    · show jf o.F F 256 a.t ≤ _
      rw [J _ (h256 i a ha1)]
      have := w.le i j a o ha1 hk
      have := h1 i a ha1
      omega
    · exact w.le i j a p ha1 hp1
  · have hno' := un s hno
    rcases set_at hp with ⟨rfl, rfl⟩ | ⟨hj, hp⟩
    · show jf o.F F 256 s = 0
      rw [J s hs, w.no j o s hk hs hno', h2 s hs hno']
      rfl
    · exact w.no j p s hp hs hno'
theorem SpR.nx (r : Rw st h qs) {p c a e : Int} (sp : SpR qs p c a e qs') (wh : Int) : Nx wh qs qs' := by
  rcases sp with ⟨-, -, -, rfl⟩ | ⟨-, -, -, -, -, rfl⟩ | ⟨-, -, -, -, -, -, -, rfl⟩ | ⟨k, o, t, -, hk, -, -, hf, ht, -, -, rfl⟩
  · exact Nx.refl _ _
  · exact Nx.refl _ _
  · exact Nx.refl _ _
  · refine ⟨rfl, rfl, fun _ w => w.spawn hk ht fun i q hq e => ?_⟩
    rcases r.free with ⟨-, f⟩ | ⟨-, t', f, -, nu, -⟩
    · rw [f] at hf; omega
    · obtain rfl : t' = t := by rw [f] at hf; omega
      obtain ⟨b, l, f1, -⟩ := r.fw i q hq
      rw [e] at f1
      exact nu ⟨q.g, b, f1⟩
theorem ReR.nx (r : Rw st h qs) {g e : Int} (re : ReR qs g e qs') (wh : Int) : Nx wh qs qs' := by
  rcases re with ⟨-, -, rfl⟩ | ⟨k, o, ha, hk, -, -, rfl⟩
  · exact Nx.refl _ _
  · refine ⟨rfl, rfl, fun _ w => w.retire r hk ?_⟩
    rcases at_inv (l := qs.L) (g := g) with ⟨e, -⟩ | ⟨k', o', e, hk', hg, -⟩
    · rw [e] at ha; omega
    · obtain rfl : k' = k := by rw [e] at ha; omega
      rw [hk'] at hk
      cases hk
      exact hg
theorem KnR.nx {g e : Int} {H : Nat → Int} (kn : KnR qs g H e qs') : Nx 2 qs qs' := by
  rcases kn with ⟨-, -, rfl⟩ | ⟨k, o, -, -, -, rfl⟩
  · exact Nx.refl _ _
  · exact ⟨rfl, rfl, fun q => absurd rfl q⟩
theorem TeR.nx (r : Rw st h qs) {g e : Int} {F : Nat → Int} (te : TeR qs g F e qs') (he : e ≠ 0) (wh : Int) : Nx wh qs qs' := by
  rcases te with ⟨-, -, -, rfl⟩ | ⟨_, _, -, -, -, -, -, rfl⟩ | ⟨_, _, -, -, -, -, -, -, rfl, -⟩
  · exact Nx.refl _ _
  · exact Nx.refl _ _
  · exact absurd rfl he
theorem TeR.kn (r : Rw st h qs) (hT : qs.T ≤ 256) {g k e : Int} {F : Nat → Int} (te : TeR qs g F 0 qs2) (kn : KnR qs2 k F e qs') (wh : Int) : Nx wh qs qs' := by
  rcases te with ⟨-, -, q, -⟩ | ⟨_, _, -, -, -, -, q, -⟩ | ⟨m, o, -, hm, -, -, -, rfl, -, rfl⟩
  · cases q
  · cases q
  · have h256 : ∀ (i : Nat) (a : On), (qs.L.set m ⟨o.g, o.t, upF o.F o.t (o.F o.t + 1)⟩)[i]? = some a → a.t < 256 := fun i a ha => by
      rcases set_at ha with ⟨rfl, rfl⟩ | ⟨-, ha1⟩
      · exact (r.t256 hT hm : o.t < 256)
      · exact r.t256 hT ha1
    rcases kn with ⟨-, -, rfl⟩ | ⟨k2, o2, -, hk2, -, rfl⟩
    · exact ⟨rfl, rfl, fun _ w => (w.tell r hm).1⟩
    · refine ⟨rfl, rfl, fun _ w => ?_⟩
      obtain ⟨w1, w2, w3⟩ := w.tell r hm
      exact w1.know w2 w3 h256 hk2
end
end Wq
end Go.Proofs.Ytfimfgffbfjkeaa
