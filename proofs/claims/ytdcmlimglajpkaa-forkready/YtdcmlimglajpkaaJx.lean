/- Channels of both, one by one laid: the laws' own pipes(). -/
import Derived.Test.YtdcmlimglajpkaaJw
namespace Go.Proofs.Ytdcmlimglajpkaa
open Go.ChangeShapes Go.WideShapes Go.ChangeAt Go.RowKit
namespace Fk
open Ba Pe _root_.Go.Proofs.Ytdcmlimglajpkaa.Pi Rp

/-- one side's channels, no row yet -/
structure Hf (Q : World → Nat → (Nat → Prop) → St → Prop) (w u : World) (bs : List (Option Nat)) (Fs : Nat → Nat → Prop) (sts : List (Option St)) : Prop where
  len : bs.length = sts.length
  one : ∀ (i B : Nat), bs[i]? = some (some B) → ∃ st, sts[i]? = some (some st) ∧ Q u B (Fs i) st
  non : ∀ (i : Nat), bs[i]? = some none → sts[i]? = some none
  ap : ∀ i j, i ≠ j → ∀ x, Fs i x → ¬ Fs j x
  bd : ∀ i, Bd (Fs i) u
  lo : ∀ x, All Fs x → w.heap.size ≤ x
theorem Hf.nil {Q : World → Nat → (Nat → Prop) → St → Prop} (w u : World) : Hf Q w u [] (fun _ _ => False) [] :=
  ⟨rfl, fun i B h => by simp at h, fun i h => by simp at h, fun _ _ _ _ h => h.elim, fun _ _ h => h.elim, fun _ ⟨_, h⟩ => h.elim⟩
theorem Hf.sm {Q : World → Nat → (Nat → Prop) → St → Prop} (fr : Fr Q) {w u v : World} {bs : List (Option Nat)} {Fs : Nat → Nat → Prop} {sts : List (Option St)} (h : Hf Q w u bs Fs sts) (hs : ∀ x, All Fs x → v.heap[x]? = u.heap[x]?) : Hf Q w v bs Fs sts := by
  have s1 : ∀ i, Sm (Fs i) u v := fun i x hx => hs x ⟨i, hx⟩
  refine ⟨h.len, fun i B hi => ?_, h.non, h.ap, fun i => (h.bd i).sm (s1 i), h.lo⟩
  obtain ⟨st, e, q⟩ := h.one i B hi
  exact ⟨st, e, fr.sm q (s1 i)⟩
theorem Hf.bdA {Q : World → Nat → (Nat → Prop) → St → Prop} {w u : World} {bs : List (Option Nat)} {Fs : Nat → Nat → Prop} {sts : List (Option St)} (h : Hf Q w u bs Fs sts) {x : Nat} (hx : All Fs x) : x < u.heap.size := by
  obtain ⟨i, hi⟩ := hx
  exact h.bd i x hi
theorem Hf.below {Q : World → Nat → (Nat → Prop) → St → Prop} (fr : Fr Q) {w u v : World} {bs : List (Option Nat)} {Fs : Nat → Nat → Prop} {sts : List (Option St)} (h : Hf Q w u bs Fs sts) (hb : Below u.heap.size u v) : Hf Q w v bs Fs sts := h.sm fr fun x hx => hb.block x (h.bdA hx)
theorem app_at {α : Type} {l : List α} {x y : α} {i : Nat} (h : (l ++ [x])[i]? = some y) : l[i]? = some y ∨ (i = l.length ∧ x = y) := by
  by_cases e : i < l.length
  · rw [List.getElem?_append_left e] at h
    exact .inl h
  · rw [List.getElem?_append_right (by omega)] at h
    by_cases e2 : i = l.length
    · subst e2
      simp at h
      exact .inr ⟨rfl, h⟩
    · have : i - l.length ≠ 0 := by omega
      obtain ⟨n, hn⟩ := Nat.exists_eq_succ_of_ne_zero this
      rw [hn] at h
      simp at h
theorem app_new {α : Type} (l : List α) (x : α) : (l ++ [x])[l.length]? = some x := by simp
theorem app_old {α : Type} {l : List α} {y : α} (x : α) {i : Nat} (h : l[i]? = some y) : (l ++ [x])[i]? = some y := by
  rw [List.getElem?_append_left (List.getElem?_eq_some_iff.1 h).1]
  exact h
theorem Hf.addN {Q : World → Nat → (Nat → Prop) → St → Prop} {w u : World} {bs : List (Option Nat)} {Fs : Nat → Nat → Prop} {sts : List (Option St)} (h : Hf Q w u bs Fs sts) : Hf Q w u (bs ++ [none]) Fs (sts ++ [none]) := by
  refine ⟨by simp [h.len], fun i B hi => ?_, fun i hi => ?_, h.ap, h.bd, h.lo⟩
  · rcases app_at hi with q | ⟨_, q⟩
    · obtain ⟨st, e, p⟩ := h.one i B q
      exact ⟨st, app_old _ e, p⟩
    · cases q
  · rcases app_at hi with q | ⟨q, _⟩
    · exact app_old _ (h.non i q)
    · rw [q, h.len]
      exact app_new _ _
/-- one more channel, in new blocks -/
theorem Hf.addS {Q : World → Nat → (Nat → Prop) → St → Prop} {w u : World} {bs : List (Option Nat)} {Fs : Nat → Nat → Prop} {sts : List (Option St)} (h : Hf Q w u bs Fs sts) {B : Nat} {F : Nat → Prop} {st : St} (q : Q u B F st) (hF : Bd F u) (hn : ∀ x, F x → ¬ All Fs x) (hl : ∀ x, F x → w.heap.size ≤ x) : Hf Q w u (bs ++ [some B]) (up Fs bs.length F) (sts ++ [some st]) := by
  refine ⟨by simp [h.len], fun i C hi => ?_, fun i hi => ?_, fun i j hij x hx hy => ?_, fun i x hx => ?_, fun x hx => ?_⟩
  · rcases app_at hi with z | ⟨z, e⟩
    · obtain ⟨s1, e, p⟩ := h.one i C z
      refine ⟨s1, app_old _ e, ?_⟩
      rw [up_other _ _ _ _ (by have := (List.getElem?_eq_some_iff.1 z).1; omega)]
      exact p
    · subst z
      cases e
      refine ⟨st, by rw [h.len]; exact app_new _ _, ?_⟩
      rw [up_same]
      exact q
  · rcases app_at hi with z | ⟨_, z⟩
    · exact app_old _ (h.non i z)
    · cases z
  · by_cases e1 : i = bs.length
    · subst e1
      rw [up_same] at hx
      rw [up_other _ _ _ _ (fun e => hij e.symm)] at hy
      exact hn x hx ⟨j, hy⟩
    · rw [up_other _ _ _ _ e1] at hx
      by_cases e2 : j = bs.length
      · subst e2
        rw [up_same] at hy
        exact hn x hy ⟨i, hx⟩
      · rw [up_other _ _ _ _ e2] at hy
        exact h.ap i j hij x hx hy
  · by_cases e : i = bs.length
    · subst e
      rw [up_same] at hx
      exact hF x hx
    · rw [up_other _ _ _ _ e] at hx
      exact h.bd i x hx
  · obtain ⟨i, hi⟩ := hx
    by_cases e : i = bs.length
    · subst e
      rw [up_same] at hi
      exact hl x hi
    · rw [up_other _ _ _ _ e] at hi
      exact h.lo x ⟨i, hi⟩
theorem all_up {Fs : Nat → Nat → Prop} {n : Nat} {F : Nat → Prop} {x : Nat} (h : All (up Fs n F) x) : F x ∨ All Fs x := by
  obtain ⟨i, hi⟩ := h
  by_cases e : i = n
  · subst e
    rw [up_same] at hi
    exact .inl hi
  · rw [up_other _ _ _ _ e] at hi
    exact .inr ⟨i, hi⟩
theorem Hf.qs {Q : World → Nat → (Nat → Prop) → St → Prop} {w u : World} {bs : List (Option Nat)} {Fs : Nat → Nat → Prop} {sts : List (Option St)} (h : Hf Q w u bs Fs sts) {oa : Option Addr} (hr : PR u oa bs) (hn : ∀ a, oa = some a → ¬ All Fs a.block) : Qs Q u oa bs Fs sts :=
  ⟨hr, h.len, h.one, h.non, h.ap, fun a e i hi => hn a e ⟨i, hi⟩, h.bd⟩
/-- the capacities' channels -/
def capS (n : Int) : Option St := if 0 ≤ n ∧ n ≤ 4 then some (st0 n.toNat) else none
end Fk
end Go.Proofs.Ytdcmlimglajpkaa
