/- Layer 16: the laws' own two(), over this seat's program. -/
import Derived.Test.YtakbbhngcdccpaaGreatUf
namespace Go.Proofs.YtakbbhngcdccpaaGreat
open Go.ChangeShapes Go.WideShapes Go.ChangeAt Go.RowKit
namespace Wa
open Ck

theorem set_eq {l l' m : List Int} {t : Nat} {n : Int} (h : IsSet l l' t n) (hc : Canon m) (hm : ∀ j, nth m j = if j = t then n else nth l j) : l' = m := canon_eq h.1 hc fun j => by rw [h.2.2 j, hm j]
theorem WW.below {Y : Nat → Prop} {B : Nat} {w w' : World} {st : Wst} {h : Nat → Option (List Int)} (s : WW Y B w st h) (b : Below w.heap.size w w') : WW Y B w' st h := by
  obtain ⟨mb, D, s⟩ := s
  exact ⟨mb, D, s.below b⟩
theorem WW.ylt {Y : Nat → Prop} {B : Nat} {w : World} {st : Wst} {h : Nat → Option (List Int)} (s : WW Y B w st h) : ∀ k, Y k → k < w.heap.size := by
  obtain ⟨mb, D, s⟩ := s
  exact s.ylt
theorem WW.get {Y : Nat → Prop} {B : Nat} {w : World} {st : Wst} {h : Nat → Option (List Int)} (s : WW Y B w st h) {b : Nat} {l : List Int} (e : h b = some l) : CK w b l ∧ Canon l ∧ Valid l := by
  obtain ⟨mb, D, s⟩ := s
  exact s.cx.get (hx_at e)
theorem list_is (b : Nat) (l : List Int) (n : Nat) (w : World) (h : CK w b l) (hn : l.length = n) :
    Calls Tryz.prog 78 #[.pointer (some ⟨b, 0, none⟩)] w fun r w' => ∃ oa, r = .returned (.slice oa n n) ∧ Ck.At w' oa l ∧ Below w.heap.size w w' := by
  subst hn
  refine (list_any b l w h).mono ?_
  rintro r w' ⟨rfl, rfl⟩
  exact ⟨_, rfl, At.new _ _ _, below_alloc _ _⟩
theorem ints_b (oa ob : Option Addr) (l m : List Int) (n k c d : Nat) (x : Bool) (hx : decide (l = m) = x) (hn : l.length = n) (hk : m.length = k) (w : World) (hA : Ck.At w oa l) (hB : Ck.At w ob m) (hl : n ≤ 256) (hm : k ≤ 256) :
    Calls Tryz.prog 25 #[.slice oa n c, .slice ob k d] w fun r w' => r = .returned (.bool x) ∧ Below w.heap.size w w' := by
  refine (ints_is oa ob l m n k c d x hx hn hk w hA hB hl hm).mono ?_
  rintro r w' ⟨rfl, q, rfl⟩
  exact ⟨rfl, bdrew _ _⟩
def f0 : Int → Option (Nat × Nat) := fun _ => none
theorem used1 (c : Nat) (t : Nat) : Used (upf f0 0 (some (0, c))) t ↔ t = 0 := by
  constructor
  · rintro ⟨g, b, e⟩
    by_cases q : g = 0
    · subst q; rw [upf_same] at e; cases e; rfl
    · rw [upf_other _ _ _ _ q] at e; cases e
  · rintro rfl
    exact ⟨0, c, upf_same _ _ _⟩
end Wa
end Go.Proofs.YtakbbhngcdccpaaGreat
