/- Layer 20's reference, over this seat's program: Of. -/
import Derived.Test.YtbceiakihplbcaaTa2
import Derived.Test.YtbceiakihplbcaaRo
namespace Go.Proofs.Ytbceiakihplbcaa
open Go.ChangeShapes Go.WideShapes Go.ChangeAt Go.RowKit
namespace Rt
open Ck
open Ba (hide)

/-- a row of the reference's clocks -/
def RAt (w : World) (oa : Option Addr) (Fs : List (Nat → Int)) : Prop :=
  ∀ k F, Fs[k]? = some F → ∃ g off, oa = some ⟨g, off, none⟩ ∧ RA w g (off + k * 256) F
theorem RAt.below {w w' : World} {oa : Option Addr} {Fs : List (Nat → Int)} (h : RAt w oa Fs) (b : Below w.heap.size w w') : RAt w' oa Fs := by
  intro k F hk
  obtain ⟨g, off, e, c⟩ := h k F hk
  exact ⟨g, off, e, c.below b⟩
/-- least and most -/
def mnF (t : Nat) : List (Nat → Int) → Int → Int
  | [], x => x
  | F :: r, x => mnF t r (min x (F t))
def mxF (t : Nat) : List (Nat → Int) → Int → Int
  | [], x => x
  | F :: r, x => mxF t r (max x (F t))
theorem mn_take (t : Nat) (Ls : List (Nat → Int)) (k : Nat) (F : Nat → Int) (h : Ls[k]? = some F) (x : Int) : mnF t (Ls.take (k + 1)) x = min (mnF t (Ls.take k) x) (F t) := by
  induction Ls generalizing k x with
  | nil => simp at h
  | cons y r ih =>
    cases k with
    | zero => simp at h; subst h; rfl
    | succ k => exact ih k (by simpa using h) (min x (y t))
theorem mx_take (t : Nat) (Ls : List (Nat → Int)) (k : Nat) (F : Nat → Int) (h : Ls[k]? = some F) (x : Int) : mxF t (Ls.take (k + 1)) x = max (mxF t (Ls.take k) x) (F t) := by
  induction Ls generalizing k x with
  | nil => simp at h
  | cons y r ih =>
    cases k with
    | zero => simp at h; subst h; rfl
    | succ k => exact ih k (by simpa using h) (max x (y t))
theorem mn_le (t : Nat) : ∀ (Ls : List (Nat → Int)) (x : Int), mnF t Ls x ≤ x ∧ ∀ F ∈ Ls, mnF t Ls x ≤ F t
  | [], x => ⟨Int.le_refl _, by simp⟩
  | F :: r, x => by
    obtain ⟨h1, h2⟩ := mn_le t r (min x (F t))
    refine ⟨?_, fun G hG => ?_⟩
    · show mnF t r _ ≤ x; omega
    · show mnF t r _ ≤ G t
      rcases List.mem_cons.1 hG with rfl | h
      · omega
      · exact h2 G h
theorem mx_le (t : Nat) : ∀ (Ls : List (Nat → Int)) (x : Int), x ≤ mxF t Ls x ∧ ∀ F ∈ Ls, F t ≤ mxF t Ls x
  | [], x => ⟨Int.le_refl _, by simp⟩
  | F :: r, x => by
    obtain ⟨h1, h2⟩ := mx_le t r (max x (F t))
    refine ⟨?_, fun G hG => ?_⟩
    · show x ≤ mxF t r _; omega
    · show G t ≤ mxF t r _
      rcases List.mem_cons.1 hG with rfl | h
      · omega
      · exact h2 G h
theorem mn_eq (t : Nat) : ∀ (Ls : List (Nat → Int)) (x : Int), (∀ F ∈ Ls, x ≤ F t) → mnF t Ls x = x
  | [], x, _ => rfl
  | F :: r, x, h => by
    have h1 := h F (List.mem_cons_self ..)
    show mnF t r (min x (F t)) = x
    rw [Int.min_eq_left h1]
    exact mn_eq t r x fun G hG => h G (List.mem_cons_of_mem _ hG)
theorem mx_eq (t : Nat) : ∀ (Ls : List (Nat → Int)) (x : Int), (∀ F ∈ Ls, F t ≤ x) → mxF t Ls x = x
  | [], x, _ => rfl
  | F :: r, x, h => by
    have h1 := h F (List.mem_cons_self ..)
    show mxF t r (max x (F t)) = x
    rw [Int.max_eq_left h1]
    exact mx_eq t r x fun G hG => h G (List.mem_cons_of_mem _ hG)
/-- what the reference answers -/
def rcut (tid : Int) (Fs Gs : List (Nat → Int)) : Option Int :=
  if 0 ≤ tid ∧ tid < 256 then
    match Fs with
    | [] => none
    | F :: _ => if mnF tid.toNat Fs (F tid.toNat) = mxF tid.toNat Gs (mxF tid.toNat Fs (F tid.toNat)) then some (mnF tid.toNat Fs (F tid.toNat)) else none
  else none
/-- both say the same -/
theorem rcut_is (tid : Int) (Ls Hs : List (List Int)) (hl : ∀ x ∈ Ls ++ Hs, x.length ≤ 256) : rcut tid (Ls.map nth) (Hs.map nth) = cutOf tid Ls Hs := by
  unfold rcut cutOf
  split
  · rename_i ht
    obtain ⟨t, rfl⟩ : ∃ t : Nat, tid = (t : Int) := ⟨tid.toNat, by omega⟩
    cases Ls with
    | nil => rfl
    | cons l r =>
      simp only [List.map_cons, Int.toNat_natCast, gt_nat]
      have e1 : (((l :: r).any fun x => unl (nth l t) (nth x t)) || (Hs.any fun x => abv (nth l t) (nth x t))) = true ↔ ¬ ((∀ x ∈ l :: r, nth x t = nth l t) ∧ ∀ x ∈ Hs, nth x t ≤ nth l t) := by
        rw [Bool.or_eq_true, List.any_eq_true, List.any_eq_true]
        constructor
        · rintro (⟨x, hx, h⟩ | ⟨x, hx, h⟩) ⟨q1, q2⟩
          · simp [unl] at h; exact h (q1 x hx)
          · simp [abv] at h; have := q2 x hx; omega
        · intro h
          by_cases q1 : ∀ x ∈ l :: r, nth x t = nth l t
          · right
            by_cases q2 : ∀ x ∈ Hs, nth x t ≤ nth l t
            · exact absurd ⟨q1, q2⟩ h
            · simp only [Classical.not_forall] at q2
              obtain ⟨x, hx, hq⟩ := q2
              exact ⟨x, hx, by simp [abv]; omega⟩
          · left
            simp only [Classical.not_forall] at q1
            obtain ⟨x, hx, hq⟩ := q1
            exact ⟨x, hx, by simp [unl, hq]⟩
      by_cases q : (∀ x ∈ l :: r, nth x t = nth l t) ∧ ∀ x ∈ Hs, nth x t ≤ nth l t
      · have hmn : mnF t (nth l :: r.map nth) (nth l t) = nth l t := mn_eq t _ _ (fun F hF => by
          rw [← List.map_cons] at hF
          obtain ⟨x, hx, rfl⟩ := List.mem_map.1 hF
          rw [q.1 x hx]; exact Int.le_refl _)
        have hmx : mxF t (nth l :: r.map nth) (nth l t) = nth l t := mx_eq t _ _ (fun F hF => by
          rw [← List.map_cons] at hF
          obtain ⟨x, hx, rfl⟩ := List.mem_map.1 hF
          rw [q.1 x hx]; exact Int.le_refl _)
        have hmx2 : mxF t (Hs.map nth) (nth l t) = nth l t := mx_eq t _ _ (fun F hF => by
          obtain ⟨x, hx, rfl⟩ := List.mem_map.1 hF
          exact q.2 x hx)
        rw [hmn, hmx, hmx2, if_pos rfl, if_neg (fun h => e1.1 h q)]
      · rw [if_pos (e1.2 q), if_neg]
        intro h
        apply q
        obtain ⟨a1, a2⟩ := mn_le t (nth l :: r.map nth) (nth l t)
        obtain ⟨b1, b2⟩ := mx_le t (nth l :: r.map nth) (nth l t)
        obtain ⟨c1, c2⟩ := mx_le t (Hs.map nth) (mxF t (nth l :: r.map nth) (nth l t))
        refine ⟨fun x hx => ?_, fun x hx => ?_⟩
        · have h1 := a2 (nth x) (by rw [← List.map_cons]; exact List.mem_map.2 ⟨x, hx, rfl⟩)
          have h2 := b2 (nth x) (by rw [← List.map_cons]; exact List.mem_map.2 ⟨x, hx, rfl⟩)
          omega
        · have h1 := c2 (nth x) (List.mem_map.2 ⟨x, hx, rfl⟩)
          omega
  · rfl
end Rt
end Go.Proofs.Ytbceiakihplbcaa
