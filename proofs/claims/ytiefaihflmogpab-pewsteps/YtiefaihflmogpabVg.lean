/- Package pew: Add of whatever waiter; what is added of a list, over this seat's program. -/
import Derived.Test.YtiefaihflmogpabVe
import Derived.Test.YtiefaihflmogpabVf
namespace Go.Proofs.Ytiefaihflmogpab
open Go.ChangeShapes Go.WideShapes Go.ChangeAt Go.RowKit
namespace Pe
open Ba

def wl (z : List Int) : Wt := ⟨nth z 0, nth z 1, nth z 2⟩
def okb (x : Wt) : Bool := decide (0 ≤ x.g) && decide (-1 ≤ x.c)
theorem okb_iff (x : Wt) : okb x = true ↔ 0 ≤ x.g ∧ -1 ≤ x.c := by simp [okb]
theorem okb_not (x : Wt) : okb x = false ↔ x.g < 0 ∨ x.c < -1 := by
  rw [← Bool.not_eq_true, okb_iff]
  omega
/-- what Add answers, and then is there -/
def ae (l : List Wt) (x : Wt) : Int := if okb x = true then (if l.length = 1024 then 5 else 0) else 1
def al (l : List Wt) (x : Wt) : List Wt := if okb x = true then (if l.length = 1024 then l else l ++ [x]) else l
theorem add_any (P : Nat) (l : List Wt) (x : Wt) (w : World) (hP : Pw w P l) :
    Calls Try.prog 10 #[.pointer (some ⟨P, 0, none⟩), wv x] w fun r w' => r = .returned (.int .i64 (ae l x)) ∧ Pw w' P (al l x) ∧ FT P 58 w w' := by
  unfold ae al
  cases h : okb x
  · simp only [Bool.false_eq_true, if_false]
    refine (add_arg _ x w ((okb_not x).1 h)).mono ?_
    rintro r w1 ⟨rfl, b1⟩
    exact ⟨rfl, hP.below b1, FT.of b1 (Nat.le_of_lt hP.lt)⟩
  · simp only [if_true]
    by_cases hl : l.length = 1024
    · simp only [if_pos hl]
      refine (add_full P l x w ((okb_iff x).1 h) hP hl).mono ?_
      rintro r w1 ⟨rfl, b1⟩
      exact ⟨rfl, hP.below b1, FT.of b1 (Nat.le_of_lt hP.lt)⟩
    · simp only [if_neg hl]
      exact add_ok P l x w ((okb_iff x).1 h) hP (by have := hP.le; omega)
/-- of the first k those that are right -/
def ads (l : List (List Int)) (k : Nat) : List Wt := ((l.take k).map wl).filter okb
theorem ads_zero (l : List (List Int)) : ads l 0 = [] := by simp [ads]
theorem ads_len (l : List (List Int)) (k : Nat) : (ads l k).length ≤ k := by
  unfold ads
  have h1 := List.length_filter_le okb ((l.take k).map wl)
  have h2 := List.length_take_le k l
  rw [List.length_map] at h1
  omega
theorem ads_succ {l : List (List Int)} {k : Nat} {z : List Int} (h : l[k]? = some z) (hk : k < 1024) : al (ads l k) (wl z) = ads l (k + 1) := by
  have hl := ads_len l k
  unfold al
  rw [if_neg (show ¬ (ads l k).length = 1024 by omega)]
  unfold ads
  rw [List.take_add_one, h, List.map_append, List.filter_append]
  cases ho : okb (wl z)
  · simp [ho]
  · simp [ho]
theorem ads_all (l : List (List Int)) : ads l l.length = (l.map wl).filter okb := by simp [ads]
theorem dr_dr (g : Int) (l : List Wt) : dr g (dr g l) = dr g l := by simp [dr]
theorem has_dr (g : Int) (l : List Wt) : hasb g (dr g l) = false := by
  simp [hasb, dr]
theorem has_iff (g : Int) (l : List Wt) : hasb g l = decide ((dr g l).length < l.length) := by
  induction l with
  | nil => rfl
  | cons x l ih =>
    cases h : x.g == g
    · have e1 : hasb g (x :: l) = hasb g l := by simp [hasb, h]
      have e2 : dr g (x :: l) = x :: dr g l := by simp [dr, h]
      rw [e1, e2, ih]
      simp
    · have e1 : hasb g (x :: l) = true := by simp [hasb, h]
      have e2 : dr g (x :: l) = dr g l := by simp [dr, h]
      have := dr_len g l
      rw [e1, e2]
      simp
      omega
end Pe
end Go.Proofs.Ytiefaihflmogpab
