/- Package pew: Add, Take of whatever pew, over this seat's program. -/
import Derived.Test.YtdcmlimglajpkaaWe
namespace Go.Proofs.Ytdcmlimglajpkaa
open Go.ChangeShapes Go.WideShapes Go.ChangeAt Go.RowKit
namespace Pe
open Ba

def okb (x : Wt) : Bool := decide (0 ≤ x.g) && decide (-1 ≤ x.c)
theorem okb_iff (x : Wt) : okb x = true ↔ 0 ≤ x.g ∧ -1 ≤ x.c := by simp [okb]
theorem okb_not (x : Wt) : okb x = false ↔ x.g < 0 ∨ x.c < -1 := by
  rw [← Bool.not_eq_true, okb_iff]
  omega
/-- what Add answers, and then is there -/
def ae (l : List Wt) (x : Wt) : Int := if okb x = true then (if l.length = 1024 then 5 else 0) else 1
def al (l : List Wt) (x : Wt) : List Wt := if okb x = true then (if l.length = 1024 then l else l ++ [x]) else l
theorem add_any (P : Nat) (F : Nat → Prop) (l : List Wt) (x : Wt) (w : World) (hP : PF w P F l) :
    Calls Try.prog 49 #[.pointer (some ⟨P, 0, none⟩), wv x] w fun r w' => r = .returned (.int .i64 (ae l x)) ∧ KF F w w' ∧ ∃ F', Nw F' F w ∧ PF w' P F' (al l x) := by
  unfold ae al
  cases h : okb x
  · simp only [Bool.false_eq_true, if_false]
    refine (add_arg _ x w ((okb_not x).1 h)).mono ?_
    rintro r w1 ⟨rfl, b1⟩
    exact ⟨rfl, KF.of b1, F, Nw.refl _ _, hP.below b1⟩
  · simp only [if_true]
    by_cases hl : l.length = 1024
    · simp only [if_pos hl]
      refine (add_full P l x w ((okb_iff x).1 h) hP.pw hl).mono ?_
      rintro r w1 ⟨rfl, b1⟩
      exact ⟨rfl, KF.of b1, F, Nw.refl _ _, hP.below b1⟩
    · simp only [if_neg hl]
      exact add_ok P F l x w ((okb_iff x).1 h) hP (by have := hP.le; omega)
theorem take_any (P : Nat) (F : Nat → Prop) (l : List Wt) (w : World) (h : PF w P F l) :
    Calls Try.prog 45 #[.pointer (some ⟨P, 0, none⟩)] w fun r w' => r = .returned (.tuple #[wv (fw l), .bool (fo l)]) ∧ KF F w w' ∧ PF w' P F l.tail := by
  cases l with
  | nil =>
    refine (take_none P w h.pw).mono ?_
    rintro r w1 ⟨rfl, b1⟩
    exact ⟨rfl, KF.of b1, h.below b1⟩
  | cons x l => exact take_some P F x l w h
theorem dr_take {g : Int} {l : List Wt} {k : Nat} {x : Wt} (h : l[k]? = some x) : dr g (l.take (k + 1)) = if (x.g == g) = true then dr g (l.take k) else dr g (l.take k) ++ [x] := by
  unfold dr
  rw [List.take_add_one, h, List.filter_append]
  cases hg : x.g == g <;> simp [hg]
end Pe
end Go.Proofs.Ytdcmlimglajpkaa
