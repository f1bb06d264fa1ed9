/- Layer 25's laws, plain: many pairs that are set. -/
import Derived.Test.YtdfjcmlafhannaaNb5
namespace Go.Proofs.Ytdfjcmlafhannaa
open Go.ChangeShapes Go.WideShapes Go.ChangeAt Go.RowKit
namespace Mx
open Ba (KB btr heap_lt cell_of frozen_of ret_bool ret_int bdrew bdrew1 heap_new below_alloc heap_below own_below nth)

/-- nothing is related -/
def no : Rws := fun _ => 0
theorem hs_no (i k : Nat) : hs no i k = false := by simp [hs, no]
theorem take_next {α : Type} {l : List α} {j : Nat} {p : α} (h : l[j]? = some p) : l.take (j + 1) = l.take j ++ [p] := by
  obtain ⟨hj, e⟩ := List.getElem?_eq_some_iff.1 h
  rw [List.take_succ_eq_append_getElem hj, e]
theorem sets_one (n : Nat) (r : Rws) (p : Int × Int) : sets n r [p] = setR n r p.1 p.2 := rfl
theorem sets_take {n : Nat} {r : Rws} {l : List (Int × Int)} {j : Nat} {p : Int × Int} (h : l[j]? = some p) : sets n r (l.take (j + 1)) = setR n (sets n r (l.take j)) p.1 p.2 := by
  rw [take_next h, sets_append, sets_one]
/-- turned around -/
def sw (l : List (Int × Int)) : List (Int × Int) := l.map fun p => (p.2, p.1)
theorem sw_take {n : Nat} {r : Rws} {l : List (Int × Int)} {j : Nat} {p : Int × Int} (h : l[j]? = some p) : sets n r (sw (l.take (j + 1))) = setR n (sets n r (sw (l.take j))) p.2 p.1 := by
  rw [take_next h]
  unfold sw
  rw [List.map_append, sets_append]
  rfl
theorem sets_turned (n : Nat) (l : List (Int × Int)) (i k : Nat) (hi : i < n) (hk : k < n) : hs (sets n no l) i k = hs (sets n no (sw l)) k i := by
  rw [hs_sets n no l i k hi hk, hs_sets n no (sw l) k i hk hi, hs_no, hs_no, Bool.false_or, Bool.false_or]
  unfold sw
  rw [List.any_map]
  congr 1
  funext p
  obtain ⟨a, b⟩ := p
  simp only [Function.comp, Prod.mk.injEq]
  rw [decide_eq_decide]
  exact And.comm
theorem pair_lt {l : List (Int × Int)} {j : Nat} (h : j < l.length) : ∃ p, l[j]? = some p := ⟨_, List.getElem?_eq_getElem h⟩
theorem hsI_nat (n : Nat) (r : Rws) (i k : Nat) (hi : i < n) (hk : k < n) : hsI n r (i : Int) (k : Int) = hs r i k := by
  have : inB n (i : Int) (k : Int) = true := (inB_iff n _ _).2 (by omega)
  simp [hsI, this]
theorem MW.pair {w : World} (b : Nat) (p : Int × Int) (t : TypeId) : (w.alloc (.cells #[.int .i64 p.1, .int .i64 p.2] t)).cell? ⟨w.heap.size, 0, none⟩ = some (.int .i64 p.1) ∧ (w.alloc (.cells #[.int .i64 p.1, .int .i64 p.2] t)).cell? ⟨w.heap.size, 1, none⟩ = some (.int .i64 p.2) ∧ b = b := by
  refine ⟨?_, ?_, rfl⟩
  · rw [cell_of (heap_new _ _)]; rfl
  · rw [cell_of (heap_new _ _)]; rfl
end Mx
end Go.Proofs.Ytdfjcmlafhannaa
