/- Layer 25's laws: the program's matrix beside the document's. -/
import Derived.Test.YtdfjcmlafhannaaNb7
namespace Go.Proofs.Ytdfjcmlafhannaa
open Go.ChangeShapes Go.WideShapes Go.ChangeAt Go.RowKit
namespace Mx
open Ba (KB btr heap_lt cell_of frozen_of ret_bool ret_int bdrew bdrew1 heap_new below_alloc heap_below own_below nth)

theorem RX.congr {w : World} {base G n : Nat} {f g : Nat → Nat → Bool} {v : Value} {bs : List Nat} (x : RX w base G n f v bs) (h : ∀ i k, i < n → k < n → g i k = f i k) : RX w base G n g v bs :=
  ⟨x.le, x.hd, x.gb, ⟨x.tx.own, fun i b hb => by
    obtain ⟨h1, cur, h2, h3⟩ := x.tx.row i b hb
    have hi : i < n := by rw [← x.len]; exact (List.getElem?_eq_some_iff.1 hb).1
    exact ⟨h1, cur, h2, fun k hk => by rw [h i k hi hk]; exact h3 k hk⟩, x.tx.nd⟩, x.len⟩
theorem hs_setR (n : Nat) (r : Rws) (i k : Int) : (if inB n i k then setF (hs r) i.toNat k.toNat else hs r) = hs (setR n r i k) := by
  unfold setR
  cases h : inB n i k
  · have : ¬ (0 ≤ i ∧ i < (n : Int) ∧ 0 ≤ k ∧ k < (n : Int)) := fun q => by
      have : inB n i k = true := (inB_iff n i k).2 (by omega)
      rw [h] at this; cases this
    rw [if_neg this]; simp
  · have := (inB_iff n i k).1 h
    rw [if_pos rfl, if_pos (show 0 ≤ i ∧ i < (n : Int) ∧ 0 ≤ k ∧ k < (n : Int) by omega)]
    funext a b
    rw [hs_set1]; rfl
theorem fI_hs (n : Nat) (r : Rws) (i k : Int) : fI n (hs r) i k = hsI n r i k := rfl
theorem MW.bel {w w' : World} {M R W n base : Nat} {r : Rws} (m : MW w M R W n r) (b : Below base w w') (h1 : M < base) (h2 : R < base) (h3 : W < base) : MW w' M R W n r :=
  m.keep (b.block M h1) (b.block R h2) (b.block W h3)
theorem no_hs : hs no = noF := by funext i k; exact hs_no i k
end Mx
end Go.Proofs.Ytdfjcmlafhannaa
