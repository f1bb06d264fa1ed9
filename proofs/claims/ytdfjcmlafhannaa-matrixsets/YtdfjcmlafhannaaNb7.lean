/- Layer 25's laws: frames, and pairs that are set. -/
import Derived.Test.YtdfjcmlafhannaaNb6
namespace Go.Proofs.Ytdfjcmlafhannaa
open Go.ChangeShapes Go.WideShapes Go.ChangeAt Go.RowKit
namespace Mx
open Ba (KB btr heap_lt cell_of frozen_of ret_bool ret_int bdrew bdrew1 heap_new below_alloc heap_below own_below nth)

theorem bel_kb {N W : Nat} {w a b : World} (h : Below N w a) (k : KB W a b) (hs : N ≤ a.heap.size) (hW : N ≤ W) : Below N w b :=
  ⟨k.os.trans h.os, k.tape.trans h.tape, k.output.trans h.output, Nat.le_trans h.size k.size, fun x hx => (k.block x (by omega) (by omega)).trans (h.block x hx)⟩
theorem bel_drw {N : Nat} {w a : World} (h : Below N w a) (hs : N ≤ a.heap.size) (q : Nat) : Below N w (a.drewN q) := h.trans ((bdrew a q).mono hs)
/-- what is set first is there among more -/
theorem sets_more (n : Nat) (l more : List (Int × Int)) (i k : Nat) (hi : i < n) (hk : k < n) (h : hs (sets n no l) i k = true) : hs (sets n (sets n no l) more) i k = true := by
  rw [hs_sets n (sets n no l) more i k hi hk, h, Bool.true_or]
theorem sets_in (n : Nat) (l : List (Int × Int)) {j : Nat} {p : Int × Int} (h : l[j]? = some p) (hb : inB n p.1 p.2 = true) : hsI n (clo (sets n no l) n) p.1 p.2 = true := by
  have hq := (inB_iff n p.1 p.2).1 hb
  have e : hs (sets n no l) p.1.toNat p.2.toNat = true := by
    rw [hs_sets n no l _ _ (by omega) (by omega), Bool.or_eq_true]
    right
    rw [List.any_eq_true]
    refine ⟨p, List.mem_of_getElem? h, ?_⟩
    rw [decide_eq_true_eq, Prod.ext_iff]
    simp only
    omega
  unfold hsI
  rw [hb, Bool.true_and]
  exact clo_has _ n _ _ (by omega) e
end Mx
end Go.Proofs.Ytdfjcmlafhannaa
