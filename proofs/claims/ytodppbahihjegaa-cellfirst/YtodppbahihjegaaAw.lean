/- Layer 18's CellFirst, over this seat's program: a cell, four clocks and two rows side by side. -/
import Derived.Test.YtodppbahihjegaaAv
import Derived.Test.YtodppbahihjegaaAs
namespace Go.Proofs.Ytodppbahihjegaa
open Go.ChangeShapes Go.WideShapes Go.ChangeAt Go.RowKit
namespace Ce
open Ck
open Ba (KF Bd Nw)
open Ep (tidOf clkOf ownB)

/-- the accesses as cells -/
def dV (d : Ax) : List Value := [.int .i64 (d.tid : Int), .int .i64 d.n, .bool false, .bool false]
def dC (D : List Ax) : List Value := D.flatMap dV
def wC (D : List Ax) : List Value := D.map fun d => .bool d.wr
theorem dC_len (D : List Ax) : (dC D).length = D.length * 4 := by
  induction D with
  | nil => rfl
  | cons d r ih =>
    show (dV d ++ dC r).length = _
    rw [List.length_append, ih, List.length_cons]
    show 4 + _ = _
    omega
theorem dC_at : ∀ (D : List Ax) (i : Nat) (d : Ax), D[i]? = some d → ∀ j, j < 4 → (dC D)[i * 4 + j]? = (dV d)[j]?
  | [], i, d, h, _, _ => by simp at h
  | x :: r, 0, d, h, j, hj => by
    simp at h
    subst h
    show (dV x ++ dC r)[0 * 4 + j]? = _
    rw [List.getElem?_append_left (by show 0 * 4 + j < 4; omega)]
    congr 1
    omega
  | x :: r, i + 1, d, h, j, hj => by
    have ih := dC_at r i d (by simpa using h) j hj
    show (dV x ++ dC r)[(i + 1) * 4 + j]? = _
    rw [List.getElem?_append_right (by show 4 ≤ (i + 1) * 4 + j; omega), ← ih]
    congr 1
    show (i + 1) * 4 + j - 4 = _
    omega
theorem dC_app (D : List Ax) (d : Ax) : dC (D ++ [d]) = dC D ++ dV d := by simp [dC]
theorem wC_app (D : List Ax) (d : Ax) : wC (D ++ [d]) = wC D ++ [.bool d.wr] := by simp [wC]
theorem wC_at (D : List Ax) (i : Nat) (d : Ax) (h : D[i]? = some d) : (wC D)[i]? = some (.bool d.wr) := by simp [wC, h]

theorem own_same {w w' : World} {base : Nat} {e : TypeId} {sz : Nat} {v : Value} {n : Nat} {xs : List Value} (h : w.ownsRow base e sz v n xs) (hb : ∀ g, v.ownBlock = some g → w'.heap[g]? = w.heap[g]?) : w'.ownsRow base e sz v n xs := by
  refine ⟨h.1, ?_⟩
  rcases h.2 with q | ⟨g, cap, cr, rfl, h0, hg, q⟩
  · exact .inl q
  · exact .inr ⟨g, cap, cr, rfl, h0, (hb g rfl).trans hg, q⟩
theorem RA.block {w w' : World} {b off : Nat} {F : Nat → Int} (h : Ck.RA w b off F) (e : w'.heap[b]? = w.heap[b]?) : Ck.RA w' b off F := fun k hk =>
  ⟨(World.cell?_of_block (w := w) (a := ⟨b, off + k, none⟩) e).trans (h k hk).1, (World.frozen?_of_block (w := w) (a := ⟨b, off + k, none⟩) e).trans (h k hk).2⟩
theorem CW.grown {Y Z : Nat → Prop} {X : Nat} {w w' : World} {st : Cst} {o : Option Nat} (h : CW Y X w st) (hg : w.grownBy w' o) (ho : ∀ g, o = some g → Y g) (hz : ∀ k, Z k → Y k ∨ w.heap.size ≤ k) (hl : ∀ k, Z k → k < w'.heap.size) : CW Z X w' st := by
  obtain ⟨v, h⟩ := h
  have hX : some X ≠ o := fun e => h.yx (ho X e.symm)
  refine ⟨v, (hg.block X h.lt hX).trans h.head, own_same h.own (fun g e => hg.block g (h.own.lt g e).2 (fun q => h.yg g e (ho g q.symm))), h.ne, fun q => ?_, fun g e q => ?_, hl, h.gd⟩
  · rcases hz X q with r | r
    · exact h.yx r
    · have := h.lt; omega
  · rcases hz g q with r | r
    · exact h.yg g e r
    · have := (h.own.lt g e).2; omega

/-- what lies beside the cell -/
def Bs (w : World) (K : Nat) (vD vW : Value) : Nat → Prop := fun k => Lw w k ∨ k = K ∨ vD.ownBlock = some k ∨ vW.ownBlock = some k
structure FW (w : World) (X K : Nat) (vD vW : Value) (C : Nat → Nat → Int) (D : List Ax) (st : Cst) (wr : World) : Prop where
  cw : CW (Bs w K vD vW) X wr st
  ra : ∀ g, g < 4 → Ck.RA wr K (g * 256) (C g)
  od : wr.ownsRow w.heap.size 37 4 vD D.length (dC D)
  ow : wr.ownsRow w.heap.size 4 1 vW D.length (wC D)
  kb : w.heap.size ≤ K
  nd : vD.ownBlock ≠ some K
  nw : vW.ownBlock ≠ some K
  dw : ∀ g, vD.ownBlock = some g → vW.ownBlock ≠ some g
  ky : KY (Lw w) w wr
theorem FW.ylt {w wr : World} {X K : Nat} {vD vW : Value} {C : Nat → Nat → Int} {D : List Ax} {st : Cst} (h : FW w X K vD vW C D st wr) : ∀ k, Lw w k → k < wr.heap.size := fun k q => h.cw.yl k (.inl q)
theorem FW.below {w wr w' : World} {X K : Nat} {vD vW : Value} {C : Nat → Nat → Int} {D : List Ax} {st : Cst} (h : FW w X K vD vW C D st wr) (b : Below wr.heap.size wr w') : FW w X K vD vW C D st w' :=
  ⟨h.cw.kept b, fun g hg => (h.ra g hg).below b, own_same h.od (fun g e => b.block g (h.od.lt g e).2), own_same h.ow (fun g e => b.block g (h.ow.lt g e).2), h.kb, h.nd, h.nw, h.dw, h.ky.trans (KY.of b h.ylt)⟩
/-- the cell's calls -/
theorem FW.cell {w wr w' : World} {X K : Nat} {vD vW : Value} {C : Nat → Nat → Int} {D : List Ax} {st st' : Cst} (h : FW w X K vD vW C D st wr) (c : CW (Bs w K vD vW) X w' st') (k : KY (Bs w K vD vW) wr w') : FW w X K vD vW C D st' w' :=
  ⟨c, fun g hg => RA.block (h.ra g hg) (k.block K (.inr (.inl rfl))), own_same h.od (fun g e => k.block g (.inr (.inr (.inl e)))), own_same h.ow (fun g e => k.block g (.inr (.inr (.inr e)))), h.kb, h.nd, h.nw, h.dw, h.ky.trans (k.mono fun _ q => .inl q)⟩
/-- the clocks' calls -/
theorem FW.clk {w wr w' : World} {X K : Nat} {vD vW : Value} {C C' : Nat → Nat → Int} {D : List Ax} {st : Cst} (h : FW w X K vD vW C D st wr) (k : KF (fun k => k = K) wr w') (hr : ∀ g, g < 4 → Ck.RA w' K (g * 256) (C' g)) : FW w X K vD vW C' D st w' :=
  ⟨h.cw.ref (.inr (.inl rfl)) k, hr, own_same h.od (fun g e => k.block g (h.od.lt g e).2 (fun q => h.nd (by rw [← q]; exact e))), own_same h.ow (fun g e => k.block g (h.ow.lt g e).2 (fun q => h.nw (by rw [← q]; exact e))), h.kb, h.nd, h.nw, h.dw, h.ky.trans (KY.ref (fun q => by have : K < w.heap.size := q; have := h.kb; omega) h.ylt k)⟩
/-- one more in the first row, then in the second -/
theorem FW.app {w wr w1 w2 w3 w4 : World} {X K : Nat} {vD vW vD' vW' : Value} {C : Nat → Nat → Int} {D : List Ax} {st : Cst} (h : FW w X K vD vW C D st wr) (d : Ax)
    (b1 : Below wr.heap.size wr w1) (o2 : w2.ownsRow w.heap.size 37 4 vD' (D.length + 1) (dC D ++ dV d)) (g2 : w1.grownBy w2 vD.ownBlock) (e2 : vD'.ownBlock = vD.ownBlock ∨ vD'.ownBlock = some w1.heap.size)
    (b3 : Below w2.heap.size w2 w3) (o4 : w4.ownsRow w.heap.size 4 1 vW' (D.length + 1) (wC D ++ [.bool d.wr])) (g4 : w3.grownBy w4 vW.ownBlock) (e4 : vW'.ownBlock = vW.ownBlock ∨ vW'.ownBlock = some w3.heap.size) : FW w X K vD' vW' C (D ++ [d]) st w4 := by
  have h1 := h.below b1
  have s12 := g2.size
  have s34 := g4.size
  have s23 := b3.size
  have hKl : K < w1.heap.size := h1.cw.yl K (.inr (.inl rfl))
  have c2 : CW (Bs w K vD' vW) X w2 st := by
    refine h1.cw.grown g2 (fun g e => .inr (.inr (.inl e))) (fun k q => ?_) (fun k q => ?_)
    · rcases q with q | q | q | q
      · exact .inl (.inl q)
      · exact .inl (.inr (.inl q))
      · rcases e2 with r | r
        · exact .inl (.inr (.inr (.inl (by rw [← r]; exact q))))
        · rw [r] at q; cases q; exact .inr (Nat.le_refl _)
      · exact .inl (.inr (.inr (.inr q)))
    · rcases q with q | q | q | q
      · exact Nat.lt_of_lt_of_le (h1.cw.yl k (.inl q)) s12
      · rw [q]; omega
      · exact (o2.lt k q).2
      · exact Nat.lt_of_lt_of_le (h1.ow.lt k q).2 s12
  have r2 : ∀ g, g < 4 → Ck.RA w2 K (g * 256) (C g) := fun g hg => RA.block (h1.ra g hg) (g2.block K hKl (fun q => h.nd q.symm))
  have ow2 : w2.ownsRow w.heap.size 4 1 vW D.length (wC D) := own_same h1.ow (fun g e => g2.block g (h1.ow.lt g e).2 (fun q => h.dw g q.symm e))
  have nd2 : vD'.ownBlock ≠ some K := by
    rcases e2 with r | r
    · rw [r]; exact h.nd
    · rw [r]; intro q; cases q; omega
  have dw2 : ∀ g, vD'.ownBlock = some g → vW.ownBlock ≠ some g := by
    intro g q
    rcases e2 with r | r
    · exact h.dw g (by rw [← r]; exact q)
    · rw [r] at q; cases q
      intro q2
      have := (h1.ow.lt _ q2).2
      omega
  have ky2 : KY (Lw w) w w2 := h1.ky.trans (KY.grown g2 h1.ylt (fun g e q => by have := (h1.od.lt g e).1; have : g < w.heap.size := q; omega))
  have f2l : ∀ k, Lw w k → k < w2.heap.size := fun k q => Nat.lt_of_lt_of_le (h1.ylt k q) s12
  have c3 := c2.kept b3
  have r3 : ∀ g, g < 4 → Ck.RA w3 K (g * 256) (C g) := fun g hg => (r2 g hg).below b3
  have od3 : w3.ownsRow w.heap.size 37 4 vD' (D.length + 1) (dC D ++ dV d) := own_same o2 (fun g e => b3.block g (o2.lt g e).2)
  have ow3 : w3.ownsRow w.heap.size 4 1 vW D.length (wC D) := own_same ow2 (fun g e => b3.block g (ow2.lt g e).2)
  have ky3 := ky2.trans (KY.of b3 f2l)
  have hl : (D ++ [d]).length = D.length + 1 := by simp
  refine ⟨c3.grown g4 (fun g e => .inr (.inr (.inr e))) (fun k q => ?_) (fun k q => ?_), fun g hg => RA.block (r3 g hg) (g4.block K (by omega) (fun q => h.nw q.symm)), ?_, ?_, h.kb, nd2, ?_, ?_, ky3.trans (KY.grown g4 (fun k q => Nat.lt_of_lt_of_le (f2l k q) s23) (fun g e q => by have := (ow3.lt g e).1; have : g < w.heap.size := q; omega))⟩
  · rcases q with q | q | q | q
    · exact .inl (.inl q)
    · exact .inl (.inr (.inl q))
    · exact .inl (.inr (.inr (.inl q)))
    · rcases e4 with r | r
      · exact .inl (.inr (.inr (.inr (by rw [← r]; exact q))))
      · rw [r] at q; cases q; exact .inr (Nat.le_refl _)
  · rcases q with q | q | q | q
    · exact Nat.lt_of_lt_of_le (c3.yl k (.inl q)) s34
    · rw [q]; omega
    · exact Nat.lt_of_lt_of_le (od3.lt k q).2 s34
    · exact (o4.lt k q).2
  · rw [hl, dC_app]
    exact own_same od3 (fun g e => g4.block g (od3.lt g e).2 (fun q => dw2 g e q.symm))
  · rw [hl, wC_app]; exact o4
  · rcases e4 with r | r
    · rw [r]; exact h.nw
    · rw [r]; intro q; cases q; omega
  · intro g q
    rcases e4 with r | r
    · rw [r]; exact dw2 g q
    · rw [r]; intro q2; cases q2
      have := (od3.lt _ q).2
      omega
/-- the law's race, reckoned -/
def rcB (C : Nat → Nat → Int) (g : Nat) (wr : Bool) (D : List Ax) : Bool := D.any fun d => (d.wr || wr) && !(decide ((d.tid : Int) = (g : Int))) && decide (C g d.tid < d.n)
theorem rcB_iff (C : Nat → Nat → Int) (g : Nat) (wr : Bool) (D : List Ax) : rcB C g wr D = true ↔ Race C D g wr := by
  unfold rcB Race Kno
  rw [List.any_eq_true]
  constructor
  · rintro ⟨d, hd, h⟩
    simp only [Bool.and_eq_true, Bool.or_eq_true, Bool.not_eq_true', decide_eq_true_eq, decide_eq_false_iff_not] at h
    exact ⟨d, hd, h.1.1, fun q => by rcases q with q | q <;> omega⟩
  · rintro ⟨d, hd, h1, h2⟩
    refine ⟨d, hd, ?_⟩
    simp only [Bool.and_eq_true, Bool.or_eq_true, Bool.not_eq_true', decide_eq_true_eq, decide_eq_false_iff_not]
    exact ⟨⟨h1, fun q => h2 (.inl (by omega))⟩, Int.not_le.1 fun q => h2 (.inr q)⟩
end Ce
end Go.Proofs.Ytodppbahihjegaa
