/- Layer 18's laws, over this seat's program: a step of both (does). -/
import Derived.Test.YtekdcfdjohlfcaaAq
namespace Go.Proofs.Ytekdcfdjohlfcaa
open Go.ChangeShapes Go.WideShapes Go.ChangeAt Go.RowKit
namespace Ce
open Ck
open Ba (KF Bd Nw)
open Ep (tidOf clkOf ownB rdN rdT rdt rdc rdk)

/-- both cells, side by side -/
structure J (Y0 : Nat → Prop) (X R : Nat) (w : World) (st : Cst) (a : Ac) (F : Nat → Int) (tl : Bool) : Prop where
  cw : CW (fun k => Y0 k ∨ k = R) X w st
  rx : RX w R a F tl
  nr : ¬ Y0 R
  eq : Eqc st a F tl
theorem J.y0 {Y0 : Nat → Prop} {X R : Nat} {w : World} {st : Cst} {a : Ac} {F : Nat → Int} {tl : Bool} (j : J Y0 X R w st a F tl) : ∀ k, Y0 k → k < w.heap.size := fun k hk => j.cw.yl k (.inl hk)
theorem J.below {Y0 : Nat → Prop} {X R : Nat} {w w' : World} {st : Cst} {a : Ac} {F : Nat → Int} {tl : Bool} (j : J Y0 X R w st a F tl) (b : Below w.heap.size w w') : J Y0 X R w' st a F tl := ⟨j.cw.kept b, j.rx.below b, j.nr, j.eq⟩
theorem J.more {Y0 Z0 : Nat → Prop} {X R : Nat} {w w' : World} {st : Cst} {a : Ac} {F : Nat → Int} {tl : Bool} (j : J Y0 X R w st a F tl) (b : Below w.heap.size w w') (hz : ∀ k, Z0 k → Y0 k ∨ w.heap.size ≤ k) (hl : ∀ k, Z0 k → k < w'.heap.size) : J Z0 X R w' st a F tl := by
  refine ⟨j.cw.more b (fun k q => ?_) (fun k q => ?_), j.rx.below b, fun q => ?_, j.eq⟩
  · rcases q with q | q
    · rcases hz k q with r | r
      · exact .inl (.inl r)
      · exact .inr r
    · exact .inl (.inr q)
  · rcases q with q | q
    · exact hl k q
    · rw [q]; exact Nat.lt_of_lt_of_le j.rx.lt b.size
  · rcases hz R q with r | r
    · exact j.nr r
    · have := j.rx.lt; omega
theorem J.less {Y0 Z0 : Nat → Prop} {X R : Nat} {w : World} {st : Cst} {a : Ac} {F : Nat → Int} {tl : Bool} (j : J Y0 X R w st a F tl) (hz : ∀ k, Z0 k → Y0 k) : J Z0 X R w st a F tl :=
  j.more (Below.refl _ _) (fun k q => .inl (hz k q)) (fun k q => j.y0 k (hz k q))
/-- the reference's calls leave the cell alone -/
theorem CW.ref {Y : Nat → Prop} {X R : Nat} {w w' : World} {st : Cst} (h : CW Y X w st) (hR : Y R) (k : KF (fun k => k = R) w w') : CW Y X w' st := by
  obtain ⟨v, h⟩ := h
  have hX : X ≠ R := fun e => h.yx (e ▸ hR)
  refine ⟨v, (k.block X h.lt hX).trans h.head, ?_, h.ne, h.yx, h.yg, fun x q => Nat.lt_of_lt_of_le (h.yl x q) k.size, h.gd⟩
  refine ⟨h.own.1, ?_⟩
  rcases h.own.2 with q | ⟨g, cap, cr, e, h0, hg, q⟩
  · exact .inl q
  · refine .inr ⟨g, cap, cr, e, h0, ?_, q⟩
    have hgR : g ≠ R := fun e2 => h.yg g (by rw [e]; rfl) (e2 ▸ hR)
    exact (k.block g (Array.getElem?_eq_some_iff.1 hg).1 hgR).trans hg
theorem KY.ref {Y0 : Nat → Prop} {R : Nat} {w w' : World} (hR : ¬ Y0 R) (hy : ∀ k, Y0 k → k < w.heap.size) (k : KF (fun k => k = R) w w') : KY Y0 w w' :=
  ⟨k.os, k.tape, k.output, k.size, fun x hx => k.block x (hy x hx) (fun e => hR (e ▸ hx))⟩
/-- what a step gives -/
def DoR (Y0 : Nat → Prop) (X R : Nat) (w : World) (r : Ending) (w' : World) : Prop := r = .returned (.bool true) ∧ (∃ st a F tl, J Y0 X R w' st a F tl) ∧ KY Y0 w w'
/-- a step as a value -/
def stpV (wh tid cut e : Int) (oa : Option Addr) (n c : Nat) : Array Value := #[.int .i64 wh, .int .i64 tid, .int .i64 cut, .int .u64 e, .slice oa n c]

end Ce
end Go.Proofs.Ytekdcfdjohlfcaa
