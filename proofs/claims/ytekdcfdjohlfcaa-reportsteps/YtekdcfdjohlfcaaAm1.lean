/- Layer 18's reference as a part of a greater block, over this seat's program: a cell of it at an offset; what lies around it. -/
import Derived.Test.YtekdcfdjohlfcaaAp
namespace Go.Proofs.Ytekdcfdjohlfcaa
open Go.ChangeShapes Go.WideShapes Go.ChangeAt Go.RowKit
namespace Co
open Ck Ce
open Ba (KF Bd Nw)

/-- a cell of the reference at o of block R; around it all is as in W0 -/
structure RO (W0 : World) (R o : Nat) (w : World) (a : Ac) (F : Nat → Int) (tl : Bool) : Prop where
  lt : R < w.heap.size
  fz : ∀ p, w.frozen? ⟨R, p, none⟩ = false
  c0 : w.cell? ⟨R, o, none⟩ = some (.int .i64 a.tid)
  c1 : w.cell? ⟨R, o + 1, none⟩ = some (.int .i64 a.n)
  c2 : w.cell? ⟨R, o + 2, none⟩ = some (.bool a.no)
  c3 : w.cell? ⟨R, o + 3, none⟩ = some (.bool a.tl)
  rd : ∀ k, k < 256 → w.cell? ⟨R, o + 4 + k, none⟩ = some (.int .i64 (F k))
  ct : w.cell? ⟨R, o + 260, none⟩ = some (.bool tl)
  fr : ∀ p, (p < o ∨ o + 261 ≤ p) → w.cell? ⟨R, p, none⟩ = W0.cell? ⟨R, p, none⟩
section
variable {W0 w w' : World} {R o : Nat} {a : Ac} {F : Nat → Int} {tl : Bool}
theorem RO.block (h : RO W0 R o w a F tl) (e : w'.heap[R]? = w.heap[R]?) : RO W0 R o w' a F tl := by
  have ec : ∀ p, w'.cell? ⟨R, p, none⟩ = w.cell? ⟨R, p, none⟩ := fun p => World.cell?_of_block (w := w) (a := ⟨R, p, none⟩) e
  have ef : ∀ p, w'.frozen? ⟨R, p, none⟩ = w.frozen? ⟨R, p, none⟩ := fun p => World.frozen?_of_block (w := w) (a := ⟨R, p, none⟩) e
  have hlt : R < w'.heap.size := by
    have h1 := h.lt
    rw [Array.getElem?_eq_getElem h1] at e
    exact (Array.getElem?_eq_some_iff.1 e).1
  exact ⟨hlt, fun p => (ef p).trans (h.fz p), (ec _).trans h.c0, (ec _).trans h.c1, (ec _).trans h.c2, (ec _).trans h.c3, fun k hk => (ec _).trans (h.rd k hk), (ec _).trans h.ct, fun p hp => (ec p).trans (h.fr p hp)⟩
theorem RO.below (h : RO W0 R o w a F tl) (b : Below w.heap.size w w') : RO W0 R o w' a F tl := h.block (b.block R h.lt)
theorem other (w : World) (R p q : Nat) (v : Value) (h : p ≠ q) : (w.setCell ⟨R, q, none⟩ v).cell? ⟨R, p, none⟩ = w.cell? ⟨R, p, none⟩ :=
  World.cell?_setCell_other _ _ _ _ (fun e => h (congrArg Addr.off e).symm)
theorem size_set (w : World) (A : Addr) (v : Value) : (w.setCell A v).heap.size = w.heap.size := by simp [World.setCell]
theorem RO.setRead (h : RO W0 R o w a F tl) {k : Nat} (hk : k < 256) (v : Int) : RO W0 R o (w.setCell ⟨R, o + 4 + k, none⟩ (.int .i64 v)) a (upF F k v) tl := by
  refine ⟨by rw [size_set]; exact h.lt, fun p => by rw [World.frozen?_setCell]; exact h.fz p, ?_, ?_, ?_, ?_, fun j hj => ?_, ?_, fun p hp => ?_⟩
  · rw [other _ _ _ _ _ (by omega)]; exact h.c0
  · rw [other _ _ _ _ _ (by omega)]; exact h.c1
  · rw [other _ _ _ _ _ (by omega)]; exact h.c2
  · rw [other _ _ _ _ _ (by omega)]; exact h.c3
  · by_cases e : j = k
    · subst e
      rw [World.cell?_setCell_same _ _ _ (h.rd j hj)]
      simp [upF]
    · rw [other _ _ _ _ _ (by omega), h.rd j hj]
      simp [upF, e]
  · rw [other _ _ _ _ _ (by omega)]; exact h.ct
  · rw [other _ _ _ _ _ (by omega)]; exact h.fr p hp
theorem RO.setTl (h : RO W0 R o w a F tl) (b : Bool) : RO W0 R o (w.setCell ⟨R, o + 260, none⟩ (.bool b)) a F b := by
  refine ⟨by rw [size_set]; exact h.lt, fun p => by rw [World.frozen?_setCell]; exact h.fz p, ?_, ?_, ?_, ?_, fun j hj => ?_, ?_, fun p hp => ?_⟩
  · rw [other _ _ _ _ _ (by omega)]; exact h.c0
  · rw [other _ _ _ _ _ (by omega)]; exact h.c1
  · rw [other _ _ _ _ _ (by omega)]; exact h.c2
  · rw [other _ _ _ _ _ (by omega)]; exact h.c3
  · rw [other _ _ _ _ _ (by omega)]; exact h.rd j hj
  · exact World.cell?_setCell_same _ _ _ h.ct
  · rw [other _ _ _ _ _ (by omega)]; exact h.fr p hp
theorem RO.setAc (h : RO W0 R o w a F tl) (t n : Int) (no ta : Bool) : RO W0 R o ((((w.setCell ⟨R, o, none⟩ (.int .i64 t)).setCell ⟨R, o + 1, none⟩ (.int .i64 n)).setCell ⟨R, o + 2, none⟩ (.bool no)).setCell ⟨R, o + 3, none⟩ (.bool ta)) ⟨t, n, no, ta⟩ F tl := by
  have e1 : (w.setCell ⟨R, o, none⟩ (.int .i64 t)).cell? ⟨R, o + 1, none⟩ = _ := (other _ _ _ _ _ (by omega)).trans h.c1
  have e2 : ((w.setCell ⟨R, o, none⟩ (.int .i64 t)).setCell ⟨R, o + 1, none⟩ (.int .i64 n)).cell? ⟨R, o + 2, none⟩ = _ := (other _ _ _ _ _ (by omega)).trans ((other _ _ _ _ _ (by omega)).trans h.c2)
  have e3 : (((w.setCell ⟨R, o, none⟩ (.int .i64 t)).setCell ⟨R, o + 1, none⟩ (.int .i64 n)).setCell ⟨R, o + 2, none⟩ (.bool no)).cell? ⟨R, o + 3, none⟩ = _ := (other _ _ _ _ _ (by omega)).trans ((other _ _ _ _ _ (by omega)).trans ((other _ _ _ _ _ (by omega)).trans h.c3))
  have far : ∀ p, p < o ∨ o + 4 ≤ p → ((((w.setCell ⟨R, o, none⟩ (.int .i64 t)).setCell ⟨R, o + 1, none⟩ (.int .i64 n)).setCell ⟨R, o + 2, none⟩ (.bool no)).setCell ⟨R, o + 3, none⟩ (.bool ta)).cell? ⟨R, p, none⟩ = w.cell? ⟨R, p, none⟩ := fun p hp => by
    rw [other _ _ _ _ _ (by omega), other _ _ _ _ _ (by omega), other _ _ _ _ _ (by omega), other _ _ _ _ _ (by omega)]
  refine ⟨by simp only [size_set]; exact h.lt, fun p => by simp only [World.frozen?_setCell]; exact h.fz p, ?_, ?_, ?_, ?_, fun j hj => ?_, ?_, fun p hp => ?_⟩
  · rw [other _ _ _ _ _ (by omega), other _ _ _ _ _ (by omega), other _ _ _ _ _ (by omega)]
    exact World.cell?_setCell_same _ _ _ h.c0
  · rw [other _ _ _ _ _ (by omega), other _ _ _ _ _ (by omega)]
    exact World.cell?_setCell_same _ _ _ e1
  · rw [other _ _ _ _ _ (by omega)]
    exact World.cell?_setCell_same _ _ _ e2
  · exact World.cell?_setCell_same _ _ _ e3
  · rw [far _ (by omega)]; exact h.rd j hj
  · rw [far _ (by omega)]; exact h.ct
  · rw [far _ (by omega)]; exact h.fr p hp
theorem RO.cellR (h : RO W0 R o w a F tl) {k : Nat} (hk : k < 256) : w.cell? ⟨R, o + 4 + k, none⟩ = some (.int .i64 (F k)) ∧ w.frozen? ⟨R, o + 4 + k, none⟩ = false := ⟨h.rd k hk, h.fz _⟩
theorem RO.ext {H : Nat → Int} (h : RO W0 R o w a F tl) (e : ∀ k, k < 256 → H k = F k) : RO W0 R o w a H tl :=
  ⟨h.lt, h.fz, h.c0, h.c1, h.c2, h.c3, fun k hk => by rw [e k hk]; exact h.rd k hk, h.ct, h.fr⟩
theorem RO.cellT (h : RO W0 R o w a F tl) : w.cell? ⟨R, o + 260, none⟩ = some (.bool tl) ∧ w.frozen? ⟨R, o + 260, none⟩ = false := ⟨h.ct, h.fz _⟩
theorem RO.cellA (h : RO W0 R o w a F tl) : w.cell? ⟨R, o, none⟩ = some (.int .i64 a.tid) ∧ w.cell? ⟨R, o + 1, none⟩ = some (.int .i64 a.n) ∧ w.cell? ⟨R, o + 2, none⟩ = some (.bool a.no) ∧ w.cell? ⟨R, o + 3, none⟩ = some (.bool a.tl) ∧ ∀ i, w.frozen? ⟨R, i, none⟩ = false := ⟨h.c0, h.c1, h.c2, h.c3, h.fz⟩
end
end Co
end Go.Proofs.Ytekdcfdjohlfcaa
