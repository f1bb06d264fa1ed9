/- Layer 27's laws: two boxes in memory; twice a half. -/
import Derived.Test.YtgmkknaagbjcmaaFw9
import Derived.Deep.DeepCutAuto
namespace Go.Proofs.Ytgmkknaagbjcmaa
open Go.ChangeShapes Go.WideShapes Go.ChangeAt Go.RowKit
namespace Fw
open Ba Fl

structure BX (w : World) (L M Q : Nat) (a b c d x y : Int) : Prop where
  hl : w.heap[L]? = some (.cells #[.int .i64 a, .int .i64 b] 33 (0, 0))
  hm : w.heap[M]? = some (.cells #[.int .i64 c, .int .i64 d] 33 (0, 0))
  hq : w.heap[Q]? = some (.cells #[.int .i64 x, .int .i64 y] 33 (0, 0))
section
variable {w : World} {L M Q : Nat} {a b c d x y : Int}
theorem BX.l0 (h : BX w L M Q a b c d x y) (h1 : L ≠ M) (h2 : L ≠ Q) (v : Int) : BX (w.setCell ⟨L, 0, none⟩ (.int .i64 v)) L M Q v b c d x y :=
  have K := (KB.refl L w).setCell 0 (.int .i64 v)
  ⟨Ba.heap_setCell_same h.hl _, K.heap h.hm (Ne.symm h1), K.heap h.hq (Ne.symm h2)⟩
theorem BX.l1 (h : BX w L M Q a b c d x y) (h1 : L ≠ M) (h2 : L ≠ Q) (v : Int) : BX (w.setCell ⟨L, 1, none⟩ (.int .i64 v)) L M Q a v c d x y :=
  have K := (KB.refl L w).setCell 1 (.int .i64 v)
  ⟨Ba.heap_setCell_same h.hl _, K.heap h.hm (Ne.symm h1), K.heap h.hq (Ne.symm h2)⟩
theorem BX.m0 (h : BX w L M Q a b c d x y) (h1 : L ≠ M) (h2 : M ≠ Q) (v : Int) : BX (w.setCell ⟨M, 0, none⟩ (.int .i64 v)) L M Q a b v d x y :=
  have K := (KB.refl M w).setCell 0 (.int .i64 v)
  ⟨K.heap h.hl h1, Ba.heap_setCell_same h.hm _, K.heap h.hq (Ne.symm h2)⟩
theorem BX.m1 (h : BX w L M Q a b c d x y) (h1 : L ≠ M) (h2 : M ≠ Q) (v : Int) : BX (w.setCell ⟨M, 1, none⟩ (.int .i64 v)) L M Q a b c v x y :=
  have K := (KB.refl M w).setCell 1 (.int .i64 v)
  ⟨K.heap h.hl h1, Ba.heap_setCell_same h.hm _, K.heap h.hq (Ne.symm h2)⟩
end
theorem below_set {w u : World} {n b i : Nat} {v : Value} (h : Below n w u) (hb : n ≤ b) : Below n w (u.setCell ⟨b, i, none⟩ v) := by
  refine ⟨h.os, h.tape, h.output, ?_, fun k hk => ?_⟩
  · have : (u.setCell ⟨b, i, none⟩ v).heap.size = u.heap.size := by simp [World.setCell]
    rw [this]; exact h.size
  · rw [← h.block k hk]
    exact Below.heap_setCell _ _ _ _ (by show k ≠ b; omega)
theorem prod_comm (x y : Ieee.Datum) : x.product y = y.product x := by
  cases x <;> cases y <;> simp [Ieee.Datum.product, Bool.xor_comm, Nat.mul_comm, Int.add_comm]
theorem Hf.twice {a : Nat} {n : Int} (h : Hf a n) (hn : (2 * n).natAbs < 2 ^ 53) : ∃ r, floatBits .mul .f64 a 4611686018427387904 = some r ∧ Hi r n := by
  have h2 : Hf 4611686018427387904 (2 * 2) := hi_of (n := 2) (by decide) (by decide +kernel)
  obtain ⟨r, e, hr⟩ := Hf.mul h2 h hn
  refine ⟨r, ?_, hr⟩
  have e' : Ieee.double.mul 4611686018427387904 a = some r := e
  show Ieee.double.mul a 4611686018427387904 = some r
  rw [← e']
  unfold Ieee.Format.mul
  rw [prod_comm]
section
variable {H : Type} {enc : TypeId × Value → H} {w : World}
theorem fields2 : ∃ fs : Array Field, Try.prog.underlying 33 = some (.struct fs) ∧ fs.size = 2 ∧ (∃ f, fs[0]? = some f ∧ f.offset = 0 ∧ f.type = 3) ∧ (∃ f, fs[1]? = some f ∧ f.offset = 1 ∧ f.type = 3) :=
  ⟨_, Try.underlying33, rfl, ⟨_, rfl, rfl, rfl⟩, ⟨_, rfl, rfl, rfl⟩⟩
theorem cells_plc : Try.prog.cellsOf 33 = 2 := by kernel_rfl
theorem plc_cells (n : Nat) (cs : List Value) (x : DataW H × List MemPlace) (h : DataW.trod enc Try.prog w 0 (fun _ => true) true n 33 cs = some x) : ∃ z : List Int, ∀ j, j < 2 → cs[j]? = some (.int .i64 (nth z j)) := by
  obtain ⟨fs, hu, hsz, ⟨f0, g0, o0, t0⟩, ⟨f1, g1, o1, t1⟩⟩ := fields2
  obtain ⟨xs, k, _, hxx, hcl, hxl, hff⟩ := DataW.trod_struct hu h
  rw [hsz] at hxl
  have a0 := hff 0 f0 g0
  have a1 := hff 1 f1 g1
  rw [o0, t0, Ba.cells_int, List.getElem?_eq_getElem (by omega)] at a0
  rw [o1, t1, Ba.cells_int, List.getElem?_eq_getElem (by omega)] at a1
  obtain ⟨v0, e0, _⟩ := DataW.trod_int Try.underlying3 a0
  obtain ⟨v1, e1, _⟩ := DataW.trod_int Try.underlying3 a1
  refine ⟨[v0, v1], fun j hj => ?_⟩
  match j, hj with
  | 0, _ => exact Ba.one_of e0
  | 1, _ => exact Ba.one_of e1
theorem places_open {n : Nat} {oa : Option Addr} {len cap : Nat} {x : DataW H × List MemPlace} (h : DataW.trod enc Try.prog w 0 (fun _ => true) true n 31 [.slice oa len cap] = some x) : ∃ l : List (List Int), l.length = len ∧ QAt w oa len (fun i => (nth (l.getD i []) 0, nth (l.getD i []) 1)) ∧ len ≤ cap ∧ cap ≤ maxLen := by
  obtain ⟨l, h1, h2, h3, h4⟩ := Ba.recs_open Try.underlying31 (by decide) cells_plc plc_cells h
  refine ⟨l, h1, fun i hi => ?_, h3, h4⟩
  obtain ⟨z, hz⟩ : ∃ z, l[i]? = some z := ⟨_, List.getElem?_eq_getElem (by omega)⟩
  obtain ⟨b, off, e, hc⟩ := h2 i z hz
  refine ⟨b, off, e, ?_, ?_⟩
  · have := hc 0 (by decide)
    simpa [List.getD, hz] using this
  · have := hc 1 (by decide)
    simpa [List.getD, hz] using this
end
end Fw
end Go.Proofs.Ytgmkknaagbjcmaa
