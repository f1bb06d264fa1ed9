import Derived.Test.YtkkgbeaaekmhfaaGreatZjGl4
import Derived.Deep.Slices
import Derived.ShutString
import Derived.ChangeOld
namespace Go.Proofs.YtkkgbeaaekmhfaaGreat
open Go.ChangeShapes Go.WideShapes Go.ChangeAt Go.RowKit
namespace De
open Ba Re
structure KB (R : Nat) (w w' : World) : Prop where
 os : w'.os = w.os
 tape : w'.tape = w.tape
 output : w'.output = w.output
 size : w.heap.size ≤ w'.heap.size
 block : ∀ k, k < w.heap.size → k ≠ R → w'.heap[k]? = w.heap[k]?
theorem KB.refl (R : Nat) (w : World) : KB R w w := ⟨rfl, rfl, rfl, Nat.le_refl _, fun _ _ _ => rfl⟩
theorem KB.trans {R : Nat} {a b c : World} (h : KB R a b) (k : KB R b c) : KB R a c :=
 ⟨k.os.trans h.os, k.tape.trans h.tape, k.output.trans h.output, Nat.le_trans h.size k.size, fun x hx hr => (k.block x (Nat.lt_of_lt_of_le hx h.size) hr).trans (h.block x hx hr)⟩
theorem KB.of {R : Nat} {a b : World} (h : Below a.heap.size a b) : KB R a b := ⟨h.os, h.tape, h.output, h.size, fun x hx _ => h.block x hx⟩
theorem KB.setCell {R : Nat} {a b : World} (h : KB R a b) (i : Nat) (v : Value) : KB R a (b.setCell ⟨R, i, none⟩ v) :=
 ⟨h.os, h.tape, h.output, by show _ ≤ (b.setCell _ _).heap.size; simp [World.setCell]; exact h.size, fun x hx hr => (Below.heap_setCell _ _ _ _ hr).trans (h.block x hx hr)⟩
theorem KB.below {R : Nat} {w a b : World} (h : Below w.heap.size w a) (k : KB R a b) (hR : w.heap.size ≤ R) : Below w.heap.size w b :=
 ⟨k.os.trans h.os, k.tape.trans h.tape, k.output.trans h.output, Nat.le_trans h.size k.size, fun x hx => (k.block x (Nat.lt_of_lt_of_le hx h.size) (by omega)).trans (h.block x hx)⟩
theorem KB.heap {R b : Nat} {w w' : World} {o : Obj} (k : KB R w w') (h : w.heap[b]? = some o) (hb : b ≠ R) : w'.heap[b]? = some o :=
 (k.block b (heap_lt h) hb).trans h
def rnum (s : ByteArray) (f : Bool) : Int × ByteArray × Bool :=
 bif f then (0, s, true) else match tk (nbs s) with
  | none => (0, bs [], true)
  | some (n, k) => ((n : Int), s.extract k s.size, false)
theorem rnum_t (s : ByteArray) : rnum s true = (0, s, true) := rfl
theorem rnum_n {s : ByteArray} (h : tk (nbs s) = none) : rnum s false = (0, bs [], true) := by simp [rnum, h]
theorem rnum_s {s : ByteArray} {n k : Nat} (h : tk (nbs s) = some (n, k)) : rnum s false = ((n : Int), s.extract k s.size, false) := by simp [rnum, h]
def rup (m : Int) (s : ByteArray) (f : Bool) : Int × ByteArray × Bool :=
 bif decide (m < (rnum s f).1) then (0, (rnum s f).2.1, true) else rnum s f
end De
end Go.Proofs.YtkkgbeaaekmhfaaGreat
namespace Go.Proofs.YtkkgbeaaekmhfaaGreat
open Go.ChangeShapes Go.WideShapes Go.ChangeAt Go.RowKit
namespace De
open Ba Re
def rf (s : ByteArray) (f : Bool) : Nat → Int × Int × ByteArray × Bool
 | 0 => (0, 0, s, f)
 | 1 => ((rnum s f).1, 0, (rnum s f).2.1, (rnum s f).2.2)
 | _ => ((rnum s f).1, (rnum (rnum s f).2.1 (rnum s f).2.2).1, (rnum (rnum s f).2.1 (rnum s f).2.2).2.1, (rnum (rnum s f).2.1 (rnum s f).2.2).2.2)
def rc (s : ByteArray) (f : Bool) : Cs × ByteArray × Bool :=
 (⟨(rup 1 s f).1 == 1, (rnum (rup 1 s f).2.1 (rup 1 s f).2.2).1, (rnum (rnum (rup 1 s f).2.1 (rup 1 s f).2.2).2.1 (rnum (rup 1 s f).2.1 (rup 1 s f).2.2).2.2).1⟩, (rnum (rnum (rup 1 s f).2.1 (rup 1 s f).2.2).2.1 (rnum (rup 1 s f).2.1 (rup 1 s f).2.2).2.2).2)
def rcs (s : ByteArray) (f : Bool) : Nat → List Cs × ByteArray × Bool
 | 0 => ([], s, f)
 | n + 1 => ((rcs s f n).1 ++ [(rc (rcs s f n).2.1 (rcs s f n).2.2).1], (rc (rcs s f n).2.1 (rcs s f n).2.2).2)
theorem rcs_len (s : ByteArray) (f : Bool) (n : Nat) : (rcs s f n).1.length = n := by
 induction n with
 | zero => rfl
 | succ n ih => simp [rcs, ih]
def rop (s : ByteArray) (f : Bool) : OpD × ByteArray × Bool :=
 let p := rnum s f
 let q := rf p.2.1 p.2.2 (nf p.1)
 bif p.1 == 6 then
  let d := rup 1 q.2.2.1 q.2.2.2
  let n := rup 4 d.2.1 d.2.2
  let c := rcs n.2.1 n.2.2 n.1.toNat
  (⟨p.1, q.1, q.2.1, c.1, d.1 == 1⟩, c.2)
 else (⟨p.1, q.1, q.2.1, [], false⟩, q.2.2)
theorem kb_setCell {R O : Nat} {w a : World} (h : KB R w a) (hO : w.heap.size ≤ O) (i : Nat) (v : Value) : KB R w (a.setCell ⟨O, i, none⟩ v) :=
 ⟨h.os, h.tape, h.output, by show _ ≤ (a.setCell _ _).heap.size; simp [World.setCell]; exact h.size, fun x hx hr => (Below.heap_setCell _ _ _ _ (by show x ≠ O; omega)).trans (h.block x hx hr)⟩
theorem results_row1 {fn : Func} {p : Tmp} {ty : TypeId} (h : fn.results = #[.cell p ty]) (tmps : Array Value) (w : World) (g : Nat) (cs : Array Value)
 (hp : tmps.getD p undef = .pointer (some ⟨g, 0, none⟩)) (hl : (loadVar ty ⟨g, 0, none⟩).run Tryz.prog w = .ok (.agg cs) w) :
 (results fn tmps).run Tryz.prog w = .ok (.agg cs) w := by
 have hp' : tmps[p]?.getD undef = .pointer (some ⟨g, 0, none⟩) := by simpa using hp
 simp [results, h, hp', asAddr, hl]
theorem size_op : (Tryz.prog.info? 48).map (·.size) = some 5 := by kernel_rfl
theorem loadVar_op {w : World} {b : Nat} {c : Array Value} {t : TypeId} (h : w.heap[b]? = some (.cells c t (0, 0))) (hc : c.size = 5) : (loadVar 48 ⟨b, 0, none⟩).run Tryz.prog w = .ok (.agg c) w :=
 run_loadVar_row w b t _ _ _ _ h Tryz.underlying48 rfl (by rw [size_op, hc])
theorem five_set {w : World} {b : Nat} {x0 x1 x2 x3 x4 : Value} {t : TypeId} (h : w.heap[b]? = some (.cells #[x0, x1, x2, x3, x4] t (0, 0))) (u0 u1 u2 u3 u4 : Value) : (((((w.setCell ⟨b, 0, none⟩ u0).setCell ⟨b, 1, none⟩ u1).setCell ⟨b, 2, none⟩ u2).setCell ⟨b, 3, none⟩ u3).setCell ⟨b, 4, none⟩ u4).heap[b]? = some (.cells #[u0, u1, u2, u3, u4] t (0, 0)) := by
 rw [Ba.heap_setCell_same (Ba.heap_setCell_same (Ba.heap_setCell_same (Ba.heap_setCell_same (Ba.heap_setCell_same h u0) u1) u2) u3) u4]
 rfl
theorem five_other {w : World} (Z b : Nat) (h : b ≠ Z) (u0 u1 u2 u3 u4 : Value) : (((((w.setCell ⟨Z, 0, none⟩ u0).setCell ⟨Z, 1, none⟩ u1).setCell ⟨Z, 2, none⟩ u2).setCell ⟨Z, 3, none⟩ u3).setCell ⟨Z, 4, none⟩ u4).heap[b]? = w.heap[b]? := by
 rw [Below.heap_setCell _ _ _ _ h, Below.heap_setCell _ _ _ _ h, Below.heap_setCell _ _ _ _ h, Below.heap_setCell _ _ _ _ h, Below.heap_setCell _ _ _ _ h]
theorem kb_five {R Z : Nat} {w a : World} (h : KB R w a) (hZ : w.heap.size ≤ Z) (u0 u1 u2 u3 u4 : Value) : KB R w (((((a.setCell ⟨Z, 0, none⟩ u0).setCell ⟨Z, 1, none⟩ u1).setCell ⟨Z, 2, none⟩ u2).setCell ⟨Z, 3, none⟩ u3).setCell ⟨Z, 4, none⟩ u4) :=
 kb_setCell (kb_setCell (kb_setCell (kb_setCell (kb_setCell h hZ _ _) hZ _ _) hZ _ _) hZ _ _) hZ _ _
theorem kb_drew {R : Nat} {w w' : World} (h : KB R w.drew w') : KB R w w' := ⟨h.os, h.tape, h.output, h.size, h.block⟩
theorem three_other {w : World} (C i0 i1 i2 b i : Nat) (h : b ≠ C) (u0 u1 u2 : Value) : (((w.setCell ⟨C, i0, none⟩ u0).setCell ⟨C, i1, none⟩ u1).setCell ⟨C, i2, none⟩ u2).cell? ⟨b, i, none⟩ = w.cell? ⟨b, i, none⟩ := by
 simp only [World.cell?]
 rw [Below.heap_setCell _ _ _ _ h, Below.heap_setCell _ _ _ _ h, Below.heap_setCell _ _ _ _ h]
theorem kb_cell {R b i : Nat} {w w' : World} {v : Value} (k : KB R w w') (h : w.cell? ⟨b, i, none⟩ = some v) (hb : b ≠ R) : w'.cell? ⟨b, i, none⟩ = some v := by
 have := World.block_lt_of_cell? w _ h
 rw [World.cell?] at h ⊢
 rw [k.block b this hb]
 exact h
def cc (x : Cs) : List Value := [.bool x.send, .int .i64 x.ch, .int .i64 x.val]
def cfill (l : List Cs) (n : Nat) : Array Value := (l.flatMap cc ++ (List.replicate (n - l.length) (cc ⟨false, 0, 0⟩)).flatten).toArray
theorem info_case : (Tryz.prog.info? 92).map (fun i => (i.zero, i.size, i.bytes)) = some (some (.agg #[.bool false, .int .i64 0, .int .i64 0]), 3, 24) := by kernel_rfl
theorem made_cases (n : Nat) (hn : n ≤ 4) : madeCells #[Value.bool false, .int .i64 0, .int .i64 0] (n * 3) = cfill [] n := by
 match n, hn with
 | 0, _ =>
   apply Array.toList_inj.1
   rw [madeCells, Array.toList_map, Array.toList_range]
   rfl
 | 1, _ =>
   apply Array.toList_inj.1
   rw [madeCells, Array.toList_map, Array.toList_range]
   rfl
 | 2, _ =>
   apply Array.toList_inj.1
   rw [madeCells, Array.toList_map, Array.toList_range]
   rfl
 | 3, _ =>
   apply Array.toList_inj.1
   rw [madeCells, Array.toList_map, Array.toList_range]
   rfl
 | 4, _ =>
   apply Array.toList_inj.1
   rw [madeCells, Array.toList_map, Array.toList_range]
   rfl
theorem run_mkc (w : World) (n : Nat) (hn : n ≤ 4) : (Instr.makeSlice 46 (.int .i64 (n : Int)) (.int .i64 (n : Int))).run Tryz.prog w = .ok (.slice (some ⟨w.heap.size, 0, none⟩) n n) (w.alloc (.cells (cfill [] n) 92)) := by
 obtain ⟨i0, hi, hz0, hz1, hz2⟩ := info_parts info_case
 have := run_make (P := Tryz.prog) w 46 92 i0 (.agg #[.bool false, .int .i64 0, .int .i64 0]) Tryz.underlying46 hi hz0 .i64 .i64 n n (by omega) (Int.le_refl _) (by rw [hz2]; omega) (by omega)
 rw [hz1, Int.toNat_natCast] at this
 rw [← made_cases n hn]
 exact this
theorem flat_cc_len (l : List Cs) : (l.flatMap cc).length = l.length * 3 := by
 induction l with
 | nil => rfl
 | cons x t ih => simp [cc] at ih ⊢; omega
theorem flat_cc_at (l : List Cs) (R : List Value) (k : Nat) (x : Cs) (h : l[k]? = some x) : (l.flatMap cc ++ R)[k * 3]? = some (.bool x.send) ∧ (l.flatMap cc ++ R)[k * 3 + 1]? = some (.int .i64 x.ch) ∧ (l.flatMap cc ++ R)[k * 3 + 2]? = some (.int .i64 x.val) := by
 induction l generalizing k with
 | nil => simp at h
 | cons y t ih =>
   cases k with
   | zero =>
     simp at h
     subst h
     simp [cc]
   | succ k =>
     simp at h
     have := ih k h
     rw [show (k + 1) * 3 = k * 3 + 3 by omega, List.flatMap_cons, List.append_assoc]
     have e : ∀ i, (cc y ++ (t.flatMap cc ++ R))[i + 3]? = (t.flatMap cc ++ R)[i]? := fun i => by
      rw [List.getElem?_append_right (by simp [cc])]
      simp [cc]
     rw [e, show k * 3 + 3 + 1 = k * 3 + 1 + 3 by omega, e, show k * 3 + 3 + 2 = k * 3 + 2 + 3 by omega, e]
     exact this
theorem cat_fill {w : World} {b n : Nat} {l : List Cs} {t : TypeId} (h : w.heap[b]? = some (.cells (cfill l n) t (0, 0))) : CAt w (some ⟨b, 0, none⟩) l := by
 intro k x hk
 obtain ⟨q0, q1, q2⟩ := flat_cc_at l (List.replicate (n - l.length) (cc ⟨false, 0, 0⟩)).flatten k x hk
 refine ⟨b, 0, rfl, ?_, ?_, ?_⟩
 ·rw [Nat.zero_add, cell_of h]; simpa [cfill] using q0
 ·rw [Nat.zero_add, cell_of h]; simpa [cfill] using q1
 ·rw [Nat.zero_add, cell_of h]; simpa [cfill] using q2
theorem cfill_size (l : List Cs) (n : Nat) (h : l.length ≤ n) : (cfill l n).size = n * 3 := by
 have e : ∀ q, ((List.replicate q (cc ⟨false, 0, 0⟩)).flatten).length = q * 3 := fun q => by simp [cc]
 show (l.flatMap cc ++ (List.replicate (n - l.length) (cc ⟨false, 0, 0⟩)).flatten).toArray.size = _
 rw [List.size_toArray, List.length_append, flat_cc_len, e]
 omega
theorem fill_cells {w : World} {b n j : Nat} {l : List Cs} {t : TypeId} (h : w.heap[b]? = some (.cells (cfill l n) t (0, 0))) (hl : l.length ≤ n) (hj : j < n) : ∃ v0 v1 v2, w.cell? ⟨b, j * 3, none⟩ = some v0 ∧ w.cell? ⟨b, j * 3 + 1, none⟩ = some v1 ∧ w.cell? ⟨b, j * 3 + 2, none⟩ = some v2 ∧ w.frozen? ⟨b, j * 3, none⟩ = false ∧ w.frozen? ⟨b, j * 3 + 1, none⟩ = false ∧ w.frozen? ⟨b, j * 3 + 2, none⟩ = false := by
 have hs := cfill_size l n hl
 refine ⟨(cfill l n)[j * 3], (cfill l n)[j * 3 + 1], (cfill l n)[j * 3 + 2], ?_, ?_, ?_, frozen_of h _, frozen_of h _, frozen_of h _⟩
 ·rw [cell_of h]; simp
 ·rw [cell_of h]; simp
 ·rw [cell_of h]; simp
theorem cfill_set (l : List Cs) (n : Nat) (x : Cs) (h : l.length < n) : (((cfill l n).setIfInBounds (l.length * 3) (.bool x.send)).setIfInBounds (l.length * 3 + 1) (.int .i64 x.ch)).setIfInBounds (l.length * 3 + 2) (.int .i64 x.val) = cfill (l ++ [x]) n := by
 apply Array.toList_inj.1
 obtain ⟨q, hq⟩ : ∃ q, n - l.length = q + 1 := ⟨n - l.length - 1, by omega⟩
 have e : n - (l ++ [x]).length = q := by simp; omega
 simp only [cfill, hq, e, List.replicate_succ, Array.toList_setIfInBounds, List.flatten_cons, List.flatMap_append]
 rw [← flat_cc_len l]
 generalize l.flatMap cc = A
 generalize (List.replicate q (cc ⟨false, 0, 0⟩)).flatten = B
 simp [cc]
theorem cfill_step (s : ByteArray) (f : Bool) (j m : Nat) (h : j < m) : (((cfill (rcs s f j).1 m).setIfInBounds (j * 3) (.bool (rc (rcs s f j).2.1 (rcs s f j).2.2).1.send)).setIfInBounds (j * 3 + 1) (.int .i64 (rc (rcs s f j).2.1 (rcs s f j).2.2).1.ch)).setIfInBounds (j * 3 + 2) (.int .i64 (rc (rcs s f j).2.1 (rcs s f j).2.2).1.val) = cfill (rcs s f (j + 1)).1 m := by
 have := cfill_set (rcs s f j).1 m (rc (rcs s f j).2.1 (rcs s f j).2.2).1 (by rw [rcs_len]; exact h)
 rw [rcs_len] at this
 exact this
theorem rnum_pos (s : ByteArray) (f : Bool) : 0 ≤ (rnum s f).1 := by
 cases f
 ·cases h : tk (nbs s) with
  | none => rw [rnum_n h]; exact Int.le_refl _
  | some p => obtain ⟨n, k⟩ := p; rw [rnum_s h]; exact Int.natCast_nonneg _
 ·rw [rnum_t]; exact Int.le_refl _
theorem rup_bd (m : Int) (hm : 0 ≤ m) (s : ByteArray) (f : Bool) : 0 ≤ (rup m s f).1 ∧ (rup m s f).1 ≤ m := by
 have h := rnum_pos s f
 unfold rup
 cases hd : decide (m < (rnum s f).1)
 ·simp at hd
  exact ⟨h, hd⟩
 ·exact ⟨Int.le_refl _, hm⟩
end De
end Go.Proofs.YtkkgbeaaekmhfaaGreat
namespace Go.Proofs.YtkkgbeaaekmhfaaGreat
open Go.ChangeShapes Go.WideShapes Go.ChangeAt Go.RowKit
namespace De
open Ba Re
def dec (s : ByteArray) (p : Int) : Int := bif okP p then (bif (rop s false).2.2 then 4 else bif chk (rop s false).1 p == 0 then 0 else 4) else 1
theorem results_row3 {fn : Func} {p u v : Tmp} {ty : TypeId} (h : fn.results = #[.cell p ty, .tmp u, .tmp v]) (tmps : Array Value) (w : World) (g : Nat) (cs : Array Value) (x y : Value)
 (hp : tmps.getD p undef = .pointer (some ⟨g, 0, none⟩)) (hx : tmps.getD u undef = x) (hy : tmps.getD v undef = y) (hl : (loadVar ty ⟨g, 0, none⟩).run Tryz.prog w = .ok (.agg cs) w) :
 (results fn tmps).run Tryz.prog w = .ok (.tuple #[.agg cs, x, y]) w := by
 subst hx hy
 have hp' : tmps[p]?.getD undef = .pointer (some ⟨g, 0, none⟩) := by simpa using hp
 simp [results, h, hp', asAddr, hl]
theorem CAt.five {w : World} {oa : Option Addr} {l : List Cs} {Z : Nat} {x y z : Int} {t : Bool} {ty : TypeId} (h : CAt w oa l) (hZ : w.heap[Z]? = some (.cells #[.int .i64 x, .int .i64 y, .int .i64 z, .slice none 0 0, .bool t] ty (0, 0))) (u0 u1 u2 u3 u4 : Value) : CAt (((((w.setCell ⟨Z, 0, none⟩ u0).setCell ⟨Z, 1, none⟩ u1).setCell ⟨Z, 2, none⟩ u2).setCell ⟨Z, 3, none⟩ u3).setCell ⟨Z, 4, none⟩ u4) oa l := by
 intro k c hk
 obtain ⟨b, off, he, h1, h2, h3⟩ := h k c hk
 have hb : b ≠ Z := by
  intro e
  subst e
  rw [cell_of hZ] at h1 h2
  generalize off + k * 3 = i at h1 h2
  match i with
  | 0 => simp at h1
  | 1 => simp at h1
  | 2 => simp at h1
  | 3 => simp at h1
  | 4 => simp at h2
  | i + 5 => simp at h1
 have e : ∀ i, (((((w.setCell ⟨Z, 0, none⟩ u0).setCell ⟨Z, 1, none⟩ u1).setCell ⟨Z, 2, none⟩ u2).setCell ⟨Z, 3, none⟩ u3).setCell ⟨Z, 4, none⟩ u4).cell? ⟨b, i, none⟩ = w.cell? ⟨b, i, none⟩ := fun i => by
  simp only [World.cell?]
  rw [five_other Z b hb]
 exact ⟨b, off, he, (e _).trans h1, (e _).trans h2, (e _).trans h3⟩
theorem rop_len (s : ByteArray) (f : Bool) : (rop s f).1.cases.length ≤ 4 := by
 unfold rop
 cases h : (rnum s f).1 == 6
 ·simp [h]
 ·have := rup_bd 4 (by decide) (rup 1 (rf (rnum s f).2.1 (rnum s f).2.2 (nf (rnum s f).1)).2.2.1 (rf (rnum s f).2.1 (rnum s f).2.2 (nf (rnum s f).1)).2.2.2).2.1 (rup 1 (rf (rnum s f).2.1 (rnum s f).2.2 (nf (rnum s f).1)).2.2.1 (rf (rnum s f).2.1 (rnum s f).2.2 (nf (rnum s f).1)).2.2.2).2.2
  simp only [h, cond_true, rcs_len]
  omega
end De
end Go.Proofs.YtkkgbeaaekmhfaaGreat
namespace Go.Proofs.YtkkgbeaaekmhfaaGreat
open Go.ChangeShapes Go.WideShapes Go.ChangeAt Go.RowKit
namespace De
open Ba Re
theorem hp60 : Tryz.prog.stoodInHeld 92 = false := by kernel_rfl
theorem hm60 : Tryz.prog.eqGuardType Tryz.prog.depth 92 = false := by kernel_rfl
theorem part0 (b : Bool) (c v : Int) (w : World) : (part 4 #[.bool b, .int .i64 c, .int .i64 v] 0).run Tryz.prog w = .ok (.bool b) w := by kernel_rfl
theorem part1 (b : Bool) (c v : Int) (w : World) : (part 3 #[.bool b, .int .i64 c, .int .i64 v] 1).run Tryz.prog w = .ok (.int .i64 c) w := by kernel_rfl
theorem part2 (b : Bool) (c v : Int) (w : World) : (part 3 #[.bool b, .int .i64 c, .int .i64 v] 2).run Tryz.prog w = .ok (.int .i64 v) w := by kernel_rfl
theorem neq_case (x y : Cs) (w : World) : (binOp .neq 92 (.agg #[.bool x.send, .int .i64 x.ch, .int .i64 x.val]) (.agg #[.bool y.send, .int .i64 y.ch, .int .i64 y.val])).run Tryz.prog w = .ok (.bool (!(x.send == y.send && (x.ch == y.ch && x.val == y.val)))) w := by
 have hu := Tryz.underlying92
 have hf : Tryz.prog.fieldsOf 92 = #[⟨ "Send", 4, 0, false, "", "", 0⟩, ⟨ "Chan", 3, 1, false, "", "", 8⟩, ⟨ "Value", 3, 2, false, "", "", 16⟩] := by unfold Program.fieldsOf; rw [hu]
 have ht : Tryz.prog.underlying 92 = some (.struct (Tryz.prog.fieldsOf 92)) := by rw [hf]; exact hu
 rw [run_neq_struct, run_equalIn_agg w 9999 92 _ _ ht hp60, hf]
 have e0 := fun w => run_equalIn_bool' (P := Tryz.prog) w 9998 4 x.send y.send Tryz.underlying4
 have e1 := fun w => run_equalIn_int (P := Tryz.prog) w 9998 3 .i64 .i64 x.ch y.ch Tryz.underlying3
 have e2 := fun w => run_equalIn_int (P := Tryz.prog) w 9998 3 .i64 .i64 x.val y.val Tryz.underlying3
 cases h1 : x.send == y.send
 ·simp [Op.eqFields, e0, h1, part0]
 ·cases h2 : x.ch == y.ch
  ·simp [Op.eqFields, e0, e1, h1, h2, part0, part1]
  ·simp [Op.eqFields, e0, e1, e2, h1, h2, part0, part1, part2]
   by_cases h3 : x.val = y.val <;> simp [h3]
theorem cs_eq (x y : Cs) : ((!(x.send == y.send && (x.ch == y.ch && x.val == y.val))) = false) ↔ x = y := by
 obtain ⟨s1, c1, v1⟩ := x
 obtain ⟨s2, c2, v2⟩ := y
 simp
end De
end Go.Proofs.YtkkgbeaaekmhfaaGreat
namespace Go.Proofs.YtkkgbeaaekmhfaaGreat
open Go.ChangeShapes Go.WideShapes Go.ChangeAt Go.RowKit
namespace De
open Ba Re
def o7 : OpD := ⟨3, 2, 7, [], false⟩
def s7 : ByteArray := ⟨#[3, 2, 7, 97]⟩
theorem nx {s : ByteArray} {L : List Nat} {n k : Nat} (h : nbs s = L) (ht : tk L = some (n, k)) : rnum s false = ((n : Int), s.extract k s.size, false) := rnum_s (by rw [h]; exact ht)
theorem nsfx {s : ByteArray} {L : List Nat} (h : nbs s = L) (k : Nat) : nbs (s.extract k s.size) = L.drop k := by
 rw [nbs_extract, ← nbs_length, List.take_length, h]
theorem rop7 : ∃ r, rop s7 false = (o7, r, false) ∧ r.toList = [97] := by
 have h0 : nbs s7 = [3, 2, 7, 97] := by decide
 have r0 := nx h0 (n := 3) (k := 1) (by decide)
 have h1 := nsfx h0 1
 have r1 := nx h1 (n := 2) (k := 1) (by decide)
 have h2 := nsfx h1 1
 have r2 := nx h2 (n := 7) (k := 1) (by decide)
 have h3 := nsfx h2 1
 generalize s7.extract 1 s7.size = S1 at *
 generalize S1.extract 1 S1.size = S2 at *
 generalize S2.extract 1 S2.size = S3 at *
 refine ⟨S3, ?_, ?_⟩
 ·unfold rop
  rw [r0]
  simp only [show nf ((3 : Nat) : Int) = 2 from rfl, rf, r1, r2]
  rfl
 ·have e : S3 = bs [97] := nbs_inj (by rw [h3, nbs_bs _ (by decide)]; decide)
  rw [e, toList_is]
  decide
end De
end Go.Proofs.YtkkgbeaaekmhfaaGreat
namespace Go.Proofs.YtkkgbeaaekmhfaaGreat
open Go.ChangeShapes Go.WideShapes Go.ChangeAt Go.RowKit
namespace De
open Ba Re
theorem cells_case : Tryz.prog.cellsOf 92 = 3 := by kernel_rfl
theorem cells_op : Tryz.prog.cellsOf 48 = 5 := by kernel_rfl
theorem cells_int : Tryz.prog.cellsOf 3 = 1 := by kernel_rfl
theorem cells_bool : Tryz.prog.cellsOf 4 = 1 := by kernel_rfl
theorem cells_cases : Tryz.prog.cellsOf 46 = 1 := by kernel_rfl
theorem fields3 : ∃ fs : Array Field, Tryz.prog.underlying 92 = some (.struct fs) ∧ fs.size = 3 ∧ (∃ f, fs[0]? = some f ∧ f.offset = 0 ∧ f.type = 4) ∧ (∃ f, fs[1]? = some f ∧ f.offset = 1 ∧ f.type = 3) ∧ (∃ f, fs[2]? = some f ∧ f.offset = 2 ∧ f.type = 3) :=
 ⟨_, Tryz.underlying92, rfl, ⟨_, rfl, rfl, rfl⟩, ⟨_, rfl, rfl, rfl⟩, ⟨_, rfl, rfl, rfl⟩⟩
theorem fields5 : ∃ fs : Array Field, Tryz.prog.underlying 48 = some (.struct fs) ∧ fs.size = 5 ∧ (∃ f, fs[0]? = some f ∧ f.offset = 0 ∧ f.type = 3) ∧ (∃ f, fs[1]? = some f ∧ f.offset = 1 ∧ f.type = 3) ∧ (∃ f, fs[2]? = some f ∧ f.offset = 2 ∧ f.type = 3) ∧ (∃ f, fs[3]? = some f ∧ f.offset = 3 ∧ f.type = 46) ∧ (∃ f, fs[4]? = some f ∧ f.offset = 4 ∧ f.type = 4) :=
 ⟨_, Tryz.underlying48, rfl, ⟨_, rfl, rfl, rfl⟩, ⟨_, rfl, rfl, rfl⟩, ⟨_, rfl, rfl, rfl⟩, ⟨_, rfl, rfl, rfl⟩, ⟨_, rfl, rfl, rfl⟩⟩
theorem one_of {cs : List Value} {j : Nat} {v : Value} (h : (cs.drop j).take 1 = [v]) : cs[j]? = some v := by
 have : ((cs.drop j).take 1)[0]? = some v := by rw [h]; rfl
 simpa using this
section
variable {H : Type} {enc : TypeId × Value → H} {w : World}
theorem case_open {n : Nat} {cs : List Value} {x : DataW H × List MemPlace} (h : DataW.trod enc Tryz.prog w 0 (fun _ => true) true n 92 cs = some x) : ∃ c : Cs, cs[0]? = some (.bool c.send) ∧ cs[1]? = some (.int .i64 c.ch) ∧ cs[2]? = some (.int .i64 c.val) := by
 obtain ⟨fs, hu, hsz, field3_0, field3_1, field3_2⟩ := fields3
 obtain ⟨xs, k, _, _, _, hxl, hff⟩ := DataW.trod_struct hu h
 rw [hsz] at hxl
 obtain ⟨f0, g0, o0, t0⟩ := field3_0
 have h0 := hff 0 f0 g0
 rw [o0, t0, cells_bool] at h0
 obtain ⟨f1, g1, o1, t1⟩ := field3_1
 have h1 := hff 1 f1 g1
 rw [o1, t1, cells_int] at h1
 obtain ⟨f2, g2, o2, t2⟩ := field3_2
 have h2 := hff 2 f2 g2
 rw [o2, t2, cells_int] at h2
 rw [List.getElem?_eq_getElem (by omega)] at h0 h1 h2
 obtain ⟨b, hb, _⟩ := DataW.trod_bool Tryz.underlying4 h0
 obtain ⟨c, hc, _⟩ := DataW.trod_int Tryz.underlying3 h1
 obtain ⟨v, hv, _⟩ := DataW.trod_int Tryz.underlying3 h2
 exact ⟨⟨b, c, v⟩, one_of hb, one_of hc, one_of hv⟩
theorem cases_open {n : Nat} {v : Value} {x : DataW H × List MemPlace} (h : DataW.trod enc Tryz.prog w 0 (fun _ => true) true n 46 [v] = some x) : ∃ (l : List Cs) (oa : Option Addr) (c : Nat), v = .slice oa l.length c ∧ CAt w oa l ∧ l.length ≤ maxLen := by
 rcases Go.Deep.open_slice Tryz.underlying46 h with ⟨hcs, _⟩ | ⟨a, len, cap, m, n', D, Pl, hcs, _, hl, hm, hmm, _, hel⟩
 ·simp at hcs
  subst hcs
  exact ⟨[], none, 0, rfl, CAt.nil _ _, Nat.zero_le _⟩
 ·simp at hcs
  subst hcs
  have hmc : m = cap := by simpa using hmm
  subst hmc
  have key : ∀ i, i < len → ∃ c : Cs, w.cell? ((a.add (i * 3)).add 0) = some (.bool c.send) ∧ w.cell? ((a.add (i * 3)).add 1) = some (.int .i64 c.ch) ∧ w.cell? ((a.add (i * 3)).add 2) = some (.int .i64 c.val) := by
   intro i hi
   obtain ⟨cs', h1, h2⟩ := hel i (by omega)
   rw [cells_case] at h1
   obtain ⟨_, _, hcell⟩ := World.cells?_some h1
   obtain ⟨c, q0, q1, q2⟩ := case_open h2
   exact ⟨c, (hcell 0 (by decide)).trans q0, (hcell 1 (by decide)).trans q1, (hcell 2 (by decide)).trans q2⟩
  have fam : ∃ f : Nat → Cs, ∀ i, i < len → w.cell? ((a.add (i * 3)).add 0) = some (.bool (f i).send) ∧ w.cell? ((a.add (i * 3)).add 1) = some (.int .i64 (f i).ch) ∧ w.cell? ((a.add (i * 3)).add 2) = some (.int .i64 (f i).val) := by
   refine ⟨fun i => if hi : i < len then Classical.choose (key i hi) else ⟨false, 0, 0⟩, fun i hi => ?_⟩
   simp only [dif_pos hi]
   exact Classical.choose_spec (key i hi)
  obtain ⟨f, hf⟩ := fam
  have hlen : ((List.range len).map f).length = len := by simp
  refine ⟨(List.range len).map f, some a, m, by rw [hlen], ?_, by rw [hlen]; omega⟩
  intro k c hk
  have hk2 : k < len := by
   have := (List.getElem?_eq_some_iff.1 hk).1
   simpa using this
  have hc : c = f k := by
   simp [hk2] at hk
   exact hk.symm
  subst hc
  have hspot : a.spot = none := by
   have := World.cell?_spot (hf 0 (by omega)).1
   simpa [Addr.add] using this
  obtain ⟨b, off, spot⟩ := a
  simp at hspot
  subst hspot
  obtain ⟨q0, q1, q2⟩ := hf k hk2
  rw [Addr.add_lit, Addr.add_lit] at q0 q1 q2
  exact ⟨b, off, rfl, q0, q1, q2⟩
set_option maxRecDepth 100000 in
theorem op_open {n : Nat} {v : Value} {x : DataW H × List MemPlace} (h : DataW.trod enc Tryz.prog w 0 (fun _ => true) true n 48 v.cells.toList = some x) : ∃ (o : OpD) (oa : Option Addr) (c : Nat), v = .agg #[.int .i64 o.kind, .int .i64 o.a, .int .i64 o.b, .slice oa o.cases.length c, .bool o.def_] ∧ CAt w oa o.cases ∧ o.cases.length ≤ maxLen := by
 obtain ⟨fs, hu, hsz, field5_0, field5_1, field5_2, field5_3, field5_4⟩ := fields5
 obtain ⟨xs, k, _, _, hcl, hxl, hff⟩ := DataW.trod_struct hu h
 rw [hsz] at hxl
 rw [cells_op] at hcl
 obtain ⟨f0, g0, o0, t0⟩ := field5_0
 have h0 := hff 0 f0 g0
 rw [o0, t0, cells_int] at h0
 obtain ⟨f1, g1, o1, t1⟩ := field5_1
 have h1 := hff 1 f1 g1
 rw [o1, t1, cells_int] at h1
 obtain ⟨f2, g2, o2, t2⟩ := field5_2
 have h2 := hff 2 f2 g2
 rw [o2, t2, cells_int] at h2
 obtain ⟨f3, g3, o3, t3⟩ := field5_3
 have h3 := hff 3 f3 g3
 rw [o3, t3, cells_cases] at h3
 obtain ⟨f4, g4, o4, t4⟩ := field5_4
 have h4 := hff 4 f4 g4
 rw [o4, t4, cells_bool] at h4
 rw [List.getElem?_eq_getElem (by omega)] at h0 h1 h2 h3 h4
 obtain ⟨i0, e0, _⟩ := DataW.trod_int Tryz.underlying3 h0
 obtain ⟨i1, e1, _⟩ := DataW.trod_int Tryz.underlying3 h1
 obtain ⟨i2, e2, _⟩ := DataW.trod_int Tryz.underlying3 h2
 obtain ⟨i4, e4, _⟩ := DataW.trod_bool Tryz.underlying4 h4
 have hz : ∃ z, (v.cells.toList.drop 3).take 1 = [z] := by
  have hl : ((v.cells.toList.drop 3).take 1).length = 1 := by simp at hcl ⊢; omega
  match hq : (v.cells.toList.drop 3).take 1, hl with
  | [z], _ => exact ⟨z, rfl⟩
 obtain ⟨z, e3⟩ := hz
 rw [e3] at h3
 obtain ⟨l, oa, c, rfl, hA, hm⟩ := cases_open h3
 refine ⟨⟨i0, i1, i2, l, i4⟩, oa, c, ?_, hA, hm⟩
 have hc : v.cells = #[.int .i64 i0, .int .i64 i1, .int .i64 i2, .slice oa l.length c, .bool i4] := by
  apply Array.toList_inj.1
  have q0 := one_of e0
  have q1 := one_of e1
  have q2 := one_of e2
  have q3 := one_of e3
  have q4 := one_of e4
  generalize v.cells.toList = L at *
  match L, hcl with
  | [y0, y1, y2, y3, y4], _ =>
    simp at q0 q1 q2 q3 q4
    simp [q0, q1, q2, q3, q4]
 cases v with
 | agg cs => rw [← hc]; rfl
 | _ => have := congrArg Array.size hc; simp [Value.cells] at this
end
end De
end Go.Proofs.YtkkgbeaaekmhfaaGreat
namespace Go.Proofs.YtkkgbeaaekmhfaaGreat
open Go.ChangeShapes Go.WideShapes Go.ChangeAt Go.RowKit
namespace De
open Ba Re
theorem foldl_dg (k n : Nat) : ∀ a, (dg k n).foldl (fun a b => 256 * a + b) a = a * 256 ^ k + n % 256 ^ k := by
 induction k with
 | zero => intro a; simp [dg, Nat.mod_one]
 | succ k ih =>
   intro a
   rw [show dg (k + 1) n = n / 256 ^ k % 256 :: dg k n from rfl, List.foldl_cons, ih, Nat.mod_pow_succ, Nat.pow_succ, Nat.add_mul]
   have e1 : 256 * a * 256 ^ k = a * (256 ^ k * 256) := by rw [Nat.mul_comm 256 a, Nat.mul_assoc, Nat.mul_comm 256]
   have e2 : n / 256 ^ k % 256 * 256 ^ k = 256 ^ k * (n / 256 ^ k % 256) := Nat.mul_comm _ _
   rw [e1, e2]
   omega
theorem vl_dg (k n : Nat) (h : n < 256 ^ k) : vl (dg k n) = n := by
 have := foldl_dg k n 0
 rw [Nat.zero_mul, Nat.zero_add, Nat.mod_eq_of_lt h] at this
 exact this
set_option maxRecDepth 100000 in
theorem nb_holds (n : Nat) (h : n ≤ 1099511627776) : n < 256 ^ nb n := by
 unfold nb
 by_cases h1 : n < 256
 ·rw [if_pos h1]; exact h1
 rw [if_neg h1]
 by_cases h2 : n < 65536
 ·rw [if_pos h2]; exact h2
 rw [if_neg h2]
 by_cases h3 : n < 16777216
 ·rw [if_pos h3]; exact h3
 rw [if_neg h3]
 by_cases h4 : n < 4294967296
 ·rw [if_pos h4]; exact h4
 rw [if_neg h4]
 by_cases h5 : n < 1099511627776
 ·rw [if_pos h5]; exact h5
 rw [if_neg h5]
 have : 256 ^ 6 = 281474976710656 := rfl
 omega
theorem tk_spl (n : Nat) (R : List Nat) (h : n ≤ 1099511627776) : tk (spl n ++ R) = some (n, (spl n).length) := by
 by_cases h1 : n < 240
 ·rw [spl_lo n h1]
  simp [tk, h1]
 ·have hz := szn_lo n h
  rw [spl_hi n (by omega)] at hz ⊢
  rw [List.length_cons, dg_length] at hz
  rw [List.length_cons, dg_length, List.cons_append]
  have h2 := nb_le n
  have h3 := nb_pos n
  have e : 240 + nb n - 240 = nb n := by omega
  have et : (dg (nb n) n ++ R).take (nb n) = dg (nb n) n := by
   rw [List.take_append_of_le_length (by rw [dg_length]; exact Nat.le_refl _), List.take_of_length_le (by rw [dg_length]; exact Nat.le_refl _)]
  have ev := vl_dg (nb n) n (nb_holds n h)
  simp only [tk]
  rw [if_neg (by omega), e, et, ev, if_pos ⟨h3, h2, by rw [List.length_append, dg_length]; omega, by omega⟩, Nat.add_comm]
theorem tk_put {L : List Nat} {n k : Nat} (hL : ∀ b ∈ L, b < 256) (h : tk L = some (n, k)) : spl n ++ L.drop k = L := by
 cases L with
 | nil => simp [tk] at h
 | cons b t =>
   simp only [tk] at h
   by_cases h1 : b < 240
   ·rw [if_pos h1] at h
    simp at h
    obtain ⟨rfl, rfl⟩ := h
    rw [spl_lo b h1]
    rfl
   ·rw [if_neg h1] at h
    split at h
    ·rename_i q
     simp only [Option.some.injEq, Prod.mk.injEq] at h
     obtain ⟨rfl, rfl⟩ := h
     have := ((fit_iff (t.take (b - 240)) (b - 240) q.1 (by simp; omega) (fun x hx => hL x (List.mem_cons_of_mem _ (List.mem_of_mem_take hx)))).1 q.2.2.2).2
     rw [this, show 240 + (b - 240) = b by omega, Nat.add_comm 1]
     simp
    ·simp at h
theorem tk_bound {L : List Nat} {n k : Nat} (h : tk L = some (n, k)) : n ≤ 1099511627776 := by
 cases L with
 | nil => simp [tk] at h
 | cons b t =>
   simp only [tk] at h
   split at h
   ·simp at h
    obtain ⟨rfl, _⟩ := h
    omega
   ·split at h
    ·rename_i q
     simp only [Option.some.injEq, Prod.mk.injEq] at h
     obtain ⟨rfl, _⟩ := h
     have := q.2.2.2
     by_cases e : vl (t.take (b - 240)) ≤ 1099511627776
     ·exact e
     ·rw [szn_hi _ e] at this; omega
    ·simp at h
theorem pls_cons (x : Int) (l : List Int) : pls (x :: l) = spl x.toNat ++ pls l := by simp [pls]
theorem pls_append (a b : List Int) : pls (a ++ b) = pls a ++ pls b := by simp [pls]
theorem pls_nil : pls [] = [] := rfl
theorem rn {s : ByteArray} {n : Int} {R : List Nat} (hn : okR n = true) (h : nbs s = spl n.toNat ++ R) : ∃ r, rnum s false = (n, r, false) ∧ nbs r = R := by
 obtain ⟨h0, h1⟩ := (okR_iff n).1 hn
 have ht := tk_spl n.toNat R (by omega)
 rw [← h] at ht
 refine ⟨_, ?_, nsfx h _ |>.trans (by rw [List.drop_left])⟩
 rw [rnum_s ht]
 simp only [Prod.mk.injEq, and_true]
 omega
theorem ru {s : ByteArray} {n m : Int} {R : List Nat} (hn : 0 ≤ n) (hm : n ≤ m) (hb : n ≤ 1000) (h : nbs s = spl n.toNat ++ R) : ∃ r, rup m s false = (n, r, false) ∧ nbs r = R := by
 obtain ⟨r, h1, h2⟩ := rn (by rw [okR_iff]; omega) h
 refine ⟨r, ?_, h2⟩
 have hd : decide (m < n) = false := by simp; omega
 simp only [rup, h1, hd, cond_false]
theorem bt_one (b : Bool) : (bt b == 1) = b := by cases b <;> decide
theorem rcs_enc (l : List Cs) (hl : ∀ x ∈ l, okC x = true) (s : ByteArray) (R : List Nat) (h : nbs s = pls (l.flatMap cn) ++ R) : ∀ j, j ≤ l.length → ∃ r, rcs s false j = (l.take j, r, false) ∧ nbs r = pls ((l.drop j).flatMap cn) ++ R := by
 intro j
 induction j with
 | zero => intro _; exact ⟨s, rfl, h⟩
 | succ j ih =>
   intro hj
   obtain ⟨r, h1, h2⟩ := ih (by omega)
   have hlt : j < l.length := by omega
   rw [List.drop_eq_getElem_cons hlt, List.flatMap_cons, pls_append, List.append_assoc] at h2
   have hok := okC_bd (hl l[j] (List.getElem_mem hlt))
   have hbt := bt_bd l[j].send
   have e : pls (cn l[j]) = spl (bt l[j].send).toNat ++ (spl (l[j].ch).toNat ++ spl (l[j].val).toNat) := by simp [pls, cn]
   rw [e, List.append_assoc, List.append_assoc] at h2
   obtain ⟨r1, q1, p1⟩ := ru (m := 1) hbt.1 hbt.2 (by omega) h2
   obtain ⟨r2, q2, p2⟩ := rn (by rw [okR_iff]; omega) p1
   obtain ⟨r3, q3, p3⟩ := rn (by rw [okR_iff]; omega) p2
   refine ⟨r3, ?_, p3⟩
   rw [rcs, h1]
   simp only [rc, q1, q2, q3, bt_one]
   rw [List.take_add_one, List.getElem?_eq_getElem hlt]
   rfl
theorem rop_enc {o : OpD} {p : Int} (hc : chk o p = 0) (s : ByteArray) (R : List Nat) (h : nbs s = pls (nums o) ++ R) : ∃ r, rop s false = (o, r, false) ∧ nbs r = R := by
 obtain ⟨hp, hk, hl, ha, hb, hd, hcs⟩ := chk_zero hc
 have hA := mA_le o.kind p hp.2
 have hB := mB_le o.kind
 obtain ⟨k, a, b, cs, d⟩ := o
 simp only at hk hl ha hb hd hcs hA hB
 unfold nums at h
 simp only at h
 rw [List.cons_append, pls_cons, List.append_assoc] at h
 obtain ⟨s1, q1, p1⟩ := rn (by rw [okR_iff]; omega) h
 unfold rop
 rw [q1]
 simp only
 rcases kind_cases hk.1 hk.2 with rfl | rfl | rfl | rfl | rfl | rfl | rfl | rfl | rfl
 case inr.inr.inr.inr.inr.inl =>
  have ea : a = 0 := by simp [mA] at ha; omega
  have eb : b = 0 := by simp [mB] at hb; omega
  subst ea eb
  have e : pls ([(0 : Int), 0].take (nf 6) ++ (bif (6 : Int) == 6 then bt d :: (cs.length : Int) :: cs.flatMap cn else [])) = spl (bt d).toNat ++ (spl (cs.length : Int).toNat ++ pls (cs.flatMap cn)) := by simp [nf, pls]
  rw [e, List.append_assoc, List.append_assoc] at p1
  have hbt := bt_bd d
  obtain ⟨s2, q2, p2⟩ := ru (m := 1) hbt.1 hbt.2 (by omega) p1
  obtain ⟨s3, q3, p3⟩ := ru (m := 4) (by omega) (by omega) (by omega) p2
  obtain ⟨s4, q4, p4⟩ := rcs_enc cs hcs s3 R p3 cs.length (Nat.le_refl _)
  refine ⟨s4, ?_, by rw [p4, List.drop_length]; rfl⟩
  simp only [show nf 6 = 0 from rfl, rf, q2, q3, Int.toNat_natCast, q4, List.take_length, bt_one]
  rfl
 case inl =>
  obtain ⟨rfl, rfl⟩ : d = false ∧ cs = [] := by
   rcases hd with hd | hd
   ·omega
   ·exact hd
  have eb : b = 0 := by simp [mB] at hb; omega
  subst eb
  have e : pls ([(a : Int), 0].take (nf 1) ++ (bif (1 : Int) == 6 then bt false :: (([] : List Cs).length : Int) :: ([] : List Cs).flatMap cn else [])) = spl a.toNat := by simp [nf, pls]
  rw [e] at p1
  obtain ⟨s2, q2, p2⟩ := rn (by rw [okR_iff]; omega) p1
  refine ⟨s2, ?_, p2⟩
  simp only [show nf 1 = 1 from rfl, rf, q2]
  rfl
 case inr.inl =>
  obtain ⟨rfl, rfl⟩ : d = false ∧ cs = [] := by
   rcases hd with hd | hd
   ·omega
   ·exact hd
  have e : pls ([(a : Int), b].take (nf 2) ++ (bif (2 : Int) == 6 then bt false :: (([] : List Cs).length : Int) :: ([] : List Cs).flatMap cn else [])) = spl a.toNat ++ spl b.toNat := by simp [nf, pls]
  rw [e, List.append_assoc] at p1
  obtain ⟨s2, q2, p2⟩ := rn (by rw [okR_iff]; omega) p1
  obtain ⟨s3, q3, p3⟩ := rn (by rw [okR_iff]; omega) p2
  refine ⟨s3, ?_, p3⟩
  simp only [show nf 2 = 2 from rfl, rf, q2, q3]
  rfl
 case inr.inr.inl =>
  obtain ⟨rfl, rfl⟩ : d = false ∧ cs = [] := by
   rcases hd with hd | hd
   ·omega
   ·exact hd
  have e : pls ([(a : Int), b].take (nf 3) ++ (bif (3 : Int) == 6 then bt false :: (([] : List Cs).length : Int) :: ([] : List Cs).flatMap cn else [])) = spl a.toNat ++ spl b.toNat := by simp [nf, pls]
  rw [e, List.append_assoc] at p1
  obtain ⟨s2, q2, p2⟩ := rn (by rw [okR_iff]; omega) p1
  obtain ⟨s3, q3, p3⟩ := rn (by rw [okR_iff]; omega) p2
  refine ⟨s3, ?_, p3⟩
  simp only [show nf 3 = 2 from rfl, rf, q2, q3]
  rfl
 case inr.inr.inr.inl =>
  obtain ⟨rfl, rfl⟩ : d = false ∧ cs = [] := by
   rcases hd with hd | hd
   ·omega
   ·exact hd
  have eb : b = 0 := by simp [mB] at hb; omega
  subst eb
  have e : pls ([(a : Int), 0].take (nf 4) ++ (bif (4 : Int) == 6 then bt false :: (([] : List Cs).length : Int) :: ([] : List Cs).flatMap cn else [])) = spl a.toNat := by simp [nf, pls]
  rw [e] at p1
  obtain ⟨s2, q2, p2⟩ := rn (by rw [okR_iff]; omega) p1
  refine ⟨s2, ?_, p2⟩
  simp only [show nf 4 = 1 from rfl, rf, q2]
  rfl
 case inr.inr.inr.inr.inl =>
  obtain ⟨rfl, rfl⟩ : d = false ∧ cs = [] := by
   rcases hd with hd | hd
   ·omega
   ·exact hd
  have eb : b = 0 := by simp [mB] at hb; omega
  subst eb
  have e : pls ([(a : Int), 0].take (nf 5) ++ (bif (5 : Int) == 6 then bt false :: (([] : List Cs).length : Int) :: ([] : List Cs).flatMap cn else [])) = spl a.toNat := by simp [nf, pls]
  rw [e] at p1
  obtain ⟨s2, q2, p2⟩ := rn (by rw [okR_iff]; omega) p1
  refine ⟨s2, ?_, p2⟩
  simp only [show nf 5 = 1 from rfl, rf, q2]
  rfl
 case inr.inr.inr.inr.inr.inr.inl =>
  obtain ⟨rfl, rfl⟩ : d = false ∧ cs = [] := by
   rcases hd with hd | hd
   ·omega
   ·exact hd
  have eb : b = 0 := by simp [mB] at hb; omega
  subst eb
  have e : pls ([(a : Int), 0].take (nf 7) ++ (bif (7 : Int) == 6 then bt false :: (([] : List Cs).length : Int) :: ([] : List Cs).flatMap cn else [])) = spl a.toNat := by simp [nf, pls]
  rw [e] at p1
  obtain ⟨s2, q2, p2⟩ := rn (by rw [okR_iff]; omega) p1
  refine ⟨s2, ?_, p2⟩
  simp only [show nf 7 = 1 from rfl, rf, q2]
  rfl
 case inr.inr.inr.inr.inr.inr.inr.inl =>
  obtain ⟨rfl, rfl⟩ : d = false ∧ cs = [] := by
   rcases hd with hd | hd
   ·omega
   ·exact hd
  have eb : b = 0 := by simp [mB] at hb; omega
  subst eb
  have e : pls ([(a : Int), 0].take (nf 8) ++ (bif (8 : Int) == 6 then bt false :: (([] : List Cs).length : Int) :: ([] : List Cs).flatMap cn else [])) = spl a.toNat := by simp [nf, pls]
  rw [e] at p1
  obtain ⟨s2, q2, p2⟩ := rn (by rw [okR_iff]; omega) p1
  refine ⟨s2, ?_, p2⟩
  simp only [show nf 8 = 1 from rfl, rf, q2]
  rfl
 case inr.inr.inr.inr.inr.inr.inr.inr =>
  obtain ⟨rfl, rfl⟩ : d = false ∧ cs = [] := by
   rcases hd with hd | hd
   ·omega
   ·exact hd
  have eb : b = 0 := by simp [mB] at hb; omega
  subst eb
  have ea : a = 0 := by simp [mA] at ha; omega
  subst ea
  have e : pls ([(0 : Int), 0].take (nf 9) ++ (bif (9 : Int) == 6 then bt false :: (([] : List Cs).length : Int) :: ([] : List Cs).flatMap cn else [])) = [] := by simp [nf, pls]
  rw [e] at p1
  exact ⟨s1, rfl, p1⟩
end De
end Go.Proofs.YtkkgbeaaekmhfaaGreat
namespace Go.Proofs.YtkkgbeaaekmhfaaGreat
open Go.ChangeShapes Go.WideShapes Go.ChangeAt Go.RowKit
namespace De
open Ba Re
theorem rn_inv {s r : ByteArray} {f : Bool} {n : Int} (h : rnum s f = (n, r, false)) : f = false ∧ 0 ≤ n ∧ nbs s = spl n.toNat ++ nbs r := by
 cases f
 ·cases ht : tk (nbs s) with
  | none => rw [rnum_n ht] at h; simp at h
  | some q =>
    obtain ⟨m, k⟩ := q
    rw [rnum_s ht] at h
    simp only [Prod.mk.injEq, and_true] at h
    obtain ⟨rfl, rfl⟩ := h
    refine ⟨rfl, Int.natCast_nonneg _, ?_⟩
    rw [nsfx rfl, Int.toNat_natCast]
    exact (tk_put (nbs_lt s) ht).symm
 ·rw [rnum_t] at h; simp at h
theorem ru_inv {m : Int} {s r : ByteArray} {f : Bool} {n : Int} (h : rup m s f = (n, r, false)) : f = false ∧ 0 ≤ n ∧ n ≤ m ∧ nbs s = spl n.toNat ++ nbs r := by
 unfold rup at h
 cases hd : decide (m < (rnum s f).1)
 ·rw [hd] at h
  simp only [cond_false] at h
  obtain ⟨h1, h2, h3⟩ := rn_inv h
  rw [h] at hd
  simp at hd
  exact ⟨h1, h2, hd, h3⟩
 ·rw [hd] at h
  simp at h
theorem bt_of (n : Int) (h0 : 0 ≤ n) (h1 : n ≤ 1) : bt (n == 1) = n := by
 have : n = 0 ∨ n = 1 := by omega
 rcases this with rfl | rfl <;> rfl
theorem rc_inv {s r : ByteArray} {f : Bool} {x : Cs} (h : rc s f = (x, r, false)) : f = false ∧ nbs s = pls (cn x) ++ nbs r := by
 unfold rc at h
 obtain ⟨b, s1, f1, e1⟩ : ∃ b s1 f1, rup 1 s f = (b, s1, f1) := ⟨_, _, _, rfl⟩
 rw [e1] at h
 simp only at h
 obtain ⟨c, s2, f2, e2⟩ : ∃ c s2 f2, rnum s1 f1 = (c, s2, f2) := ⟨_, _, _, rfl⟩
 rw [e2] at h
 simp only at h
 obtain ⟨v, s3, f3, e3⟩ : ∃ v s3 f3, rnum s2 f2 = (v, s3, f3) := ⟨_, _, _, rfl⟩
 rw [e3] at h
 simp only [Prod.mk.injEq] at h
 obtain ⟨rfl, rfl, rfl⟩ := h
 obtain ⟨rfl, _, q3⟩ := rn_inv e3
 obtain ⟨rfl, _, q2⟩ := rn_inv e2
 obtain ⟨rfl, p0, p1, q1⟩ := ru_inv e1
 refine ⟨rfl, ?_⟩
 rw [q1, q2, q3]
 simp [pls, cn, bt_of b p0 p1]
theorem rcs_inv {s : ByteArray} {f : Bool} : ∀ {j : Nat} {l : List Cs} {r : ByteArray}, rcs s f j = (l, r, false) → f = false ∧ nbs s = pls (l.flatMap cn) ++ nbs r
 | 0, l, r, h => by
   simp only [rcs, Prod.mk.injEq] at h
   obtain ⟨rfl, rfl, rfl⟩ := h
   exact ⟨rfl, rfl⟩
 | j + 1, l, r, h => by
   rw [rcs] at h
   obtain ⟨l0, s0, f0, e0⟩ : ∃ l0 s0 f0, rcs s f j = (l0, s0, f0) := ⟨_, _, _, rfl⟩
   rw [e0] at h
   simp only [Prod.mk.injEq] at h
   obtain ⟨h1, h2⟩ := h
   obtain ⟨rfl, q⟩ := rc_inv (s := s0) (f := f0) (x := (rc s0 f0).1) (r := r) (by rw [← h2])
   obtain ⟨rfl, q0⟩ := rcs_inv e0
   refine ⟨rfl, ?_⟩
   rw [q0, q, ← h1, List.flatMap_append, pls_append, List.append_assoc]
   simp
theorem rf_inv {s r : ByteArray} {f : Bool} {n : Nat} (hn : n ≤ 2) {a b : Int} (h : rf s f n = (a, b, r, false)) : f = false ∧ nbs s = pls ([a, b].take n) ++ nbs r := by
 match n, hn with
 | 0, _ =>
   simp only [rf, Prod.mk.injEq] at h
   obtain ⟨_, _, rfl, rfl⟩ := h
   exact ⟨rfl, rfl⟩
 | 1, _ =>
   simp only [rf, Prod.mk.injEq] at h
   obtain ⟨h1, _, h2, h3⟩ := h
   obtain ⟨rfl, _, q⟩ := rn_inv (s := s) (f := f) (n := a) (r := r) (by rw [← h1, ← h2, ← h3])
   refine ⟨rfl, ?_⟩
   rw [q]
   simp [pls]
 | 2, _ =>
   simp only [rf, Prod.mk.injEq] at h
   obtain ⟨h1, h2, h3, h4⟩ := h
   obtain ⟨x, s1, f1, e1⟩ : ∃ x s1 f1, rnum s f = (x, s1, f1) := ⟨_, _, _, rfl⟩
   rw [e1] at h1 h2 h3 h4
   simp only at h1 h2 h3 h4
   obtain ⟨rfl, _, q2⟩ := rn_inv (s := s1) (f := f1) (n := b) (r := r) (by rw [← h2, ← h3, ← h4])
   obtain ⟨rfl, _, q1⟩ := rn_inv e1
   refine ⟨rfl, ?_⟩
   rw [q1, q2, ← h1]
   simp [pls]
theorem rop_inv {s r : ByteArray} {o : OpD} (h : rop s false = (o, r, false)) : nbs s = pls (nums o) ++ nbs r := by
 unfold rop at h
 obtain ⟨k, s1, f1, e1⟩ : ∃ k s1 f1, rnum s false = (k, s1, f1) := ⟨_, _, _, rfl⟩
 rw [e1] at h
 simp only at h
 obtain ⟨a, b, s2, f2, e2⟩ : ∃ a b s2 f2, rf s1 f1 (nf k) = (a, b, s2, f2) := ⟨_, _, _, _, rfl⟩
 rw [e2] at h
 simp only at h
 cases h6 : k == 6
 ·rw [h6] at h
  simp only [cond_false, Prod.mk.injEq] at h
  obtain ⟨rfl, rfl, rfl⟩ := h
  obtain ⟨rfl, q2⟩ := rf_inv (nf_le k) e2
  obtain ⟨_, _, q1⟩ := rn_inv e1
  rw [q1, q2]
  simp [nums, h6, pls]
 ·rw [h6] at h
  obtain rfl : k = 6 := by simpa using h6
  simp only [cond_true] at h
  obtain ⟨dn, s3, f3, e3⟩ : ∃ dn s3 f3, rup 1 s2 f2 = (dn, s3, f3) := ⟨_, _, _, rfl⟩
  rw [e3] at h
  simp only at h
  obtain ⟨n, s4, f4, e4⟩ : ∃ n s4 f4, rup 4 s3 f3 = (n, s4, f4) := ⟨_, _, _, rfl⟩
  rw [e4] at h
  simp only at h
  obtain ⟨l, s5, f5, e5⟩ : ∃ l s5 f5, rcs s4 f4 n.toNat = (l, s5, f5) := ⟨_, _, _, rfl⟩
  rw [e5] at h
  simp only [Prod.mk.injEq] at h
  obtain ⟨rfl, rfl, rfl⟩ := h
  have hl := rcs_len s4 f4 n.toNat
  rw [e5] at hl
  simp only at hl
  obtain ⟨rfl, q5⟩ := rcs_inv e5
  obtain ⟨rfl, n0, _, q4⟩ := ru_inv e4
  obtain ⟨rfl, d0, d1, q3⟩ := ru_inv e3
  obtain ⟨rfl, q2⟩ := rf_inv (nf_le 6) e2
  obtain ⟨_, _, q1⟩ := rn_inv e1
  rw [q1, q2, q3, q4, q5]
  have en : (l.length : Int) = n := by omega
  simp [nums, pls, nf, bt_of dn d0 d1, en]
end De
end Go.Proofs.YtkkgbeaaekmhfaaGreat
namespace Go.Proofs.YtkkgbeaaekmhfaaGreat
open Go.ChangeShapes Go.WideShapes Go.ChangeAt Go.RowKit
namespace Re
open Ba
def pls (l : List Int) : List Nat := l.flatMap fun n => spl n.toNat
def plist (l : List Int) : List Nat := spl l.length ++ pls l
theorem pls_take (l : List Int) (k : Nat) (h : k < l.length) : pls (l.take (k + 1)) = pls (l.take k) ++ spl (nth l k).toNat := by
 rw [pls, List.take_add_one, List.getElem?_eq_getElem h, nth_lt l k h, List.flatMap_append]
 show _ ++ (spl _ ++ []) = _
 rw [List.append_nil]
 rfl
theorem pls_len (l : List Int) : (pls l).length ≤ 7 * l.length := by
 induction l with
 | nil => simp [pls]
 | cons n l ih =>
   have := (spl_len n.toNat).2
   simp [pls] at ih ⊢
   omega
def ppre (l : List Int) (k : Nat) : List Nat := spl l.length ++ pls (l.take k)
theorem ppre_len (l : List Int) (k : Nat) (h : k ≤ l.length) : 1 ≤ (ppre l k).length ∧ (ppre l k).length ≤ 7 + 7 * k := by
 have h1 := spl_len l.length
 have h2 := pls_len (l.take k)
 simp [ppre] at h2 ⊢
 omega
theorem ppre_succ (l : List Int) (k : Nat) (h : k < l.length) : ppre l (k + 1) = ppre l k ++ spl (nth l k).toNat := by
 rw [ppre, pls_take l k h, ppre, List.append_assoc]
theorem ppre_all (l : List Int) : ppre l l.length = plist l := by rw [ppre, List.take_length, plist]
theorem all_ok {l : List Int} (h : ∀ j, j < l.length → okR (nth l j) = true) : l.all okR = true := by
 rw [List.all_eq_true]
 intro x hx
 obtain ⟨j, hj, rfl⟩ := List.getElem_of_mem hx
 have := h j hj
 rwa [nth_lt l j hj] at this
theorem all_not {l : List Int} (j : Nat) (hj : j < l.length) (h : okR (nth l j) = false) : l.all okR = false := by
 rw [List.all_eq_false]
 exact ⟨l[j], List.getElem_mem hj, by rw [nth_lt l j hj] at h; simp [h]⟩
theorem info_byte : (Tryz.prog.info? 5).map (fun i => (i.zero, i.size, i.bytes)) = some (some (.int .u8 0), 1, 1) := by kernel_rfl
def bv (L : List Nat) : List Value := L.map fun b => .int .u8 ((UInt8.ofNat b).toNat : Int)
theorem bv_length (L : List Nat) : (bv L).length = L.length := by simp [bv]
theorem bv_append (K L : List Nat) : bv (K ++ L) = bv K ++ bv L := by simp [bv]
theorem bv_one (L : List Nat) : ∀ u ∈ bv L, u.oneCell' = true := by
 intro u hu
 simp only [bv, List.mem_map] at hu
 obtain ⟨_, _, rfl⟩ := hu
 rfl
theorem room_src {w : World} {b a : Nat} {L : List Nat} {t : TypeId} (h : w.heap[b]? = some (.cells (rm L) t (0, 0))) (ha : a + L.length = 7) (hL : ∀ b ∈ L, b < 256) : ∀ j u, (bv L)[j]? = some u → w.cell? (Addr.add ⟨b, a, none⟩ j) = some u := by
 intro j u hj
 have hl : j < L.length := by
  have := (List.getElem?_eq_some_iff.1 hj).1
  rwa [bv_length] at this
 rw [Addr.add_lit, cell_of h, rm_from L a j ha hl hL, ← hj]
 simp [bv, hl]
end Re
end Go.Proofs.YtkkgbeaaekmhfaaGreat
namespace Go.Proofs.YtkkgbeaaekmhfaaGreat
open Go.ChangeShapes Go.WideShapes Go.ChangeAt Go.RowKit
namespace Re
open Ba
theorem okR_no {n : Nat} (h : ¬ n ≤ 1099511627776) : okR (n : Int) = false := by
 have : ¬ (okR (n : Int) = true) := by rw [okR_iff]; omega
 simpa using this
end Re
end Go.Proofs.YtkkgbeaaekmhfaaGreat
namespace Go.Proofs.YtkkgbeaaekmhfaaGreat
open Go.ChangeShapes Go.WideShapes Go.ChangeAt Go.RowKit
namespace Re
open Ba
theorem tk_le {L : List Nat} {n k : Nat} (h : tk L = some (n, k)) : 1 ≤ k ∧ k ≤ L.length := by
 cases L with
 | nil => simp [tk] at h
 | cons b t =>
   simp only [tk] at h
   split at h
   ·simp at h
    obtain ⟨_, rfl⟩ := h
    simp
   ·split at h
    ·rename_i q
     simp at h
     obtain ⟨_, rfl⟩ := h
     simp
     omega
    ·simp at h
theorem tk_bound {L : List Nat} {n k : Nat} (h : tk L = some (n, k)) : n ≤ 1099511627776 := by
 cases L with
 | nil => simp [tk] at h
 | cons b t =>
   simp only [tk] at h
   split at h
   ·simp at h
    obtain ⟨rfl, _⟩ := h
    omega
   ·split at h
    ·rename_i q
     simp only [Option.some.injEq, Prod.mk.injEq] at h
     obtain ⟨rfl, _⟩ := h
     have := q.2.2.2
     by_cases e : vl (t.take (b - 240)) ≤ 1099511627776
     ·exact e
     ·rw [szn_hi _ e] at this; omega
    ·simp at h
def tst (L : List Nat) : Nat → Option (List Int × Nat)
 | 0 => some ([], 0)
 | i + 1 => match tst L i with
   | none => none
   | some (xs, o) => match tk (L.drop o) with
     | none => none
     | some (x, k) => some (xs ++ [(x : Int)], o + k)
theorem tst_some {L : List Nat} : ∀ {i : Nat} {xs : List Int} {o : Nat}, tst L i = some (xs, o) → xs.length = i ∧ i ≤ o ∧ o ≤ L.length
 | 0, xs, o, h => by
   simp [tst] at h
   obtain ⟨rfl, rfl⟩ := h
   simp
 | i + 1, xs, o, h => by
   rw [tst] at h
   cases hi : tst L i with
   | none => rw [hi] at h; simp at h
   | some p =>
     obtain ⟨ys, q⟩ := p
     rw [hi] at h
     have ih := tst_some hi
     simp only at h
     cases ht : tk (L.drop q) with
     | none => rw [ht] at h; simp at h
     | some z =>
       obtain ⟨x, k⟩ := z
       rw [ht] at h
       simp at h
       obtain ⟨rfl, rfl⟩ := h
       have := tk_le ht
       simp at this ⊢
       omega
theorem tst_next {L : List Nat} {i o x k : Nat} {xs : List Int} (h : tst L i = some (xs, o)) (ht : tk (L.drop o) = some (x, k)) : tst L (i + 1) = some (xs ++ [(x : Int)], o + k) := by
 rw [tst, h]; simp only [ht]
theorem tst_stop {L : List Nat} {i o : Nat} {xs : List Int} (h : tst L i = some (xs, o)) (ht : tk (L.drop o) = none) : ∀ n, i < n → tst L n = none := by
 intro n
 induction n with
 | zero => intro q; omega
 | succ n ih =>
   intro q
   by_cases e : i = n
   ·subst e
    rw [tst, h]; simp only [ht]
   ·rw [tst, ih (by omega)]
theorem run_mk (w : World) (n : Nat) (hn : n ≤ 5000000) : (Instr.makeSlice 23 (.int .i64 (n : Int)) (.int .i64 (n : Int))).run Tryz.prog w = .ok (.slice (some ⟨w.heap.size, 0, none⟩) n n) (w.alloc (.cells (madeCells #[.int .i64 0] n) 3)) := by
 obtain ⟨i0, hi, hz0, hz1, hz2⟩ := info_parts info_int
 have := run_make (P := Tryz.prog) w 23 3 i0 (.int .i64 0) Tryz.underlying23 hi hz0 .i64 .i64 n n (by omega) (Int.le_refl _) (by rw [hz2]; omega) (by omega)
 rw [hz1] at this
 simpa [Value.cells] using this
def fillc (xs : List Int) (n : Nat) : Array Value := (xs.map (Value.int .i64) ++ List.replicate (n - xs.length) (Value.int .i64 0)).toArray
theorem fillc_nil (n : Nat) : madeCells #[Value.int .i64 0] n = fillc [] n := by
 apply Array.toList_inj.1
 rw [toList_madeCells_one]
 simp [fillc]
theorem fillc_set (xs : List Int) (n : Nat) (x : Int) (h : xs.length < n) : (fillc xs n).setIfInBounds xs.length (.int .i64 x) = fillc (xs ++ [x]) n := by
 apply Array.toList_inj.1
 obtain ⟨q, hq⟩ : ∃ q, n - xs.length = q + 1 := ⟨n - xs.length - 1, by omega⟩
 have e : n - (xs ++ [x]).length = q := by simp; omega
 simp only [fillc, hq, e, List.replicate_succ, Array.toList_setIfInBounds, List.map_append]
 simp
theorem fillc_at (xs : List Int) (n k : Nat) (h : k < n) : ∃ x : Int, (fillc xs n)[k]? = some (.int .i64 x) := by
 by_cases hk : k < xs.length
 ·exact ⟨xs[k], by simp [fillc, List.getElem?_append, hk]⟩
 ·refine ⟨0, ?_⟩
  have h2 : k - xs.length < n - xs.length := by omega
  simp only [fillc, List.getElem?_toArray]
  rw [List.getElem?_append_right (by simp; omega), List.length_map, List.getElem?_replicate, if_pos h2]
theorem fillc_row (xs : List Int) (n : Nat) (h : xs.length = n) : fillc xs n = row xs := by simp [fillc, row, h]
theorem At.of {w : World} {b : Nat} {xs : List Int} {t : TypeId} {fr : Nat × Nat} (h : w.heap[b]? = some (.cells (row xs) t fr)) : At w (some ⟨b, 0, none⟩) xs := by
 intro k hk
 refine ⟨b, 0, rfl, ?_⟩
 rw [Nat.zero_add, cell_of h, row_at xs k hk]
def tl (L : List Nat) (most : Int) : Except Int (List Int × Nat) :=
 match tk L with
 | none => .error 4
 | some (n, k) => if most < (n : Int) then .error 2 else match tst (L.drop k) n with
   | none => .error 4
   | some (xs, o) => .ok (xs, k + o)
theorem nbs_sfx (s : ByteArray) (a : Nat) : nbs (s.extract a s.size) = (nbs s).drop a := by
 rw [nbs_extract, ← nbs_length, List.take_length]
theorem sfx_sfx (s : ByteArray) (a b : Nat) : (s.extract a s.size).extract b (s.extract a s.size).size = s.extract (a + b) s.size := by
 apply nbs_inj
 rw [nbs_sfx, nbs_sfx, nbs_sfx, List.drop_drop]
theorem tl_size {L : List Nat} {most : Int} {xs : List Int} {z : Nat} (h : tl L most = .ok (xs, z)) : xs.length < z ∧ z ≤ L.length := by
 unfold tl at h
 cases ht : tk L with
 | none => rw [ht] at h; simp at h
 | some p =>
   obtain ⟨n, k⟩ := p
   rw [ht] at h
   simp only at h
   by_cases hm : most < (n : Int)
   ·rw [if_pos hm] at h; simp at h
   ·rw [if_neg hm] at h
    cases hq : tst (L.drop k) n with
    | none => rw [hq] at h; simp at h
    | some p =>
      obtain ⟨ys, o⟩ := p
      rw [hq] at h
      simp at h
      obtain ⟨rfl, rfl⟩ := h
      have hl := tst_some hq
      have hk := tk_le ht
      rw [List.length_drop] at hl
      omega
end Re
end Go.Proofs.YtkkgbeaaekmhfaaGreat
namespace Go.Proofs.YtkkgbeaaekmhfaaGreat
open Go.ChangeShapes Go.WideShapes Go.ChangeAt Go.RowKit
namespace Re
open Ba
theorem owns_setCell {w : World} {base : Nat} {e : TypeId} {size : Nat} {v : Value} {n : Nat} {xs : List Value} (h : w.ownsRow base e size v n xs) (b i : Nat) (hb : b < base) (u : Value) : (w.setCell ⟨b, i, none⟩ u).ownsRow base e size v n xs := by
 refine ⟨h.1, ?_⟩
 rcases h.2 with q | ⟨g, cap, cur, q1, q2, q3, q4⟩
 ·exact .inl q
 ·exact .inr ⟨g, cap, cur, q1, q2, (Below.heap_setCell _ _ _ _ (by show g ≠ b; omega)).trans q3, q4⟩
theorem heap_lt {w : World} {b : Nat} {o : Obj} (h : w.heap[b]? = some o) : b < w.heap.size := by
 rcases Nat.lt_or_ge b w.heap.size with q | q
 ·exact q
 ·rw [Array.getElem?_eq_none q] at h; cases h
end Re
end Go.Proofs.YtkkgbeaaekmhfaaGreat
namespace Go.Proofs.YtkkgbeaaekmhfaaGreat
open Go.ChangeShapes Go.WideShapes Go.ChangeAt Go.RowKit
namespace Re
open Ba
theorem foldl_dg (k n : Nat) : ∀ a, (dg k n).foldl (fun a b => 256 * a + b) a = a * 256 ^ k + n % 256 ^ k := by
 induction k with
 | zero => intro a; simp [dg, Nat.mod_one]
 | succ k ih =>
   intro a
   rw [show dg (k + 1) n = n / 256 ^ k % 256 :: dg k n from rfl, List.foldl_cons, ih, Nat.mod_pow_succ, Nat.pow_succ, Nat.add_mul]
   have e1 : 256 * a * 256 ^ k = a * (256 ^ k * 256) := by rw [Nat.mul_comm 256 a, Nat.mul_assoc, Nat.mul_comm 256]
   have e2 : n / 256 ^ k % 256 * 256 ^ k = 256 ^ k * (n / 256 ^ k % 256) := Nat.mul_comm _ _
   rw [e1, e2]
   omega
theorem vl_dg (k n : Nat) (h : n < 256 ^ k) : vl (dg k n) = n := by
 have := foldl_dg k n 0
 rw [Nat.zero_mul, Nat.zero_add, Nat.mod_eq_of_lt h] at this
 exact this
set_option maxRecDepth 100000 in
theorem nb_holds (n : Nat) (h : n ≤ 1099511627776) : n < 256 ^ nb n := by
 unfold nb
 by_cases h1 : n < 256
 ·rw [if_pos h1]; exact h1
 rw [if_neg h1]
 by_cases h2 : n < 65536
 ·rw [if_pos h2]; exact h2
 rw [if_neg h2]
 by_cases h3 : n < 16777216
 ·rw [if_pos h3]; exact h3
 rw [if_neg h3]
 by_cases h4 : n < 4294967296
 ·rw [if_pos h4]; exact h4
 rw [if_neg h4]
 by_cases h5 : n < 1099511627776
 ·rw [if_pos h5]; exact h5
 rw [if_neg h5]
 have : 256 ^ 6 = 281474976710656 := rfl
 omega
theorem tk_spl (n : Nat) (R : List Nat) (h : n ≤ 1099511627776) : tk (spl n ++ R) = some (n, (spl n).length) := by
 by_cases h1 : n < 240
 ·rw [spl_lo n h1]
  simp [tk, h1]
 ·have hz := szn_lo n h
  rw [spl_hi n (by omega)] at hz ⊢
  rw [List.length_cons, dg_length] at hz
  rw [List.length_cons, dg_length, List.cons_append]
  have h2 := nb_le n
  have h3 := nb_pos n
  have e : 240 + nb n - 240 = nb n := by omega
  have et : (dg (nb n) n ++ R).take (nb n) = dg (nb n) n := by
   rw [List.take_append_of_le_length (by rw [dg_length]; exact Nat.le_refl _), List.take_of_length_le (by rw [dg_length]; exact Nat.le_refl _)]
  have ev := vl_dg (nb n) n (nb_holds n h)
  simp only [tk]
  rw [if_neg (by omega), e, et, ev, if_pos ⟨h3, h2, by rw [List.length_append, dg_length]; omega, by omega⟩, Nat.add_comm]
theorem pls_append (a b : List Int) : pls (a ++ b) = pls a ++ pls b := by simp [pls]
theorem pls_cons (x : Int) (l : List Int) : pls (x :: l) = spl x.toNat ++ pls l := by simp [pls]
theorem tst_pls (l : List Int) (R : List Nat) (h : ∀ x ∈ l, okR x = true) : ∀ i, i ≤ l.length → tst (pls l ++ R) i = some (l.take i, (pls (l.take i)).length) := by
 intro i
 induction i with
 | zero => intro _; simp [tst, pls]
 | succ i ih =>
   intro hi
   have hi' : i < l.length := by omega
   have h0 := ih (by omega)
   have hx := (okR_iff _).1 (h l[i] (List.getElem_mem hi'))
   have ed : (pls l ++ R).drop (pls (l.take i)).length = spl (l[i]).toNat ++ (pls (l.drop (i + 1)) ++ R) := by
    have e1 : pls l = pls (l.take i) ++ pls (l.drop i) := by rw [← pls_append, List.take_append_drop]
    rw [e1, List.append_assoc, List.drop_left]
    rw [List.drop_eq_getElem_cons hi', pls_cons, List.append_assoc]
   have ht := tk_spl (l[i]).toNat (pls (l.drop (i + 1)) ++ R) (by omega)
   rw [← ed] at ht
   have := tst_next h0 ht
   rw [this, pls_take l i hi', List.length_append, nth_lt l i hi']
   have e2 : l.take i ++ [((l[i]).toNat : Int)] = l.take (i + 1) := by
    rw [show ((l[i]).toNat : Int) = l[i] by omega, List.take_append_getElem]
   rw [e2]
theorem tl_plist (l : List Int) (R : List Nat) (hl : l.length ≤ 2000) (h : l.all okR = true) : tl (plist l ++ R) (l.length : Int) = .ok (l, (plist l).length) := by
 have h' : ∀ x ∈ l, okR x = true := List.all_eq_true.1 h
 have h1 := tk_spl l.length (pls l ++ R) (by omega)
 rw [← List.append_assoc] at h1
 have h2 := tst_pls l R h' l.length (Nat.le_refl _)
 rw [List.take_length] at h2
 unfold tl
 rw [show plist l = spl l.length ++ pls l from rfl, h1]
 simp only
 rw [if_neg (by omega), List.append_assoc, List.drop_left, h2]
 simp
theorem tk_put {L : List Nat} {n k : Nat} (hL : ∀ b ∈ L, b < 256) (h : tk L = some (n, k)) : spl n ++ L.drop k = L := by
 cases L with
 | nil => simp [tk] at h
 | cons b t =>
   simp only [tk] at h
   by_cases h1 : b < 240
   ·rw [if_pos h1] at h
    simp at h
    obtain ⟨rfl, rfl⟩ := h
    rw [spl_lo b h1]
    rfl
   ·rw [if_neg h1] at h
    split at h
    ·rename_i q
     simp only [Option.some.injEq, Prod.mk.injEq] at h
     obtain ⟨rfl, rfl⟩ := h
     have := ((fit_iff (t.take (b - 240)) (b - 240) q.1 (by simp; omega) (fun x hx => hL x (List.mem_cons_of_mem _ (List.mem_of_mem_take hx)))).1 q.2.2.2).2
     rw [this, show 240 + (b - 240) = b by omega, Nat.add_comm 1]
     simp
    ·simp at h
end Re
end Go.Proofs.YtkkgbeaaekmhfaaGreat
namespace Go.Proofs.YtkkgbeaaekmhfaaGreat
open Go.ChangeShapes Go.WideShapes Go.ChangeAt Go.RowKit
namespace Sh
open De Ba Re
def OAt (w : World) (oa : Option Addr) (l : List OpD) : Prop :=
 ∀ k o, l[k]? = some o → ∃ b off ca cc, oa = some ⟨b, off, none⟩ ∧ (w.cell? ⟨b, off + k * 5, none⟩ = some (.int .i64 o.kind) ∧ w.cell? ⟨b, off + k * 5 + 1, none⟩ = some (.int .i64 o.a) ∧ w.cell? ⟨b, off + k * 5 + 2, none⟩ = some (.int .i64 o.b) ∧ w.cell? ⟨b, off + k * 5 + 3, none⟩ = some (.slice ca o.cases.length cc) ∧ w.cell? ⟨b, off + k * 5 + 4, none⟩ = some (.bool o.def_)) ∧ CAt w ca o.cases ∧ o.cases.length ≤ maxLen
theorem cellB {w w' : World} {a : Addr} {v : Value} (h : w.cell? a = some v) (hb : Below w.heap.size w w') : w'.cell? a = some v := (hb.cell (World.block_lt_of_cell? w _ h)).trans h
theorem OAt.below {w w' : World} {oa : Option Addr} {l : List OpD} (h : OAt w oa l) (hb : Below w.heap.size w w') : OAt w' oa l := by
 intro k o hk
 obtain ⟨b, off, ca, cc, he, ⟨h0, h1, h2, h3, h4⟩, hc, hm⟩ := h k o hk
 exact ⟨b, off, ca, cc, he, ⟨cellB h0 hb, cellB h1 hb, cellB h2 hb, cellB h3 hb, cellB h4 hb⟩, hc.below hb, hm⟩
theorem OAt.nil (w : World) (oa : Option Addr) : OAt w oa [] := fun _ _ hk => by simp at hk
def PAt (w : World) (oa : Option Addr) (l : List (List OpD)) : Prop :=
 ∀ k p, l[k]? = some p → ∃ b off pa pc, oa = some ⟨b, off, none⟩ ∧ w.cell? ⟨b, off + k, none⟩ = some (.slice pa p.length pc) ∧ OAt w pa p ∧ p.length ≤ maxLen
theorem PAt.below {w w' : World} {oa : Option Addr} {l : List (List OpD)} (h : PAt w oa l) (hb : Below w.heap.size w w') : PAt w' oa l := by
 intro k p hk
 obtain ⟨b, off, pa, pc, he, h0, h1, h2⟩ := h k p hk
 exact ⟨b, off, pa, pc, he, cellB h0 hb, h1.below hb, h2⟩
theorem PAt.nil (w : World) (oa : Option Addr) : PAt w oa [] := fun _ _ hk => by simp at hk
theorem between_any (n lo hi : Int) (w : World) :
 Calls Tryz.prog 46 #[.int .i64 n, .int .i64 lo, .int .i64 hi] w fun r w' => r = .returned (.bool (decide (lo ≤ n) && decide (n ≤ hi))) ∧ w' = w := by
 cases h : decide (lo ≤ n)
 ·go_enter Tryz.func46, Tryz.ntmps46
  go_wp2_with fail
  go_ret
  exact ⟨rfl, rfl⟩
 ·go_enter Tryz.func46, Tryz.ntmps46
  go_wp2_with fail
  go_ret
  exact ⟨rfl, rfl⟩
def ab (lo hi : Int) (l : List Int) : Bool := l.all fun x => decide (lo ≤ x) && decide (x ≤ hi)
theorem ab_iff (lo hi : Int) (l : List Int) : ab lo hi l = true ↔ ∀ x ∈ l, lo ≤ x ∧ x ≤ hi := by
 simp [ab]
theorem ab_nth {lo hi : Int} {l : List Int} : ab lo hi l = true ↔ ∀ k, k < l.length → lo ≤ nth l k ∧ nth l k ≤ hi := by
 rw [ab_iff]
 constructor
 ·intro h k hk
  rw [nth_lt l k hk]
  exact h _ (List.getElem_mem hk)
 ·intro h x hx
  obtain ⟨k, hk, rfl⟩ := List.mem_iff_getElem.1 hx
  rw [← nth_lt l k hk]
  exact h k hk
set_option maxHeartbeats 1600000 in
theorem all_any (oa : Option Addr) (l : List Int) (c : Nat) (lo hi : Int) (w : World) (hA : At w oa l) (hl : l.length ≤ maxLen) :
 Calls Tryz.prog 49 #[.slice oa l.length c, .int .i64 lo, .int .i64 hi] w fun r w' => r = .returned (.bool (ab lo hi l)) ∧ w' = w := by
 have HA := hide hA
 clear hA
 unfold maxLen at hl
 go_enter Tryz.func49, Tryz.ntmps49
 go_wp2_with fail
 go_loop [11] (fun i => ∃ k : Nat, k ≤ l.length ∧ i = .int .i64 k ∧ ∀ j, j < k → lo ≤ nth l j ∧ nth l j ≤ hi) (fun i => l.length - (intOf i).toNat)
 case atStart => exact ⟨0, Nat.zero_le _, rfl, fun j hj => absurd hj (Nat.not_lt_zero _)⟩
 case round =>
  obtain ⟨k, hk, rfl, hall⟩ := hrel
  have HE := hide hall
  clear hall
  by_cases hlt : k < l.length
  ·obtain ⟨b1, o1, rfl, hc1⟩ := HA.out k hlt
   have hlt' : (k : Int) < (l.length : Int) := by omega
   cases h1 : (decide (lo ≤ nth l k) && decide (nth l k ≤ hi))
   ·have HX : Hid (ab lo hi l = false) := by
     show _ = _
     simp at h1
     rw [← Bool.not_eq_true]
     intro e
     have := ab_nth.1 e k hlt
     omega
    go_wp2_with fail
    refine (between_any _ _ _ _).mono ?_
    rw [h1]
    rintro r w1 ⟨rfl, rfl⟩
    go_wp2_with fail
    go_ret
    exact ⟨ret_bool HX.out.symm, rfl⟩
   ·have HX : Hid (lo ≤ nth l k ∧ nth l k ≤ hi) := by show _ ∧ _; simpa using h1
    go_wp2_with fail
    refine (between_any _ _ _ _).mono ?_
    rw [h1]
    rintro r w1 ⟨rfl, rfl⟩
    go_wp2_with fail
    go_round
    case rel => exact ⟨k + 1, by omega, by go_num, fun j hj => by
     by_cases e : j = k
     ·subst e; exact HX.out
     ·exact HE.out j (by omega)⟩
    case measure => simp [intOf]; omega
  ·have HX : Hid (ab lo hi l = true) := ab_nth.2 fun j hj => HE.out j (by omega)
   go_wp2_with fail
   go_ret
   exact ⟨ret_bool HX.out.symm, rfl⟩
theorem sc_cells {w : World} {B : Nat} {v0 v1 v2 v3 v4 : Value} {t : TypeId} (h : w.heap[B]? = some (.cells #[v0, v1, v2, v3, v4] t (0, 0))) : w.cell? ⟨B, 0, none⟩ = some v0 ∧ w.cell? ⟨B, 1, none⟩ = some v1 ∧ w.cell? ⟨B, 2, none⟩ = some v2 ∧ w.cell? ⟨B, 3, none⟩ = some v3 ∧ w.cell? ⟨B, 4, none⟩ = some v4 :=
 ⟨cell_of h 0, cell_of h 1, cell_of h 2, cell_of h 3, cell_of h 4⟩
def isl (ps : List (List OpD)) (p d : Nat) : Bool := ps.any (fun p => decide (32 < p.length)) || (decide (8 < ps.length) || decide (200 < p) || decide (64 < d))
theorem isl_long {ps : List (List OpD)} {p d k : Nat} {q : List OpD} (hk : ps[k]? = some q) (h : 32 < q.length) : isl ps p d = true := by
 have : ps.any (fun p => decide (32 < p.length)) = true := by
  rw [List.any_eq_true]
  exact ⟨q, List.mem_of_getElem? hk, by simpa using h⟩
 simp [isl, this]
theorem isl_short {ps : List (List OpD)} {p d : Nat} (h : ∀ (k : Nat) (q : List OpD), ps[k]? = some q → q.length ≤ 32) : isl ps p d = (decide (8 < ps.length) || decide (200 < p) || decide (64 < d)) := by
 have : ps.any (fun p => decide (32 < p.length)) = false := by
  rw [List.any_eq_false]
  intro q hq
  obtain ⟨k, hk⟩ := List.mem_iff_getElem?.1 hq
  have := h k q hk
  simp
  omega
 simp [isl, this]
set_option maxHeartbeats 1600000 in
theorem isLong_any (T M : Int) (ps : List (List OpD)) (pl dr : List Int) (pa la da : Option Addr) (pc lc dc : Nat) (w : World) (hP : PAt w pa ps) (h1 : ps.length ≤ maxLen) (h2 : pl.length ≤ maxLen) (h3 : dr.length ≤ maxLen) :
 Calls Tryz.prog 47 #[.agg #[.int .i64 T, .int .i64 M, .slice pa ps.length pc, .slice la pl.length lc, .slice da dr.length dc]] w fun r w' => r = .returned (.bool (isl ps pl.length dr.length)) ∧ Below w.heap.size w w' := by
 have HP := hide (hP.below (below_alloc w (.cells #[.int .i64 T, .int .i64 M, .slice pa ps.length pc, .slice la pl.length lc, .slice da dr.length dc] 25)))
 have BW := hide (below_alloc w (.cells #[.int .i64 T, .int .i64 M, .slice pa ps.length pc, .slice la pl.length lc, .slice da dr.length dc] 25))
 have HB := hide (heap_new w (.cells #[.int .i64 T, .int .i64 M, .slice pa ps.length pc, .slice la pl.length lc, .slice da dr.length dc] 25))
 unfold maxLen at h1 h2 h3
 clear hP
 go_enter Tryz.func47, Tryz.ntmps47
 go_wp2_with fail
 generalize w.alloc (.cells #[.int .i64 T, .int .i64 M, .slice pa ps.length pc, .slice la pl.length lc, .slice da dr.length dc] 25) = W at HP HB BW ⊢
 obtain ⟨x0, x1, x2, x3, x4⟩ := sc_cells HB.out
 go_loop [8] (fun i => ∃ k : Nat, k ≤ ps.length ∧ i = .int .i64 k ∧ ∀ (j : Nat) (q : List OpD), j < k → ps[j]? = some q → q.length ≤ 32) (fun i => ps.length - (intOf i).toNat)
 case atStart => exact ⟨0, Nat.zero_le _, rfl, fun j q hj => absurd hj (Nat.not_lt_zero _)⟩
 case round =>
  obtain ⟨k, hk, rfl, hall⟩ := hrel
  have HE := hide hall
  clear hall
  by_cases hlt : k < ps.length
  ·have hlt' : (k : Int) < (ps.length : Int) := by omega
   obtain ⟨q, hq⟩ : ∃ q, ps[k]? = some q := ⟨ps[k], by simp [hlt]⟩
   obtain ⟨b, off, qa, qc, rfl, hc, _, hm⟩ := HP.out k q hq
   have HQ := hide hq
   unfold maxLen at hm
   clear hq
   by_cases hl : 32 < q.length
   ·have hl' : decide (32 < (q.length : Int)) = true := by simp; omega
    go_wp2_with fail
    go_ret
    exact ⟨ret_bool (isl_long HQ.out hl).symm, BW.out⟩
   ·have hl' : decide (32 < (q.length : Int)) = false := by simp; omega
    go_wp2_with fail
    go_round
    case rel => exact ⟨k + 1, by omega, by go_num, fun j r hj hr => by
     by_cases e : j = k
     ·subst e; rw [HQ.out] at hr; cases hr; omega
     ·exact HE.out j r (by omega) hr⟩
    case measure => simp [intOf]; omega
  ·have hlt' : ¬ ((k : Int) < (ps.length : Int)) := by omega
   have HI : Hid (isl ps pl.length dr.length = (decide (8 < ps.length) || decide (200 < pl.length) || decide (64 < dr.length))) := isl_short fun j q hj => HE.out j q (by have := (List.getElem?_eq_some_iff.1 hj).1; omega) hj
   have d1 : decide (8 < (ps.length : Int)) = decide (8 < ps.length) := by rw [decide_eq_decide]; omega
   have d2 : decide (200 < (pl.length : Int)) = decide (200 < pl.length) := by rw [decide_eq_decide]; omega
   have d3 : decide (64 < (dr.length : Int)) = decide (64 < dr.length) := by rw [decide_eq_decide]; omega
   clear HE
   cases e1 : decide (8 < ps.length) <;> cases e2 : decide (200 < pl.length) <;> cases e3 : decide (64 < dr.length) <;> rw [e1] at d1 <;> rw [e2] at d2 <;> rw [e3] at d3 <;> rw [e1, e2, e3] at HI
   all_goals
    clear e1 e2 e3
    go_wp2_with fail
    go_ret
    exact ⟨ret_bool (by rw [HI.out]; rfl), BW.out⟩
def ari (n : Int) (ps : List (List OpD)) : Bool := ps.all fun p => p.all fun o => chk o n == 0
theorem ari_no {n : Int} {ps : List (List OpD)} {k j : Nat} {q : List OpD} {o : OpD} (hk : ps[k]? = some q) (hj : q[j]? = some o) (h : (chk o n == 0) = false) : ari n ps = false := by
 rw [← Bool.not_eq_true]
 intro e
 rw [ari, List.all_eq_true] at e
 have := e q (List.mem_of_getElem? hk)
 rw [List.all_eq_true] at this
 have := this o (List.mem_of_getElem? hj)
 rw [h] at this
 cases this
theorem ari_yes {n : Int} {ps : List (List OpD)} (h : ∀ (k : Nat) (q : List OpD), ps[k]? = some q → ∀ (j : Nat) (o : OpD), q[j]? = some o → chk o n = 0) : ari n ps = true := by
 rw [ari, List.all_eq_true]
 intro q hq
 rw [List.all_eq_true]
 intro o ho
 obtain ⟨k, hk⟩ := List.mem_iff_getElem?.1 hq
 obtain ⟨j, hj⟩ := List.mem_iff_getElem?.1 ho
 simp [h k q hk j o hj]
theorem ari_of {n : Int} {ps : List (List OpD)} (h : ari n ps = true) {k j : Nat} {q : List OpD} {o : OpD} (hk : ps[k]? = some q) (hj : q[j]? = some o) : chk o n = 0 := by
 cases e : chk o n == 0
 ·rw [ari_no hk hj e] at h; cases h
 ·simpa using e
set_option maxRecDepth 100000 in
set_option maxHeartbeats 3200000 in
theorem areRight_any (ps : List (List OpD)) (pa : Option Addr) (pc : Nat) (w : World) (hP : PAt w pa ps) (h1 : ps.length ≤ maxLen) :
 Calls Tryz.prog 48 #[.slice pa ps.length pc] w fun r w' => r = .returned (.bool (ari ps.length ps)) ∧ Below w.heap.size w w' := by
 have HP := hide hP
 unfold maxLen at h1
 clear hP
 go_enter Tryz.func48, Tryz.ntmps48
 go_wp2_with fail
 go_loopw [9] (fun i wr => ∃ k : Nat, k ≤ ps.length ∧ i = .int .i64 k ∧ (∀ (j : Nat) (q : List OpD), j < k → ps[j]? = some q → ∀ (i : Nat) (o : OpD), q[i]? = some o → chk o ps.length = 0) ∧ Below w.heap.size w wr) (fun i _ => ps.length - (intOf i).toNat)
 case atStart => exact ⟨0, Nat.zero_le _, rfl, fun j q hj => absurd hj (Nat.not_lt_zero _), Below.refl _ _⟩
 case round =>
  rename World => w0
  obtain ⟨k, hk, rfl, hall, bw⟩ := hrel
  have HE := hide hall
  have BW := hide bw
  clear hall bw
  by_cases hlt : k < ps.length
  ·have hlt' : (k : Int) < (ps.length : Int) := by omega
   obtain ⟨q, hq⟩ : ∃ q, ps[k]? = some q := ⟨ps[k], by simp [hlt]⟩
   obtain ⟨b, off, qa, qc, rfl, hc, hO, hm⟩ := (HP.out.below BW.out) k q hq
   have HQ := hide hq
   have HO := hide hO
   unfold maxLen at hm
   clear hq hO
   go_wp2_with fail
   go_loopw [15] (fun i wr => ∃ j : Nat, j ≤ q.length ∧ i = .int .i64 j ∧ (∀ (t : Nat) (o : OpD), t < j → q[t]? = some o → chk o ps.length = 0) ∧ Below w0.heap.size w0 wr) (fun i _ => q.length - (intOf i).toNat)
   case atStart => exact ⟨0, Nat.zero_le _, rfl, fun j q hj => absurd hj (Nat.not_lt_zero _), Below.refl _ _⟩
   case round =>
    obtain ⟨j, hj, rfl, hall, bw2⟩ := hrel
    have HF := hide hall
    have B2 := hide bw2
    clear hall bw2
    by_cases hjl : j < q.length
    ·have hjl' : (j : Int) < (q.length : Int) := by omega
     obtain ⟨o, ho⟩ : ∃ o, q[j]? = some o := ⟨q[j], by simp [hjl]⟩
     obtain ⟨b', off', ca, cc, rfl, ⟨y0, y1, y2, y3, y4⟩, hC, hM⟩ := (HO.out.below B2.out) j o ho
     have HX := hide ho
     have HC := hide hC
     have HM := hide hM
     clear ho hC hM
     have B3 := hide (btr B2.out (below_alloc wr (.cells #[.int .i64 o.kind, .int .i64 o.a, .int .i64 o.b, .slice ca o.cases.length cc, .bool o.def_] 48)))
     have C3 := hide (HC.out.below (below_alloc wr (.cells #[.int .i64 o.kind, .int .i64 o.a, .int .i64 o.b, .slice ca o.cases.length cc, .bool o.def_] 48)))
     cases hz : chk o ps.length == 0
     ·have hz' : (chk o ps.length != 0) = true := by simp [bne, hz]
      have HZ := hide hz
      clear hz
      go_wp2_with fail
      refine (check_any o ca cc _ _ C3.out HM.out).mono ?_
      rintro r w4 ⟨rfl, b4⟩
      have B4 := hide (btr B3.out b4)
      clear b4
      go_wp2_with fail
      go_ret
      exact ⟨ret_bool (ari_no HQ.out HX.out HZ.out).symm, btr BW.out B4.out⟩
     ·have hz' : (chk o ps.length != 0) = false := by simp [bne, hz]
      have HZ : Hid (chk o ps.length = 0) := by show _ = _; simpa using hz
      clear hz
      go_wp2_with fail
      refine (check_any o ca cc _ _ C3.out HM.out).mono ?_
      rintro r w4 ⟨rfl, b4⟩
      have B4 := hide (btr B3.out b4)
      clear b4
      go_wp2_with fail
      go_roundw
      case rel => exact ⟨j + 1, by omega, by go_num, fun t x ht hx => by
       by_cases e : t = j
       ·subst e; rw [HX.out] at hx; cases hx; exact HZ.out
       ·exact HF.out t x (by omega) hx, B4.out⟩
      case measure => simp [intOf]; omega
    ·have hjl' : ¬ ((j : Int) < (q.length : Int)) := by omega
     go_wp2_with fail
     go_roundw
     case rel =>
      exact ⟨k + 1, by omega, by go_num, fun t r ht hr i o ho => by
       by_cases e : t = k
       ·subst e; rw [HQ.out] at hr; cases hr
        exact HF.out i o (by have := (List.getElem?_eq_some_iff.1 ho).1; omega) ho
       ·exact HE.out t r (by omega) hr i o ho, btr BW.out B2.out⟩
     case measure => simp [intOf]; omega
  ·have hlt' : ¬ ((k : Int) < (ps.length : Int)) := by omega
   go_wp2_with fail
   go_ret
   exact ⟨ret_bool (ari_yes fun t q hq j o ho => HE.out t q (by have := (List.getElem?_eq_some_iff.1 hq).1; omega) hq j o ho).symm, BW.out⟩
end Sh
end Go.Proofs.YtkkgbeaaekmhfaaGreat
namespace Go.Proofs.YtkkgbeaaekmhfaaGreat
open Go.ChangeShapes Go.WideShapes Go.ChangeAt Go.RowKit
namespace Sh
open De Ba Re
structure Sc where
 T : Int
 M : Int
 ps : List (List OpD)
 pl : List Int
 dr : List Int
def schk (s : Sc) : Int :=
 bif !((decide (1 ≤ s.T) && decide (s.T ≤ 256)) && (decide (1 ≤ s.M) && decide (s.M ≤ 1048576))) then 1
 else bif isl s.ps s.pl.length s.dr.length then 2
 else bif !(!decide (s.ps.length = 0) && ari s.ps.length s.ps) then 4
 else bif !(ab (-1) 1000 s.pl && ab 0 1000 s.dr) then 4 else 0
structure SAt (w : World) (s : Sc) (pa la da : Option Addr) : Prop where
 ps : PAt w pa s.ps
 pl : At w la s.pl
 dr : At w da s.dr
 h1 : s.ps.length ≤ maxLen
 h2 : s.pl.length ≤ maxLen
 h3 : s.dr.length ≤ maxLen
theorem SAt.below {w w' : World} {s : Sc} {pa la da : Option Addr} (h : SAt w s pa la da) (hb : Below w.heap.size w w') : SAt w' s pa la da :=
 ⟨h.ps.below hb, h.pl.below hb, h.dr.below hb, h.h1, h.h2, h.h3⟩
set_option maxRecDepth 100000 in
set_option maxHeartbeats 3200000 in
theorem scheck_any (T M : Int) (ps : List (List OpD)) (pl dr : List Int) (pa la da : Option Addr) (pc lc dc : Nat) (w : World) (hS : SAt w ⟨T, M, ps, pl, dr⟩ pa la da) :
 Calls Tryz.prog 29 #[.agg #[.int .i64 T, .int .i64 M, .slice pa ps.length pc, .slice la pl.length lc, .slice da dr.length dc]] w fun r w' => r = .returned (.int .i64 (schk ⟨T, M, ps, pl, dr⟩)) ∧ Below w.heap.size w w' := by
 have S0 := hide (hS.below (below_alloc w (.cells #[.int .i64 T, .int .i64 M, .slice pa ps.length pc, .slice la pl.length lc, .slice da dr.length dc] 25)))
 have B0 := hide (below_alloc w (.cells #[.int .i64 T, .int .i64 M, .slice pa ps.length pc, .slice la pl.length lc, .slice da dr.length dc] 25))
 have H0 := hide (heap_new w (.cells #[.int .i64 T, .int .i64 M, .slice pa ps.length pc, .slice la pl.length lc, .slice da dr.length dc] 25))
 have h1 := hS.h1
 unfold maxLen at h1
 simp only at h1
 clear hS
 unfold schk
 simp only
 cases e1 : decide (1 ≤ T) && decide (T ≤ 256)
 ·simp only [Bool.false_and, Bool.not_false, cond_true]
  go_enter Tryz.func29, Tryz.ntmps29
  go_wp2_with fail
  refine (between_any _ _ _ _).mono ?_
  rw [e1]
  rintro r w1 ⟨rfl, rfl⟩
  go_wp2_with fail
  go_ret
  exact ⟨rfl, B0.out⟩
 cases e2 : decide (1 ≤ M) && decide (M ≤ 1048576)
 ·simp only [Bool.and_false, Bool.not_false, cond_true]
  go_enter Tryz.func29, Tryz.ntmps29
  go_wp2_with fail
  refine (between_any _ _ _ _).mono ?_
  rw [e1]
  rintro r w1 ⟨rfl, rfl⟩
  go_wp2_with fail
  refine (between_any _ _ _ _).mono ?_
  rw [e2]
  rintro r w1 ⟨rfl, rfl⟩
  go_wp2_with fail
  go_ret
  exact ⟨rfl, B0.out⟩
 simp only [Bool.and_self, Bool.not_true, cond_false]
 cases e3 : isl ps pl.length dr.length
 rotate_left
 ·simp only [cond_true]
  go_enter Tryz.func29, Tryz.ntmps29
  go_wp2_with fail
  refine (between_any _ _ _ _).mono ?_
  rw [e1]
  rintro r w1 ⟨rfl, rfl⟩
  go_wp2_with fail
  refine (between_any _ _ _ _).mono ?_
  rw [e2]
  rintro r w1 ⟨rfl, rfl⟩
  go_wp2_with fail
  refine (isLong_any T M ps pl dr pa la da pc lc dc _ S0.out.ps S0.out.h1 S0.out.h2 S0.out.h3).mono ?_
  rw [e3]
  rintro r w3 ⟨rfl, b3⟩
  have B3 := hide (btr B0.out b3)
  clear b3
  go_wp2_with fail
  go_ret
  exact ⟨rfl, B3.out⟩
 simp only [cond_false]
 by_cases h0 : ps.length = 0
 ·have e4 : ((ps.length : Int) == 0) = true := by rw [h0]; rfl
  have h0d : decide (ps.length = 0) = true := by simpa using h0
  simp only [h0d, Bool.not_true, Bool.false_and, Bool.not_false, cond_true]
  clear h0 h0d
  go_enter Tryz.func29, Tryz.ntmps29
  go_wp2_with fail
  refine (between_any _ _ _ _).mono ?_
  rw [e1]
  rintro r w1 ⟨rfl, rfl⟩
  go_wp2_with fail
  refine (between_any _ _ _ _).mono ?_
  rw [e2]
  rintro r w1 ⟨rfl, rfl⟩
  go_wp2_with fail
  refine (isLong_any T M ps pl dr pa la da pc lc dc _ S0.out.ps S0.out.h1 S0.out.h2 S0.out.h3).mono ?_
  rw [e3]
  rintro r w3 ⟨rfl, b3⟩
  have B3 := hide (btr B0.out b3)
  have H3 := hide (heap_below H0.out b3)
  obtain ⟨x0, x1, x2, x3, x4⟩ := sc_cells H3.out
  clear b3
  go_wp2_with fail
  go_ret
  exact ⟨rfl, B3.out⟩
 have e4 : ((ps.length : Int) == 0) = false := by rw [beq_eq_false_iff_ne]; omega
 have h0d : decide (ps.length = 0) = false := by simpa using h0
 simp only [h0d, Bool.not_false, Bool.true_and]
 clear h0 h0d
 cases e5 : ari ps.length ps
 ·simp only [Bool.not_false, cond_true]
  go_enter Tryz.func29, Tryz.ntmps29
  go_wp2_with fail
  refine (between_any _ _ _ _).mono ?_
  rw [e1]
  rintro r w1 ⟨rfl, rfl⟩
  go_wp2_with fail
  refine (between_any _ _ _ _).mono ?_
  rw [e2]
  rintro r w1 ⟨rfl, rfl⟩
  go_wp2_with fail
  refine (isLong_any T M ps pl dr pa la da pc lc dc _ S0.out.ps S0.out.h1 S0.out.h2 S0.out.h3).mono ?_
  rw [e3]
  rintro r w3 ⟨rfl, b3⟩
  have B3 := hide (btr B0.out b3)
  have H3 := hide (heap_below H0.out b3)
  have S3 := hide (S0.out.below b3)
  obtain ⟨x0, x1, x2, x3, x4⟩ := sc_cells H3.out
  clear b3
  go_wp2_with fail
  refine (areRight_any ps pa pc _ S3.out.ps S3.out.h1).mono ?_
  rw [e5]
  rintro r w4 ⟨rfl, b4⟩
  have B4 := hide (btr B3.out b4)
  clear b4
  go_wp2_with fail
  go_ret
  exact ⟨rfl, B4.out⟩
 simp only [Bool.not_true, cond_false]
 cases e6 : ab (-1) 1000 pl
 ·simp only [Bool.false_and, Bool.not_false, cond_true]
  go_enter Tryz.func29, Tryz.ntmps29
  go_wp2_with fail
  refine (between_any _ _ _ _).mono ?_
  rw [e1]
  rintro r w1 ⟨rfl, rfl⟩
  go_wp2_with fail
  refine (between_any _ _ _ _).mono ?_
  rw [e2]
  rintro r w1 ⟨rfl, rfl⟩
  go_wp2_with fail
  refine (isLong_any T M ps pl dr pa la da pc lc dc _ S0.out.ps S0.out.h1 S0.out.h2 S0.out.h3).mono ?_
  rw [e3]
  rintro r w3 ⟨rfl, b3⟩
  have B3 := hide (btr B0.out b3)
  have H3 := hide (heap_below H0.out b3)
  have S3 := hide (S0.out.below b3)
  obtain ⟨x0, x1, x2, x3, x4⟩ := sc_cells H3.out
  clear b3
  go_wp2_with fail
  refine (areRight_any ps pa pc _ S3.out.ps S3.out.h1).mono ?_
  rw [e5]
  rintro r w4 ⟨rfl, b4⟩
  have B4 := hide (btr B3.out b4)
  have H4 := hide (heap_below H3.out b4)
  have S4 := hide (S3.out.below b4)
  obtain ⟨y0, y1, y2, y3, y4⟩ := sc_cells H4.out
  clear b4
  go_wp2_with fail
  refine (all_any la pl lc _ _ _ S4.out.pl S4.out.h2).mono ?_
  rw [e6]
  rintro r w5 ⟨rfl, rfl⟩
  go_wp2_with fail
  go_ret
  exact ⟨rfl, B4.out⟩
 simp only [Bool.true_and]
 cases e7 : ab 0 1000 dr
 all_goals
  first | simp only [Bool.not_false, cond_true] | simp only [Bool.not_true, cond_false]
  go_enter Tryz.func29, Tryz.ntmps29
  go_wp2_with fail
  refine (between_any _ _ _ _).mono ?_
  rw [e1]
  rintro r w1 ⟨rfl, rfl⟩
  go_wp2_with fail
  refine (between_any _ _ _ _).mono ?_
  rw [e2]
  rintro r w1 ⟨rfl, rfl⟩
  go_wp2_with fail
  refine (isLong_any T M ps pl dr pa la da pc lc dc _ S0.out.ps S0.out.h1 S0.out.h2 S0.out.h3).mono ?_
  rw [e3]
  rintro r w3 ⟨rfl, b3⟩
  have B3 := hide (btr B0.out b3)
  have H3 := hide (heap_below H0.out b3)
  have S3 := hide (S0.out.below b3)
  obtain ⟨x0, x1, x2, x3, x4⟩ := sc_cells H3.out
  clear b3
  go_wp2_with fail
  refine (areRight_any ps pa pc _ S3.out.ps S3.out.h1).mono ?_
  rw [e5]
  rintro r w4 ⟨rfl, b4⟩
  have B4 := hide (btr B3.out b4)
  have H4 := hide (heap_below H3.out b4)
  have S4 := hide (S3.out.below b4)
  obtain ⟨y0, y1, y2, y3, y4⟩ := sc_cells H4.out
  clear b4
  go_wp2_with fail
  refine (all_any la pl lc _ _ _ S4.out.pl S4.out.h2).mono ?_
  rw [e6]
  rintro r w5 ⟨rfl, rfl⟩
  go_wp2_with fail
  refine (all_any da dr dc _ _ _ S4.out.dr S4.out.h3).mono ?_
  rw [e7]
  rintro r w5 ⟨rfl, rfl⟩
  go_wp2_with fail
  go_ret
  exact ⟨rfl, B4.out⟩
end Sh
end Go.Proofs.YtkkgbeaaekmhfaaGreat
namespace Go.Proofs.YtkkgbeaaekmhfaaGreat
open Go.ChangeShapes Go.WideShapes Go.ChangeAt Go.RowKit
namespace Pe
open Ba
structure Wt where
 g : Int
 c : Int
 v : Int
def pt (o : Option Nat) : Value := .pointer (o.map fun b => ⟨b, 0, none⟩)
def Sc (w : World) (b : Nat) (x : Wt) (nx : Option Nat) : Prop :=
 w.heap[b]? = some (.cells #[.int .i64 x.g, .int .i64 x.c, .int .i64 x.v, pt nx] 183 (0, 0))
def Ch (w : World) : Option Nat → List (Nat × Wt) → Option Nat → Prop
 | o, [], e => o = e
 | o, n :: t, e => o = some n.1 ∧ ∃ nx, Sc w n.1 n.2 nx ∧ Ch w nx t e
def Hd (w : World) (P : Nat) (f l : Option Nat) (n : Nat) : Prop :=
 w.heap[P]? = some (.cells #[pt f, pt l, .int .i64 (n : Int)] 179 (0, 0))
def lst (l : List (Nat × Wt)) : Option Nat := l.getLast?.map (·.1)
def Pn (w : World) (P : Nat) (l : List (Nat × Wt)) : Prop :=
 ∃ f, Hd w P f (lst l) l.length ∧ Ch w f l none ∧ (l.map (·.1)).Nodup ∧ (∀ n ∈ l, P < n.1) ∧ l.length ≤ 1024
def Pw (w : World) (P : Nat) (ws : List Wt) : Prop := ∃ l : List (Nat × Wt), l.map (·.2) = ws ∧ Pn w P l
theorem Sc.set {w : World} {b : Nat} {x : Wt} {nx : Option Nat} (h : Sc w b x nx) (e : Option Nat) : Sc (w.setCell ⟨b, 3, none⟩ (pt e)) b x e := (Ba.heap_setCell_same h _).trans rfl
theorem Sc.other {w : World} {b q i : Nat} {x : Wt} {nx : Option Nat} (h : Sc w b x nx) (v : Value) (hq : b ≠ q) : Sc (w.setCell ⟨q, i, none⟩ v) b x nx := (Below.heap_setCell _ _ _ _ hq).trans h
theorem Hd.setF {w : World} {P : Nat} {f l : Option Nat} {n : Nat} (h : Hd w P f l n) (e : Option Nat) : Hd (w.setCell ⟨P, 0, none⟩ (pt e)) P e l n := (Ba.heap_setCell_same h _).trans rfl
theorem Hd.setL {w : World} {P : Nat} {f l : Option Nat} {n : Nat} (h : Hd w P f l n) (e : Option Nat) : Hd (w.setCell ⟨P, 1, none⟩ (pt e)) P f e n := (Ba.heap_setCell_same h _).trans rfl
theorem Hd.setN {w : World} {P : Nat} {f l : Option Nat} {n : Nat} (h : Hd w P f l n) (m : Nat) (x : Int) (hx : x = (m : Int)) : Hd (w.setCell ⟨P, 2, none⟩ (.int .i64 x)) P f l m := by
 subst hx
 exact (Ba.heap_setCell_same h _).trans rfl
theorem Hd.other {w : World} {P q i : Nat} {f l : Option Nat} {n : Nat} (h : Hd w P f l n) (v : Value) (hq : P ≠ q) : Hd (w.setCell ⟨q, i, none⟩ v) P f l n := (Below.heap_setCell _ _ _ _ hq).trans h
theorem Ch.mono {w w' : World} : ∀ {l : List (Nat × Wt)} {o e : Option Nat}, Ch w o l e → (∀ n ∈ l, ∀ c t fr, w.heap[n.1]? = some (.cells c t fr) → t = 183 → w'.heap[n.1]? = some (.cells c t fr)) → Ch w' o l e
 | [], _, _, h, _ => h
 | n :: _, _, _, ⟨h1, nx, h2, h3⟩, hf => ⟨h1, nx, hf n (List.mem_cons_self ..) _ _ _ h2 rfl, Ch.mono h3 fun m hm => hf m (List.mem_cons_of_mem _ hm)⟩
theorem Ch.set {w : World} {l : List (Nat × Wt)} {o e : Option Nat} {q i : Nat} (h : Ch w o l e) (v : Value) (hq : ∀ n ∈ l, n.1 ≠ q) : Ch (w.setCell ⟨q, i, none⟩ v) o l e :=
 h.mono fun n hn _ _ _ hc _ => (Below.heap_setCell _ _ _ _ (hq n hn)).trans hc
theorem Ch.below {w w' : World} {l : List (Nat × Wt)} {o e : Option Nat} (h : Ch w o l e) (hb : Below w.heap.size w w') : Ch w' o l e :=
 h.mono fun _ _ _ _ _ hc _ => heap_below hc hb
theorem Ch.app {w : World} : ∀ {l m : List (Nat × Wt)} {o e : Option Nat}, Ch w o (l ++ m) e ↔ ∃ mid, Ch w o l mid ∧ Ch w mid m e
 | [], m, o, e => ⟨fun h => ⟨o, rfl, h⟩, fun ⟨mid, h1, h2⟩ => by cases h1; exact h2⟩
 | n :: t, m, o, e => by
   constructor
   ·rintro ⟨h1, nx, h2, h3⟩
    obtain ⟨mid, h4, h5⟩ := Ch.app.1 h3
    exact ⟨mid, ⟨h1, nx, h2, h4⟩, h5⟩
   ·rintro ⟨mid, ⟨h1, nx, h2, h4⟩, h5⟩
    exact ⟨h1, nx, h2, Ch.app.2 ⟨mid, h4, h5⟩⟩
theorem Ch.relast {w : World} {l : List (Nat × Wt)} {n : Nat × Wt} {o e : Option Nat} (h : Ch w o (l ++ [n]) e) (hn : ∀ m ∈ l, m.1 ≠ n.1) (e' : Option Nat) : Ch (w.setCell ⟨n.1, 3, none⟩ (pt e')) o (l ++ [n]) e' := by
 obtain ⟨mid, h1, h2, nx, h3, h4⟩ := Ch.app.1 h
 exact Ch.app.2 ⟨mid, h1.set _ hn, h2, e', h3.set e', rfl⟩
theorem Ch.sc {w : World} {l : List (Nat × Wt)} {n : Nat × Wt} {o e : Option Nat} (h : Ch w o (l ++ [n]) e) : Sc w n.1 n.2 e := by
 obtain ⟨mid, h1, h2, nx, h3, h4⟩ := Ch.app.1 h
 cases h4
 exact h3
theorem lst_app (l : List (Nat × Wt)) (n : Nat × Wt) : lst (l ++ [n]) = some n.1 := by simp [lst]
theorem lst_nil : lst [] = none := rfl
theorem Pn.below {w w' : World} {P : Nat} {l : List (Nat × Wt)} (h : Pn w P l) (hb : Below w.heap.size w w') : Pn w' P l := by
 obtain ⟨f, h1, h2, h3⟩ := h
 exact ⟨f, heap_below h1 hb, h2.below hb, h3⟩
theorem Pw.below {w w' : World} {P : Nat} {l : List Wt} (h : Pw w P l) (hb : Below w.heap.size w w') : Pw w' P l := by
 obtain ⟨m, e, h⟩ := h
 exact ⟨m, e, h.below hb⟩
theorem Pw.kbz {w w' : World} {P z : Nat} {l : List Wt} {c : Array Value} {t : TypeId} {fr : Nat × Nat} (h : Pw w P l) (k : KB z w w') (hz : w.heap[z]? = some (.cells c t fr)) (ht : t ≠ 183) (hP : P ≠ z) : Pw w' P l := by
 obtain ⟨m, em, f, g1, g2, g3⟩ := h
 exact ⟨m, em, f, k.heap g1 hP, g2.mono (fun n _ c' t' fr' hc ht' => k.heap hc (by
  intro e
  rw [e, hz] at hc
  cases hc
  exact ht ht')), g3⟩
theorem Pw.lt {w : World} {P : Nat} {l : List Wt} (h : Pw w P l) : P < w.heap.size := by
 obtain ⟨m, em, f, g1, g2, g3⟩ := h
 exact heap_lt g1
theorem Pw.le {w : World} {P : Nat} {l : List Wt} (h : Pw w P l) : l.length ≤ 1024 := by
 obtain ⟨m, em, f, g1, g2, g3, g4, g5⟩ := h
 rw [← em, List.length_map]
 exact g5
theorem Pw.nil {w : World} {P : Nat} (h : Hd w P none none 0) : Pw w P [] := ⟨[], rfl, none, h, rfl, List.nodup_nil, fun _ h => by simp at h, Nat.zero_le _⟩
def PF (w : World) (P : Nat) (F : Nat → Prop) (ws : List Wt) : Prop := ∃ l : List (Nat × Wt), l.map (·.2) = ws ∧ Pn w P l ∧ (∀ n ∈ l, F n.1) ∧ F P ∧ Bd F w
theorem PF.pw {w : World} {P : Nat} {F : Nat → Prop} {ws : List Wt} (h : PF w P F ws) : Pw w P ws := by
 obtain ⟨l, e, h1, _⟩ := h
 exact ⟨l, e, h1⟩
theorem PF.bd {w : World} {P : Nat} {F : Nat → Prop} {ws : List Wt} (h : PF w P F ws) : Bd F w := by
 obtain ⟨l, e, h1, h2, h3, h4⟩ := h
 exact h4
theorem PF.own {w : World} {P : Nat} {F : Nat → Prop} {ws : List Wt} (h : PF w P F ws) : F P := by
 obtain ⟨l, e, h1, h2, h3, h4⟩ := h
 exact h3
theorem PF.sm {w w' : World} {P : Nat} {F : Nat → Prop} {ws : List Wt} (h : PF w P F ws) (s : Sm F w w') : PF w' P F ws := by
 obtain ⟨l, e, ⟨f, h1, h2, h3⟩, g1, g2, g3⟩ := h
 exact ⟨l, e, ⟨f, s.heap g2 h1, h2.mono fun n hn c t fr hc _ => s.heap (g1 n hn) hc, h3⟩, g1, g2, g3.sm s⟩
theorem PF.below {w w' : World} {P : Nat} {F : Nat → Prop} {ws : List Wt} (h : PF w P F ws) (hb : Below w.heap.size w w') : PF w' P F ws := h.sm (Sm.below hb h.bd)
theorem PF.kf {w w' : World} {P : Nat} {F G : Nat → Prop} {ws : List Wt} (h : PF w P F ws) (k : KF G w w') (hd : ∀ x, F x → ¬ G x) : PF w' P F ws := h.sm (Sm.kf k h.bd hd)
theorem PF.lt {w : World} {P : Nat} {F : Nat → Prop} {ws : List Wt} (h : PF w P F ws) : P < w.heap.size := h.pw.lt
theorem PF.le {w : World} {P : Nat} {F : Nat → Prop} {ws : List Wt} (h : PF w P F ws) : ws.length ≤ 1024 := h.pw.le
theorem Pn.added {w : World} {P b : Nat} {f : Option Nat} {l : List (Nat × Wt)} {x : Wt} (h1 : Hd w P f (some b) (l.length + 1)) (h2 : Ch w f l (some b)) (h3 : Sc w b x none) (h4 : (l.map (·.1)).Nodup) (h5 : ∀ n ∈ l, P < n.1) (h6 : l.length < 1024) (h7 : ∀ n ∈ l, n.1 ≠ b) (h8 : P < b) : Pn w P (l ++ [(b, x)]) := by
 refine ⟨f, ?_, Ch.app.2 ⟨some b, h2, rfl, none, h3, rfl⟩, ?_, ?_, ?_⟩
 ·rw [lst_app, List.length_append]
  exact h1
 ·rw [List.map_append, List.nodup_append]
  refine ⟨h4, by simp, ?_⟩
  intro a ha c hc
  simp at hc
  subst hc
  obtain ⟨n, hn, rfl⟩ := List.mem_map.1 ha
  exact h7 n hn
 ·intro n hn
  rcases List.mem_append.1 hn with q | q
  ·exact h5 n q
  ·simp at q
   subst q
   exact h8
 ·rw [List.length_append]
  simp
  omega
end Pe
end Go.Proofs.YtkkgbeaaekmhfaaGreat
namespace Go.Proofs.YtkkgbeaaekmhfaaGreat
open Go.ChangeShapes Go.WideShapes Go.ChangeAt Go.RowKit
namespace Pe
open Ba
def wv (x : Wt) : Value := .agg #[.int .i64 x.g, .int .i64 x.c, .int .i64 x.v]
theorem size_wt : (Tryz.prog.info? 135).map (·.size) = some 3 := by kernel_rfl
theorem loadVar_wt {w : World} {b : Nat} {c : Array Value} {t : TypeId} (h : w.heap[b]? = some (.cells c t (0, 0))) (hc : c.size = 3) : (loadVar 135 ⟨b, 0, none⟩).run Tryz.prog w = .ok (.agg c) w :=
 run_loadVar_row w b t _ _ _ _ h Tryz.underlying135 rfl (by rw [size_wt, hc])
theorem three_set {w : World} {b : Nat} {x0 x1 x2 : Value} {t : TypeId} (h : w.heap[b]? = some (.cells #[x0, x1, x2] t (0, 0))) (u0 u1 u2 : Value) : (((w.setCell ⟨b, 0, none⟩ u0).setCell ⟨b, 1, none⟩ u1).setCell ⟨b, 2, none⟩ u2).heap[b]? = some (.cells #[u0, u1, u2] t (0, 0)) := by
 rw [Ba.heap_setCell_same (Ba.heap_setCell_same (Ba.heap_setCell_same h u0) u1) u2]
 rfl
theorem new_any (w : World) :
 Calls Tryz.prog 97 #[] w fun r w' => r = .returned (.pointer (some ⟨w.heap.size, 0, none⟩)) ∧ PF w' w.heap.size (fun k => k = w.heap.size) [] ∧ Below w.heap.size w w' := by
 go_enter Tryz.func97, Tryz.ntmps97
 go_wp2_with fail
 go_ret
 exact ⟨rfl, ⟨[], rfl, ⟨none, heap_new _ _, rfl, List.nodup_nil, fun _ h => by simp at h, Nat.zero_le _⟩, fun _ h => by simp at h, rfl, fun k e => by show k < _; rw [World.size_alloc]; have e' : k = w.heap.size := e; omega⟩, below_alloc _ _⟩
theorem front_nil (w : World) :
 Calls Tryz.prog 125 #[.pointer none] w fun r w' => r = .returned (.pointer none) ∧ w' = w := by
 go_enter Tryz.func125, Tryz.ntmps125
 go_wp2_with fail
 go_ret
 exact ⟨rfl, rfl⟩
theorem front_c (P : Nat) (o : Option Addr) (w : World) (h : w.cell? ⟨P, 0, none⟩ = some (.pointer o)) :
 Calls Tryz.prog 125 #[.pointer (some ⟨P, 0, none⟩)] w fun r w' => r = .returned (.pointer o) ∧ w' = w := by
 go_enter Tryz.func125, Tryz.ntmps125
 go_wp2_with fail
 go_ret
 exact ⟨rfl, rfl⟩
theorem len_nil (w : World) :
 Calls Tryz.prog 124 #[.pointer none] w fun r w' => r = .returned (.int .i64 0) ∧ w' = w := by
 go_enter Tryz.func124, Tryz.ntmps124
 go_wp2_with fail
 go_ret
 exact ⟨rfl, rfl⟩
theorem len_c (P : Nat) (n : Int) (w : World) (h : w.cell? ⟨P, 2, none⟩ = some (.int .i64 n)) :
 Calls Tryz.prog 124 #[.pointer (some ⟨P, 0, none⟩)] w fun r w' => r = .returned (.int .i64 n) ∧ w' = w := by
 go_enter Tryz.func124, Tryz.ntmps124
 go_wp2_with fail
 go_ret
 exact ⟨rfl, rfl⟩
theorem len_any (P : Nat) (l : List Wt) (w : World) (h : Pw w P l) :
 Calls Tryz.prog 124 #[.pointer (some ⟨P, 0, none⟩)] w fun r w' => r = .returned (.int .i64 (l.length : Int)) ∧ w' = w := by
 obtain ⟨m, rfl, f, h1, h2⟩ := h
 rw [List.length_map]
 exact len_c P _ w (cell_of h1 2)
theorem link_none (P : Nat) (f l : Option Nat) (n : Nat) (o : Option Addr) (w : World) (h : Hd w P f l n) :
 Calls Tryz.prog 120 #[.pointer (some ⟨P, 0, none⟩), .pointer none, .pointer o] w fun r w' => r = .returned (.tuple #[]) ∧ w' = w.setCell ⟨P, 0, none⟩ (.pointer o) := by
 have y0 := cell_of h 0
 have z0 := frozen_of h 0
 simp at y0
 clear h
 go_enter Tryz.func120, Tryz.ntmps120
 go_wp2_with fail
 exact bodyPost_ret (results_none rfl _ _ _) rfl ⟨rfl, rfl⟩
theorem link_some (p : Value) (b : Nat) (x : Wt) (nx : Option Nat) (o : Option Addr) (w : World) (h : Sc w b x nx) :
 Calls Tryz.prog 120 #[p, .pointer (some ⟨b, 0, none⟩), .pointer o] w fun r w' => r = .returned (.tuple #[]) ∧ w' = w.setCell ⟨b, 3, none⟩ (.pointer o) := by
 have y0 := cell_of h 3
 have z0 := frozen_of h 3
 simp at y0
 clear h
 go_enter Tryz.func120, Tryz.ntmps120
 go_wp2_with fail
 exact bodyPost_end (results_none rfl _ _ _) rfl ⟨rfl, rfl⟩
theorem first_nil (w : World) :
 Calls Tryz.prog 136 #[.pointer none] w fun r w' => r = .returned (.tuple #[wv ⟨0, 0, 0⟩, .bool false]) ∧ Below w.heap.size w w' := by
 go_enter Tryz.func136, Tryz.ntmps136
 go_wp2_with fail
 refine (front_nil _).mono ?_
 rintro r w1 ⟨rfl, rfl⟩
 go_wp2_with fail
 exact bodyPost_ret (results_row2 Tryz.results136 _ _ _ _ _ rfl rfl (loadVar_wt (heap_new _ _) rfl)) rfl ⟨rfl, below_alloc _ _⟩
theorem first_none (P : Nat) (w : World) (h : Pw w P []) :
 Calls Tryz.prog 136 #[.pointer (some ⟨P, 0, none⟩)] w fun r w' => r = .returned (.tuple #[wv ⟨0, 0, 0⟩, .bool false]) ∧ Below w.heap.size w w' := by
 obtain ⟨m, em, f, h1, h2, h3⟩ := h
 obtain rfl : m = [] := by simpa using em
 cases h2
 have HD := hide h1
 clear h1 h3
 go_enter Tryz.func136, Tryz.ntmps136
 go_wp2_with fail
 refine (front_c P none _ ((cell_of (heap_below HD.out (below_alloc _ _)) 0).trans rfl)).mono ?_
 rintro r w1 ⟨rfl, rfl⟩
 go_wp2_with fail
 exact bodyPost_ret (results_row2 Tryz.results136 _ _ _ _ _ rfl rfl (loadVar_wt (heap_new _ _) rfl)) rfl ⟨rfl, below_alloc _ _⟩
theorem first_some (P : Nat) (x : Wt) (l : List Wt) (w : World) (h : Pw w P (x :: l)) :
 Calls Tryz.prog 136 #[.pointer (some ⟨P, 0, none⟩)] w fun r w' => r = .returned (.tuple #[wv x, .bool true]) ∧ Below w.heap.size w w' := by
 obtain ⟨m, em, f, h1, h2, h3⟩ := h
 match m, em with
 | (b, y) :: m, em =>
 simp at em
 obtain ⟨rfl, rfl⟩ := em
 obtain ⟨rfl, nx, h4, h5⟩ := h2
 have HD := hide h1
 have HS := hide h4
 clear h1 h3 h4 h5
 go_enter Tryz.func136, Tryz.ntmps136
 go_wp2_with fail
 refine (front_c P (some ⟨b, 0, none⟩) _ ((cell_of (heap_below HD.out (below_alloc _ _)) 0).trans rfl)).mono ?_
 rintro r w1 ⟨rfl, rfl⟩
 have HS1 := heap_below HS.out (below_alloc w (.cells #[.int .i64 0, .int .i64 0, .int .i64 0] 135))
 have Z := hide (heap_new w (.cells #[.int .i64 0, .int .i64 0, .int .i64 0] 135))
 have BW := hide (below_alloc w (.cells #[.int .i64 0, .int .i64 0, .int .i64 0] 135))
 generalize (w.alloc (.cells #[.int .i64 0, .int .i64 0, .int .i64 0] 135)) = w2 at HS1 Z BW ⊢
 have y0 := cell_of HS1 0
 have y1 := cell_of HS1 1
 have y2 := cell_of HS1 2
 have q0 := cell_of Z.out 0
 have q1 := cell_of Z.out 1
 have q2 := cell_of Z.out 2
 have f0 := frozen_of Z.out 0
 have f1 := frozen_of Z.out 1
 have f2 := frozen_of Z.out 2
 simp at y0 y1 y2 q0 q1 q2
 clear HS1
 go_wp2_with fail
 exact bodyPost_ret (results_row2 Tryz.results136 _ _ _ _ _ rfl rfl (loadVar_wt (three_set Z.out _ _ _) rfl)) rfl ⟨rfl, (((BW.out.setCell (Nat.le_refl _) _).setCell (Nat.le_refl _) _).setCell (Nat.le_refl _) _)⟩
def fw : List Wt → Wt
 | [] => ⟨0, 0, 0⟩
 | x :: _ => x
def fo (l : List Wt) : Bool := !l.isEmpty
theorem first_any (P : Nat) (l : List Wt) (w : World) (h : Pw w P l) :
 Calls Tryz.prog 136 #[.pointer (some ⟨P, 0, none⟩)] w fun r w' => r = .returned (.tuple #[wv (fw l), .bool (fo l)]) ∧ Below w.heap.size w w' := by
 cases l with
 | nil => exact first_none P w h
 | cons x l => exact first_some P x l w h
theorem add_arg (p : Option Addr) (x : Wt) (w : World) (h : x.g < 0 ∨ x.c < -1) :
 Calls Tryz.prog 100 #[.pointer p, wv x] w fun r w' => r = .returned (.int .i64 1) ∧ Below w.heap.size w w' := by
 unfold wv
 obtain ⟨g, c, v⟩ := x
 simp only at h ⊢
 by_cases h1 : g < 0
 ·have d1 : decide (g < 0) = true := decide_eq_true h1
  clear h
  go_enter Tryz.func100, Tryz.ntmps100
  go_wp2_with fail
  go_ret
  exact ⟨rfl, below_alloc _ _⟩
 ·have d1 : decide (g < 0) = false := decide_eq_false h1
  have d2 : decide (c < -1) = true := decide_eq_true (by omega)
  clear h
  go_enter Tryz.func100, Tryz.ntmps100
  go_wp2_with fail
  go_ret
  exact ⟨rfl, below_alloc _ _⟩
theorem add_nil (x : Wt) (w : World) (h : 0 ≤ x.g ∧ -1 ≤ x.c) :
 Calls Tryz.prog 100 #[.pointer none, wv x] w fun r w' => r = .returned (.int .i64 7) ∧ Below w.heap.size w w' := by
 unfold wv
 obtain ⟨g, c, v⟩ := x
 simp only at h ⊢
 have d1 : decide (g < 0) = false := decide_eq_false (by omega)
 have d2 : decide (c < -1) = false := decide_eq_false (by omega)
 clear h
 go_enter Tryz.func100, Tryz.ntmps100
 go_wp2_with fail
 go_ret
 exact ⟨rfl, below_alloc _ _⟩
theorem add_full (P : Nat) (l : List Wt) (x : Wt) (w : World) (h : 0 ≤ x.g ∧ -1 ≤ x.c) (hP : Pw w P l) (hl : l.length = 1024) :
 Calls Tryz.prog 100 #[.pointer (some ⟨P, 0, none⟩), wv x] w fun r w' => r = .returned (.int .i64 5) ∧ Below w.heap.size w w' := by
 unfold wv
 obtain ⟨g, c, v⟩ := x
 simp only at h ⊢
 have d1 : decide (g < 0) = false := decide_eq_false (by omega)
 have d2 : decide (c < -1) = false := decide_eq_false (by omega)
 clear h
 obtain ⟨m, em, f, h1, h2⟩ := hP
 have hm : m.length = 1024 := by rw [← em, List.length_map] at hl; exact hl
 have y2 : w.cell? ⟨P, 2, none⟩ = some (.int .i64 1024) := by
  have := cell_of h1 2
  rw [hm] at this
  exact this
 have HP := heap_lt h1
 clear h1 h2 hm hl em
 go_enter Tryz.func100, Tryz.ntmps100
 go_wp2_with fail
 go_ret
 exact ⟨rfl, below_alloc _ _⟩
set_option maxHeartbeats 1600000 in
theorem add_ok (P : Nat) (F : Nat → Prop) (l : List Wt) (x : Wt) (w : World) (h : 0 ≤ x.g ∧ -1 ≤ x.c) (hP : PF w P F l) (hl : l.length < 1024) :
 Calls Tryz.prog 100 #[.pointer (some ⟨P, 0, none⟩), wv x] w fun r w' => r = .returned (.int .i64 0) ∧ KF F w w' ∧ ∃ F', Nw F' F w ∧ PF w' P F' (l ++ [x]) := by
 unfold wv
 obtain ⟨m, em, ⟨f, h1, h2, h3, h4, h5⟩, hF1, hF2, hF3⟩ := hP
 have FA := hide hF1
 have FP := hide hF2
 have FB := hide hF3
 clear hF1 hF2 hF3
 subst em
 rw [List.length_map] at hl
 have d1 : decide (x.g < 0) = false := decide_eq_false (by omega)
 have d2 : decide (x.c < -1) = false := decide_eq_false (by omega)
 clear h
 obtain ⟨k, hk⟩ : ∃ k, k = m.length := ⟨_, rfl⟩
 rw [← hk] at h1
 have HK := hide hk
 have d3 : ((k : Int) == 1024) = false := by rw [beq_eq_false_iff_ne]; omega
 have hk2 : k < 1024 := by omega
 clear hk
 have HD := hide h1
 have HP := heap_lt h1
 have HC := hide h2
 have BB := hide (btr (below_alloc w (.cells #[.int .i64 x.g, .int .i64 x.c, .int .i64 x.v] 135)) (below_alloc _ (.cells #[.int .i64 x.g, .int .i64 x.c, .int .i64 x.v, .pointer none] 183)))
 have NW : Hid (Sc ((w.alloc (.cells #[.int .i64 x.g, .int .i64 x.c, .int .i64 x.v] 135)).alloc (.cells #[.int .i64 x.g, .int .i64 x.c, .int .i64 x.v, .pointer none] 183)) (w.heap.size + 1) x none) := by
  have := heap_new (w.alloc (.cells #[.int .i64 x.g, .int .i64 x.c, .int .i64 x.v] 135)) (.cells #[.int .i64 x.g, .int .i64 x.c, .int .i64 x.v, .pointer none] 183)
  rw [World.size_alloc] at this
  exact this
 have ND := hide h3
 have GT := hide h4
 have LT : Hid (∀ n ∈ m, n.1 < w.heap.size) := by
  intro n hn
  obtain ⟨l1, l2, rfl⟩ := List.append_of_mem hn
  obtain ⟨mid, _, _, nx, h6, _⟩ := Ch.app.1 h2
  exact heap_lt h6
 have y1 : w.cell? ⟨P, 1, none⟩ = some (pt (lst m)) := cell_of h1 1
 have y2 : w.cell? ⟨P, 2, none⟩ = some (.int .i64 (k : Int)) := cell_of h1 2
 clear h1 h2 h3 h4
 rcases List.eq_nil_or_concat m with rfl | ⟨m0, n0, rfl⟩
 ·have e0 : f = none := HC.out
  subst e0
  have y1' : w.cell? ⟨P, 1, none⟩ = some (.pointer none) := y1
  clear y1
  go_enter Tryz.func100, Tryz.ntmps100
  go_wp2_with fail
  generalize ((w.alloc (.cells #[.int .i64 x.g, .int .i64 x.c, .int .i64 x.v] 135)).alloc (.cells #[.int .i64 x.g, .int .i64 x.c, .int .i64 x.v, .pointer none] 183)) = W2 at BB NW ⊢
  refine (link_none P none none k (some ⟨w.heap.size + 1, 0, none⟩) _ (heap_below HD.out BB.out)).mono ?_
  rintro r w3 ⟨rfl, hw3⟩
  have HD3 : Hid (Hd w3 P (some (w.heap.size + 1)) none k) := by rw [hw3]; exact Hd.setF (heap_below HD.out BB.out) (some (w.heap.size + 1))
  have CH3 : Hid (Ch w3 (some (w.heap.size + 1)) [] (some (w.heap.size + 1))) := rfl
  have NW3 : Hid (Sc w3 (w.heap.size + 1) x none) := by rw [hw3]; exact NW.out.other _ (by omega)
  have FT3 : Hid (KF F w w3) := by rw [hw3]; exact (KF.of (F := F) BB.out).set FP.out 0 _
  clear hw3 BB NW HD y2 y1'
  have y1 := cell_of HD3.out 1
  have y2 := cell_of HD3.out 2
  have HPP := hide (heap_lt HD3.out)
  have f1 := frozen_of HD3.out 1
  have f2 := frozen_of HD3.out 2
  simp at y1 y2
  go_wp2_with fail
  go_ret
  refine ⟨rfl, (FT3.out.set FP.out 1 _).set FP.out 2 _, fun k => F k ∨ k = w.heap.size + 1, fun k hk => hk.imp id (fun e => by omega), ⟨_, ?_, Pn.added (f := some (w.heap.size + 1)) (b := w.heap.size + 1) (x := x) ((HD3.out.setL (some (w.heap.size + 1))).setN _ _ (by rw [HK.out]; simp)) ((CH3.out.set _ (fun n hn => by have := GT.out n hn; omega)).set _ (fun n hn => by have := GT.out n hn; omega)) ((NW3.out.other _ (by omega)).other _ (by omega)) ND.out GT.out hl (fun n hn => by have := LT.out n hn; omega) (by omega), ?_, .inl FP.out, ?_⟩⟩
  ·simp
  ·intro n hn
   rcases List.mem_append.1 hn with q | q
   ·exact .inl (FA.out n q)
   ·simp at q; subst q; exact .inr rfl
  ·intro k hk
   have hz := ((FT3.out.set FP.out 1 (.pointer (some ⟨w.heap.size + 1, 0, none⟩))).set FP.out 2 (.int .i64 0)).size
   rcases hk with q | q
   ·exact Nat.lt_of_lt_of_le (FB.out k q) (by first | exact hz | (simp [World.setCell] at hz ⊢; omega))
   ·subst q
    have hs := heap_lt NW3.out
    simp [World.setCell]
    exact hs
 ·rw [List.concat_eq_append] at *
  have y1' : w.cell? ⟨P, 1, none⟩ = some (.pointer (some ⟨n0.1, 0, none⟩)) := by rw [lst_app] at y1; exact y1
  clear y1
  go_enter Tryz.func100, Tryz.ntmps100
  go_wp2_with fail
  generalize ((w.alloc (.cells #[.int .i64 x.g, .int .i64 x.c, .int .i64 x.v] 135)).alloc (.cells #[.int .i64 x.g, .int .i64 x.c, .int .i64 x.v, .pointer none] 183)) = W2 at BB NW ⊢
  have C2 := hide (HC.out.below BB.out)
  have hn0 := GT.out n0 (by simp)
  have hn1 := LT.out n0 (by simp)
  have DJ : Hid (∀ n ∈ m0, n.1 ≠ n0.1) := by
   intro n hn e
   have := ND.out
   rw [List.map_append, List.nodup_append] at this
   exact this.2.2 n.1 (List.mem_map.2 ⟨n, hn, rfl⟩) n0.1 (by simp) e
  refine (link_some _ n0.1 n0.2 none (some ⟨w.heap.size + 1, 0, none⟩) _ C2.out.sc).mono ?_
  rintro r w3 ⟨rfl, hw3⟩
  have HD3 : Hid (Hd w3 P f (lst (m0 ++ [n0])) k) := by rw [hw3]; exact Hd.other (heap_below HD.out BB.out) _ (by omega)
  have CH3 : Hid (Ch w3 f (m0 ++ [n0]) (some (w.heap.size + 1))) := by rw [hw3]; exact C2.out.relast DJ.out (some (w.heap.size + 1))
  have NW3 : Hid (Sc w3 (w.heap.size + 1) x none) := by rw [hw3]; exact NW.out.other _ (by omega)
  have FT3 : Hid (KF F w w3) := by rw [hw3]; exact (KF.of (F := F) BB.out).set (FA.out n0 (by simp)) 3 _
  clear hw3 BB NW HD y2 y1' C2 DJ
  have y1 := cell_of HD3.out 1
  have y2 := cell_of HD3.out 2
  have HPP := hide (heap_lt HD3.out)
  have f1 := frozen_of HD3.out 1
  have f2 := frozen_of HD3.out 2
  simp at y1 y2
  go_wp2_with fail
  go_ret
  refine ⟨rfl, (FT3.out.set FP.out 1 _).set FP.out 2 _, fun k => F k ∨ k = w.heap.size + 1, fun k hk => hk.imp id (fun e => by omega), ⟨_, ?_, Pn.added (f := f) (b := w.heap.size + 1) (x := x) ((HD3.out.setL (some (w.heap.size + 1))).setN _ _ (by rw [HK.out]; simp)) ((CH3.out.set _ (fun n hn => by have := GT.out n hn; omega)).set _ (fun n hn => by have := GT.out n hn; omega)) ((NW3.out.other _ (by omega)).other _ (by omega)) ND.out GT.out hl (fun n hn => by have := LT.out n hn; omega) (by omega), ?_, .inl FP.out, ?_⟩⟩
  ·simp
  ·intro n hn
   rcases List.mem_append.1 hn with q | q
   ·exact .inl (FA.out n q)
   ·simp at q; subst q; exact .inr rfl
  ·intro k hk
   have hz := ((FT3.out.set FP.out 1 (.pointer (some ⟨w.heap.size + 1, 0, none⟩))).set FP.out 2 (.int .i64 0)).size
   rcases hk with q | q
   ·exact Nat.lt_of_lt_of_le (FB.out k q) (by first | exact hz | (simp [World.setCell] at hz ⊢; omega))
   ·subst q
    have hs := heap_lt NW3.out
    simp [World.setCell]
    exact hs
set_option maxHeartbeats 1600000 in
theorem take_nil (w : World) :
 Calls Tryz.prog 130 #[.pointer none] w fun r w' => r = .returned (.tuple #[wv ⟨0, 0, 0⟩, .bool false]) ∧ Below w.heap.size w w' := by
 go_enter Tryz.func130, Tryz.ntmps130
 go_wp2_with fail
 refine (first_nil _).mono ?_
 rintro r w1 ⟨rfl, b1⟩
 have Z1 := hide (heap_below (heap_new w (.cells #[.int .i64 0, .int .i64 0, .int .i64 0] 135)) b1)
 have B1 := hide (btr (below_alloc w (.cells #[.int .i64 0, .int .i64 0, .int .i64 0] 135)) b1)
 have q0 := cell_of Z1.out 0
 have q1 := cell_of Z1.out 1
 have q2 := cell_of Z1.out 2
 have f0 := frozen_of Z1.out 0
 have f1 := frozen_of Z1.out 1
 have f2 := frozen_of Z1.out 2
 have hlt := heap_lt Z1.out
 simp at q0 q1 q2
 clear b1
 unfold wv
 go_wp2_with fail
 exact bodyPost_ret (results_row2 Tryz.results130 _ _ _ _ _ rfl rfl (loadVar_wt (heap_below (three_set Z1.out _ _ _) (below_alloc _ _)) rfl)) rfl ⟨rfl, btr (((B1.out.setCell (Nat.le_refl _) _).setCell (Nat.le_refl _) _).setCell (Nat.le_refl _) _) (below_alloc _ _)⟩
set_option maxHeartbeats 1600000 in
theorem take_none (P : Nat) (w : World) (h : Pw w P []) :
 Calls Tryz.prog 130 #[.pointer (some ⟨P, 0, none⟩)] w fun r w' => r = .returned (.tuple #[wv ⟨0, 0, 0⟩, .bool false]) ∧ Below w.heap.size w w' := by
 have H := hide h
 clear h
 go_enter Tryz.func130, Tryz.ntmps130
 go_wp2_with fail
 refine (first_none P _ (H.out.below (below_alloc _ _))).mono ?_
 rintro r w1 ⟨rfl, b1⟩
 have Z1 := hide (heap_below (heap_new w (.cells #[.int .i64 0, .int .i64 0, .int .i64 0] 135)) b1)
 have B1 := hide (btr (below_alloc w (.cells #[.int .i64 0, .int .i64 0, .int .i64 0] 135)) b1)
 have q0 := cell_of Z1.out 0
 have q1 := cell_of Z1.out 1
 have q2 := cell_of Z1.out 2
 have f0 := frozen_of Z1.out 0
 have f1 := frozen_of Z1.out 1
 have f2 := frozen_of Z1.out 2
 have hlt := heap_lt Z1.out
 simp at q0 q1 q2
 clear b1
 unfold wv
 go_wp2_with fail
 exact bodyPost_ret (results_row2 Tryz.results130 _ _ _ _ _ rfl rfl (loadVar_wt (heap_below (three_set Z1.out _ _ _) (below_alloc _ _)) rfl)) rfl ⟨rfl, btr (((B1.out.setCell (Nat.le_refl _) _).setCell (Nat.le_refl _) _).setCell (Nat.le_refl _) _) (below_alloc _ _)⟩
theorem take_fin {w A : World} {P : Nat} {F : Nat → Prop} {l : List Wt} {c : Array Value} (hA : PF A P F l) (hF : KF F w A) (hd : Bd F w) (hz : A.heap[w.heap.size]? = some (.cells c 135 (0, 0))) (u0 u1 u2 : Value) (o : Obj) :
 KF F w ((((A.setCell ⟨w.heap.size, 0, none⟩ u0).setCell ⟨w.heap.size, 1, none⟩ u1).setCell ⟨w.heap.size, 2, none⟩ u2).alloc o) ∧ PF ((((A.setCell ⟨w.heap.size, 0, none⟩ u0).setCell ⟨w.heap.size, 1, none⟩ u1).setCell ⟨w.heap.size, 2, none⟩ u2).alloc o) P F l := by
 have hAl := heap_lt hz
 have K := (((KB.refl w.heap.size A).setCell 0 u0).setCell 1 u1).setCell 2 u2
 exact ⟨(((hF.setNew (Nat.le_refl _) _ _).setNew (Nat.le_refl _) _ _).setNew (Nat.le_refl _) _ _).alloc _, (hA.sm (fun x hx => K.block x (hA.bd x hx) (by have := hd x hx; omega))).below (below_alloc _ _)⟩
set_option maxHeartbeats 1600000 in
theorem take_some (P : Nat) (F : Nat → Prop) (x : Wt) (l : List Wt) (w : World) (h : PF w P F (x :: l)) :
 Calls Tryz.prog 130 #[.pointer (some ⟨P, 0, none⟩)] w fun r w' => r = .returned (.tuple #[wv x, .bool true]) ∧ KF F w w' ∧ PF w' P F l := by
 have PW := hide h.pw
 obtain ⟨m', em, ⟨f, h1, h2, h3, h4, h5⟩, hF1, hF2, hF3⟩ := h
 have FP := hide hF2
 have FB := hide hF3
 clear hF2 hF3
 match m', em, h1, h2, h3, h4, h5, hF1 with
 | (b, y) :: m, em, h1, h2, h3, h4, h5, hF1 =>
 have FA : Hid (∀ n ∈ m, F n.1) := fun n hn => hF1 n (List.mem_cons_of_mem _ hn)
 clear hF1
 simp at em
 obtain ⟨rfl, rfl⟩ := em
 obtain ⟨rfl, nx, h6, h7⟩ := h2
 have HP := heap_lt h1
 obtain ⟨k, hk⟩ : ∃ k, k = m.length := ⟨_, rfl⟩
 rw [List.length_cons] at h1 h5
 rw [← hk] at h1 h5
 have HK := hide hk
 clear hk
 have HD := hide h1
 have HS := hide h6
 have CH := hide h7
 have ND : Hid ((m.map (·.1)).Nodup) := by
  have : (List.map (·.1) ((b, y) :: m)).Nodup := h3
  rw [List.map_cons, List.nodup_cons] at this
  exact this.2
 have GT : Hid (∀ n ∈ m, P < n.1) := fun n hn => h4 n (List.mem_cons_of_mem _ hn)
 have hPb : P < b := h4 (b, y) (List.mem_cons_self ..)
 clear h1 h3 h4 h6 h7
 cases m with
 | nil =>
   have e0 : nx = none := CH.out
   subst e0
   skip
   go_enter Tryz.func130, Tryz.ntmps130
   go_wp2_with fail
   refine (first_some P y ([]) _ (PW.out.below (below_alloc _ _))).mono ?_
   rintro r w1 ⟨rfl, b1⟩
   have Z1 := hide (heap_below (heap_new w (.cells #[.int .i64 0, .int .i64 0, .int .i64 0] 135)) b1)
   have B1 := hide (btr (below_alloc w (.cells #[.int .i64 0, .int .i64 0, .int .i64 0] 135)) b1)
   have q0 := cell_of Z1.out 0
   have q1 := cell_of Z1.out 1
   have q2 := cell_of Z1.out 2
   have f0 := frozen_of Z1.out 0
   have f1 := frozen_of Z1.out 1
   have f2 := frozen_of Z1.out 2
   have hlt := heap_lt Z1.out
   simp at q0 q1 q2
   clear b1
   have HD1 := hide (heap_below HD.out B1.out)
   have HS1 := hide (heap_below HS.out B1.out)
   have CH1 := hide (CH.out.below B1.out)
   have FT1 := hide (KF.of (F := F) B1.out)
   have hPw1 := heap_lt HD1.out
   have hbw1 := heap_lt HS1.out
   have y0 : w1.cell? ⟨P, 0, none⟩ = some (.pointer (some ⟨b, 0, none⟩)) := cell_of HD1.out 0
   have y1 := cell_of HD1.out 1
   have y2 := cell_of HD1.out 2
   have g0 := frozen_of HD1.out 0
   have g1 := frozen_of HD1.out 1
   have g2 := frozen_of HD1.out 2
   have y3 : w1.cell? ⟨b, 3, none⟩ = some (.pointer (none)) := cell_of HS1.out 3
   simp at y1 y2
   unfold wv
   go_wp2_with fail
   have hd := ((Hd.setF HD1.out none).setL none).setN k (k : Int) rfl
   have KK := ((FT1.out.set FP.out 0 (.pointer none)).set FP.out 1 (.pointer none)).set FP.out 2 (.int .i64 (k : Int))
   have hA : PF (((w1.setCell ⟨P, 0, none⟩ (.pointer none)).setCell ⟨P, 1, none⟩ (.pointer none)).setCell ⟨P, 2, none⟩ (.int .i64 (k : Int))) P F [] := ⟨[], rfl, ⟨none, (by
    have e := HK.out
    subst e
    exact hd), rfl, List.nodup_nil, fun _ h => by simp at h, Nat.zero_le _⟩, fun _ h => by simp at h, FP.out, FB.out.mono KK.size⟩
   have hz : (((w1.setCell ⟨P, 0, none⟩ (.pointer none)).setCell ⟨P, 1, none⟩ (.pointer none)).setCell ⟨P, 2, none⟩ (.int .i64 (k : Int))).heap[w.heap.size]? = _ := ((((KB.refl P w1).setCell 0 _).setCell 1 _).setCell 2 _).heap Z1.out (by omega)
   exact bodyPost_ret (results_row2 Tryz.results130 _ _ _ _ _ rfl rfl (loadVar_wt (heap_below (three_set hz _ _ _) (below_alloc _ _)) rfl)) rfl ⟨rfl, take_fin hA KK FB.out hz _ _ _ _⟩
 | cons n2 m2 =>
   have e0 : nx = some n2.1 := CH.out.1
   subst e0
   skip
   go_enter Tryz.func130, Tryz.ntmps130
   go_wp2_with fail
   refine (first_some P y ((n2 :: m2).map (·.2)) _ (PW.out.below (below_alloc _ _))).mono ?_
   rintro r w1 ⟨rfl, b1⟩
   have Z1 := hide (heap_below (heap_new w (.cells #[.int .i64 0, .int .i64 0, .int .i64 0] 135)) b1)
   have B1 := hide (btr (below_alloc w (.cells #[.int .i64 0, .int .i64 0, .int .i64 0] 135)) b1)
   have q0 := cell_of Z1.out 0
   have q1 := cell_of Z1.out 1
   have q2 := cell_of Z1.out 2
   have f0 := frozen_of Z1.out 0
   have f1 := frozen_of Z1.out 1
   have f2 := frozen_of Z1.out 2
   have hlt := heap_lt Z1.out
   simp at q0 q1 q2
   clear b1
   have HD1 := hide (heap_below HD.out B1.out)
   have HS1 := hide (heap_below HS.out B1.out)
   have CH1 := hide (CH.out.below B1.out)
   have FT1 := hide (KF.of (F := F) B1.out)
   have hPw1 := heap_lt HD1.out
   have hbw1 := heap_lt HS1.out
   have y0 : w1.cell? ⟨P, 0, none⟩ = some (.pointer (some ⟨b, 0, none⟩)) := cell_of HD1.out 0
   have y1 := cell_of HD1.out 1
   have y2 := cell_of HD1.out 2
   have g0 := frozen_of HD1.out 0
   have g1 := frozen_of HD1.out 1
   have g2 := frozen_of HD1.out 2
   have y3 : w1.cell? ⟨b, 3, none⟩ = some (.pointer (some ⟨n2.1, 0, none⟩)) := cell_of HS1.out 3
   simp at y1 y2
   unfold wv
   go_wp2_with fail
   have hd := (Hd.setF HD1.out (some n2.1)).setN k (k : Int) rfl
   have hl : lst ((b, y) :: n2 :: m2) = lst (n2 :: m2) := by simp [lst, List.getLast?_cons_cons]
   rw [hl] at hd
   have KK := (FT1.out.set FP.out 0 (.pointer (some ⟨n2.1, 0, none⟩))).set FP.out 2 (.int .i64 (k : Int))
   have hA : PF ((w1.setCell ⟨P, 0, none⟩ (.pointer (some ⟨n2.1, 0, none⟩))).setCell ⟨P, 2, none⟩ (.int .i64 (k : Int))) P F ((n2 :: m2).map (·.2)) := by
    have hk := HK.out
    refine ⟨n2 :: m2, rfl, ⟨some n2.1, by rw [← hk]; exact hd, (CH1.out.set _ (fun n hn => by have := GT.out n hn; omega)).set _ (fun n hn => by have := GT.out n hn; omega), ND.out, GT.out, by omega⟩, FA.out, FP.out, FB.out.mono KK.size⟩
   have hz : ((w1.setCell ⟨P, 0, none⟩ (.pointer (some ⟨n2.1, 0, none⟩))).setCell ⟨P, 2, none⟩ (.int .i64 (k : Int))).heap[w.heap.size]? = _ := (((KB.refl P w1).setCell 0 _).setCell 2 _).heap Z1.out (by omega)
   exact bodyPost_ret (results_row2 Tryz.results130 _ _ _ _ _ rfl rfl (loadVar_wt (heap_below (three_set hz _ _ _) (below_alloc _ _)) rfl)) rfl ⟨rfl, take_fin hA KK FB.out hz _ _ _ _⟩
end Pe
end Go.Proofs.YtkkgbeaaekmhfaaGreat
