/- Package deed: the reader's op, over this seat's program. -/
import Derived.Test.YtgnhophlnbpcgaaDf
namespace Go.Proofs.Ytgnhophlnbpcgaa
open Go.ChangeShapes Go.WideShapes Go.ChangeAt Go.RowKit
namespace De
open Ba Re

/-- the fields that a kind's bytes tell, read: after j of them -/
def rf (s : ByteArray) (f : Bool) : Nat → Int × Int × ByteArray × Bool
  | 0 => (0, 0, s, f)
  | 1 => ((rnum s f).1, 0, (rnum s f).2.1, (rnum s f).2.2)
  | _ => ((rnum s f).1, (rnum (rnum s f).2.1 (rnum s f).2.2).1, (rnum (rnum s f).2.1 (rnum s f).2.2).2.1, (rnum (rnum s f).2.1 (rnum s f).2.2).2.2)

/-- a case read -/
def rc (s : ByteArray) (f : Bool) : Cs × ByteArray × Bool :=
  (⟨(rup 1 s f).1 == 1, (rnum (rup 1 s f).2.1 (rup 1 s f).2.2).1, (rnum (rnum (rup 1 s f).2.1 (rup 1 s f).2.2).2.1 (rnum (rup 1 s f).2.1 (rup 1 s f).2.2).2.2).1⟩, (rnum (rnum (rup 1 s f).2.1 (rup 1 s f).2.2).2.1 (rnum (rup 1 s f).2.1 (rup 1 s f).2.2).2.2).2)
/-- so many cases read -/
def rcs (s : ByteArray) (f : Bool) : Nat → List Cs × ByteArray × Bool
  | 0 => ([], s, f)
  | n + 1 => ((rcs s f n).1 ++ [(rc (rcs s f n).2.1 (rcs s f n).2.2).1], (rc (rcs s f n).2.1 (rcs s f n).2.2).2)
theorem rcs_len (s : ByteArray) (f : Bool) (n : Nat) : (rcs s f n).1.length = n := by
  induction n with
  | zero => rfl
  | succ n ih => simp [rcs, ih]
/-- an operation read -/
def rop (s : ByteArray) (f : Bool) : OpD × ByteArray × Bool :=
  let p := rnum s f
  let q := rf p.2.1 p.2.2 (nf p.1)
  bif p.1 == 6 then
    let d := rup 1 q.2.2.1 q.2.2.2
    let n := rup 4 d.2.1 d.2.2
    let c := rcs n.2.1 n.2.2 n.1.toNat
    (⟨p.1, q.1, q.2.1, c.1, d.1 == 1⟩, c.2)
  else (⟨p.1, q.1, q.2.1, [], false⟩, q.2.2)

/-- what reading an operation keeps: the reader at R, the answer's room at Z, the operation at O -/
structure OS (w wr : World) (R Z O : Nat) (k a b : Int) (sl : Value) (d : Bool) (s : ByteArray) (f : Bool) : Prop where
  rd : RS wr R s f
  op : wr.heap[O]? = some (.cells #[.int .i64 k, .int .i64 a, .int .i64 b, sl, .bool d] 24 (0, 0))
  res : wr.heap[Z]? = some (.cells #[.int .i64 0, .int .i64 0, .int .i64 0, .slice none 0 0, .bool false] 24 (0, 0))
  kb : KB R w wr
  ne : R < w.heap.size ∧ w.heap.size ≤ Z ∧ Z < O
theorem OS.below {w wr wr' : World} {R Z O : Nat} {k a b : Int} {sl : Value} {d f : Bool} {s : ByteArray} (h : OS w wr R Z O k a b sl d s f) (hb : Below wr.heap.size wr wr') : OS w wr' R Z O k a b sl d s f :=
  ⟨heap_below h.rd hb, heap_below h.op hb, heap_below h.res hb, h.kb.trans (KB.of hb), h.ne⟩
theorem OS.reads {w wr wr' : World} {R Z O : Nat} {k a b : Int} {sl : Value} {d f f' : Bool} {s s' : ByteArray} (h : OS w wr R Z O k a b sl d s f) (hr : RS wr' R s' f') (hk : KB R wr wr') : OS w wr' R Z O k a b sl d s' f' :=
  ⟨hr, hk.heap h.op (by have := h.ne; omega), hk.heap h.res (by have := h.ne; omega), h.kb.trans hk, h.ne⟩
theorem kb_setCell {R O : Nat} {w a : World} (h : KB R w a) (hO : w.heap.size ≤ O) (i : Nat) (v : Value) : KB R w (a.setCell ⟨O, i, none⟩ v) :=
  ⟨h.os, h.tape, h.output, by show _ ≤ (a.setCell _ _).heap.size; simp [World.setCell]; exact h.size, fun x hx hr => (Below.heap_setCell _ _ _ _ (by show x ≠ O; omega)).trans (h.block x hx hr)⟩
theorem OS.set {w wr : World} {R Z O : Nat} {k a b : Int} {sl : Value} {d f : Bool} {s : ByteArray} (h : OS w wr R Z O k a b sl d s f) (i : Nat) (v : Value) {a' b' : Int} {sl' : Value} {d' : Bool} (he : (#[Value.int .i64 k, .int .i64 a, .int .i64 b, sl, .bool d] : Array Value).setIfInBounds i v = #[Value.int .i64 k, .int .i64 a', .int .i64 b', sl', .bool d']) : OS w (wr.setCell ⟨O, i, none⟩ v) R Z O k a' b' sl' d' s f := by
  have hn := h.ne
  refine ⟨?_, ?_, ?_, kb_setCell h.kb (by omega) _ _, hn⟩
  · exact (Below.heap_setCell _ _ _ _ (by show R ≠ O; omega)).trans h.rd
  · rw [Ba.heap_setCell_same h.op, he]
  · exact (Below.heap_setCell _ _ _ _ (by show Z ≠ O; omega)).trans h.res

theorem results_row1 {fn : Func} {p : Tmp} {ty : TypeId} (h : fn.results = #[.cell p ty]) (tmps : Array Value) (w : World) (g : Nat) (cs : Array Value)
    (hp : tmps.getD p undef = .pointer (some ⟨g, 0, none⟩)) (hl : (loadVar ty ⟨g, 0, none⟩).run Try.prog w = .ok (.agg cs) w) :
    (results fn tmps).run Try.prog w = .ok (.agg cs) w := by
  have hp' : tmps[p]?.getD undef = .pointer (some ⟨g, 0, none⟩) := by simpa using hp
  simp [results, h, hp', asAddr, hl]
theorem size_op : (Try.prog.info? 24).map (·.size) = some 5 := by kernel_rfl
theorem loadVar_op {w : World} {b : Nat} {c : Array Value} {t : TypeId} (h : w.heap[b]? = some (.cells c t (0, 0))) (hc : c.size = 5) : (loadVar 24 ⟨b, 0, none⟩).run Try.prog w = .ok (.agg c) w :=
  run_loadVar_row w b t _ _ _ _ h Try.underlying24 rfl (by rw [size_op, hc])
theorem five_set {w : World} {b : Nat} {x0 x1 x2 x3 x4 : Value} {t : TypeId} (h : w.heap[b]? = some (.cells #[x0, x1, x2, x3, x4] t (0, 0))) (u0 u1 u2 u3 u4 : Value) : (((((w.setCell ⟨b, 0, none⟩ u0).setCell ⟨b, 1, none⟩ u1).setCell ⟨b, 2, none⟩ u2).setCell ⟨b, 3, none⟩ u3).setCell ⟨b, 4, none⟩ u4).heap[b]? = some (.cells #[u0, u1, u2, u3, u4] t (0, 0)) := by
  rw [Ba.heap_setCell_same (Ba.heap_setCell_same (Ba.heap_setCell_same (Ba.heap_setCell_same (Ba.heap_setCell_same h u0) u1) u2) u3) u4]
  rfl
theorem five_other {w : World} (Z b : Nat) (h : b ≠ Z) (u0 u1 u2 u3 u4 : Value) : (((((w.setCell ⟨Z, 0, none⟩ u0).setCell ⟨Z, 1, none⟩ u1).setCell ⟨Z, 2, none⟩ u2).setCell ⟨Z, 3, none⟩ u3).setCell ⟨Z, 4, none⟩ u4).heap[b]? = w.heap[b]? := by
  rw [Below.heap_setCell _ _ _ _ h, Below.heap_setCell _ _ _ _ h, Below.heap_setCell _ _ _ _ h, Below.heap_setCell _ _ _ _ h, Below.heap_setCell _ _ _ _ h]
theorem kb_five {R Z : Nat} {w a : World} (h : KB R w a) (hZ : w.heap.size ≤ Z) (u0 u1 u2 u3 u4 : Value) : KB R w (((((a.setCell ⟨Z, 0, none⟩ u0).setCell ⟨Z, 1, none⟩ u1).setCell ⟨Z, 2, none⟩ u2).setCell ⟨Z, 3, none⟩ u3).setCell ⟨Z, 4, none⟩ u4) :=
  kb_setCell (kb_setCell (kb_setCell (kb_setCell (kb_setCell h hZ _ _) hZ _ _) hZ _ _) hZ _ _) hZ _ _
theorem RS.drew {w : World} {R : Nat} {s : ByteArray} {f : Bool} (h : RS w R s f) : RS w.drew R s f := h
theorem kb_drew {R : Nat} {w w' : World} (h : KB R w.drew w') : KB R w w' := ⟨h.os, h.tape, h.output, h.size, h.block⟩
theorem three_other {w : World} (C i0 i1 i2 b i : Nat) (h : b ≠ C) (u0 u1 u2 : Value) : (((w.setCell ⟨C, i0, none⟩ u0).setCell ⟨C, i1, none⟩ u1).setCell ⟨C, i2, none⟩ u2).cell? ⟨b, i, none⟩ = w.cell? ⟨b, i, none⟩ := by
  simp only [World.cell?]
  rw [Below.heap_setCell _ _ _ _ h, Below.heap_setCell _ _ _ _ h, Below.heap_setCell _ _ _ _ h]
theorem OS.three {w wr : World} {R Z O : Nat} {k a b : Int} {sl : Value} {d f : Bool} {s : ByteArray} (h : OS w wr R Z O k a b sl d s f) (C i0 i1 i2 : Nat) (u0 u1 u2 : Value) (hC : O < C) : OS w (((wr.setCell ⟨C, i0, none⟩ u0).setCell ⟨C, i1, none⟩ u1).setCell ⟨C, i2, none⟩ u2) R Z O k a b sl d s f := by
  have hn := h.ne
  have e : ∀ x, x ≠ C → (((wr.setCell ⟨C, i0, none⟩ u0).setCell ⟨C, i1, none⟩ u1).setCell ⟨C, i2, none⟩ u2).heap[x]? = wr.heap[x]? := fun x hx => by
    rw [Below.heap_setCell _ _ _ _ hx, Below.heap_setCell _ _ _ _ hx, Below.heap_setCell _ _ _ _ hx]
  exact ⟨(e R (by omega)).trans h.rd, (e O (by omega)).trans h.op, (e Z (by omega)).trans h.res, kb_setCell (kb_setCell (kb_setCell h.kb (by omega) _ _) (by omega) _ _) (by omega) _ _, hn⟩
theorem kb_cell {R b i : Nat} {w w' : World} {v : Value} (k : KB R w w') (h : w.cell? ⟨b, i, none⟩ = some v) (hb : b ≠ R) : w'.cell? ⟨b, i, none⟩ = some v := by
  have := World.block_lt_of_cell? w _ h
  rw [World.cell?] at h ⊢
  rw [k.block b this hb]
  exact h
/-- a case's cells -/
def cc (x : Cs) : List Value := [.bool x.send, .int .i64 x.ch, .int .i64 x.val]
/-- cases, and empty ones behind them -/
def cfill (l : List Cs) (n : Nat) : Array Value := (l.flatMap cc ++ (List.replicate (n - l.length) (cc ⟨false, 0, 0⟩)).flatten).toArray
theorem info_case : (Try.prog.info? 58).map (fun i => (i.zero, i.size, i.bytes)) = some (some (.agg #[.bool false, .int .i64 0, .int .i64 0]), 3, 24) := by kernel_rfl
theorem made_cases (n : Nat) (hn : n ≤ 4) : madeCells #[Value.bool false, .int .i64 0, .int .i64 0] (n * 3) = cfill [] n := by
  match n, hn with
  | 0, _ =>
    apply Array.toList_inj.1
    rw [madeCells, Array.toList_map, Array.toList_range]
    rfl
  | 1, _ =>
    apply Array.toList_inj.1
    rw [madeCells, Array.toList_map, Array.toList_range]
    rfl
  | 2, _ =>
    apply Array.toList_inj.1
    rw [madeCells, Array.toList_map, Array.toList_range]
    rfl
  | 3, _ =>
    apply Array.toList_inj.1
    rw [madeCells, Array.toList_map, Array.toList_range]
    rfl
  | 4, _ =>
    apply Array.toList_inj.1
    rw [madeCells, Array.toList_map, Array.toList_range]
    rfl
theorem run_mkc (w : World) (n : Nat) (hn : n ≤ 4) : (Instr.makeSlice 22 (.int .i64 (n : Int)) (.int .i64 (n : Int))).run Try.prog w = .ok (.slice (some ⟨w.heap.size, 0, none⟩) n n) (w.alloc (.cells (cfill [] n) 58)) := by
  obtain ⟨i0, hi, hz0, hz1, hz2⟩ := info_parts info_case
  have := run_make (P := Try.prog) w 22 58 i0 (.agg #[.bool false, .int .i64 0, .int .i64 0]) Try.underlying22 hi hz0 .i64 .i64 n n (by omega) (Int.le_refl _) (by rw [hz2]; omega) (by omega)
  rw [hz1, Int.toNat_natCast] at this
  rw [← made_cases n hn]
  exact this
theorem flat_cc_len (l : List Cs) : (l.flatMap cc).length = l.length * 3 := by
  induction l with
  | nil => rfl
  | cons x t ih => simp [cc] at ih ⊢; omega
theorem flat_cc_at (l : List Cs) (R : List Value) (k : Nat) (x : Cs) (h : l[k]? = some x) : (l.flatMap cc ++ R)[k * 3]? = some (.bool x.send) ∧ (l.flatMap cc ++ R)[k * 3 + 1]? = some (.int .i64 x.ch) ∧ (l.flatMap cc ++ R)[k * 3 + 2]? = some (.int .i64 x.val) := by
  induction l generalizing k with
  | nil => simp at h
  | cons y t ih =>
    cases k with
    | zero =>
      simp at h
      subst h
      simp [cc]
    | succ k =>
      simp at h
      have := ih k h
      rw [show (k + 1) * 3 = k * 3 + 3 by omega, List.flatMap_cons, List.append_assoc]
      have e : ∀ i, (cc y ++ (t.flatMap cc ++ R))[i + 3]? = (t.flatMap cc ++ R)[i]? := fun i => by
        rw [List.getElem?_append_right (by simp [cc])]
        simp [cc]
      rw [e, show k * 3 + 3 + 1 = k * 3 + 1 + 3 by omega, e, show k * 3 + 3 + 2 = k * 3 + 2 + 3 by omega, e]
      exact this
theorem cat_fill {w : World} {b n : Nat} {l : List Cs} {t : TypeId} (h : w.heap[b]? = some (.cells (cfill l n) t (0, 0))) : CAt w (some ⟨b, 0, none⟩) l := by
  intro k x hk
  obtain ⟨q0, q1, q2⟩ := flat_cc_at l (List.replicate (n - l.length) (cc ⟨false, 0, 0⟩)).flatten k x hk
  refine ⟨b, 0, rfl, ?_, ?_, ?_⟩
  · rw [Nat.zero_add, cell_of h]; simpa [cfill] using q0
  · rw [Nat.zero_add, cell_of h]; simpa [cfill] using q1
  · rw [Nat.zero_add, cell_of h]; simpa [cfill] using q2
theorem cfill_size (l : List Cs) (n : Nat) (h : l.length ≤ n) : (cfill l n).size = n * 3 := by
  have e : ∀ q, ((List.replicate q (cc ⟨false, 0, 0⟩)).flatten).length = q * 3 := fun q => by simp [cc]
  show (l.flatMap cc ++ (List.replicate (n - l.length) (cc ⟨false, 0, 0⟩)).flatten).toArray.size = _
  rw [List.size_toArray, List.length_append, flat_cc_len, e]
  omega
theorem fill_cells {w : World} {b n j : Nat} {l : List Cs} {t : TypeId} (h : w.heap[b]? = some (.cells (cfill l n) t (0, 0))) (hl : l.length ≤ n) (hj : j < n) : ∃ v0 v1 v2, w.cell? ⟨b, j * 3, none⟩ = some v0 ∧ w.cell? ⟨b, j * 3 + 1, none⟩ = some v1 ∧ w.cell? ⟨b, j * 3 + 2, none⟩ = some v2 ∧ w.frozen? ⟨b, j * 3, none⟩ = false ∧ w.frozen? ⟨b, j * 3 + 1, none⟩ = false ∧ w.frozen? ⟨b, j * 3 + 2, none⟩ = false := by
  have hs := cfill_size l n hl
  refine ⟨(cfill l n)[j * 3], (cfill l n)[j * 3 + 1], (cfill l n)[j * 3 + 2], ?_, ?_, ?_, frozen_of h _, frozen_of h _, frozen_of h _⟩
  · rw [cell_of h]; simp
  · rw [cell_of h]; simp
  · rw [cell_of h]; simp
theorem cfill_set (l : List Cs) (n : Nat) (x : Cs) (h : l.length < n) : (((cfill l n).setIfInBounds (l.length * 3) (.bool x.send)).setIfInBounds (l.length * 3 + 1) (.int .i64 x.ch)).setIfInBounds (l.length * 3 + 2) (.int .i64 x.val) = cfill (l ++ [x]) n := by
  apply Array.toList_inj.1
  obtain ⟨q, hq⟩ : ∃ q, n - l.length = q + 1 := ⟨n - l.length - 1, by omega⟩
  have e : n - (l ++ [x]).length = q := by simp; omega
  simp only [cfill, hq, e, List.replicate_succ, Array.toList_setIfInBounds, List.flatten_cons, List.flatMap_append]
  rw [← flat_cc_len l]
  generalize l.flatMap cc = A
  generalize (List.replicate q (cc ⟨false, 0, 0⟩)).flatten = B
  simp [cc]
theorem cfill_step (s : ByteArray) (f : Bool) (j m : Nat) (h : j < m) : (((cfill (rcs s f j).1 m).setIfInBounds (j * 3) (.bool (rc (rcs s f j).2.1 (rcs s f j).2.2).1.send)).setIfInBounds (j * 3 + 1) (.int .i64 (rc (rcs s f j).2.1 (rcs s f j).2.2).1.ch)).setIfInBounds (j * 3 + 2) (.int .i64 (rc (rcs s f j).2.1 (rcs s f j).2.2).1.val) = cfill (rcs s f (j + 1)).1 m := by
  have := cfill_set (rcs s f j).1 m (rc (rcs s f j).2.1 (rcs s f j).2.2).1 (by rw [rcs_len]; exact h)
  rw [rcs_len] at this
  exact this
theorem rnum_pos (s : ByteArray) (f : Bool) : 0 ≤ (rnum s f).1 := by
  cases f
  · cases h : tk (nbs s) with
    | none => rw [rnum_n h]; exact Int.le_refl _
    | some p => obtain ⟨n, k⟩ := p; rw [rnum_s h]; exact Int.natCast_nonneg _
  · rw [rnum_t]; exact Int.le_refl _
theorem rup_bd (m : Int) (hm : 0 ≤ m) (s : ByteArray) (f : Bool) : 0 ≤ (rup m s f).1 ∧ (rup m s f).1 ≤ m := by
  have h := rnum_pos s f
  unfold rup
  cases hd : decide (m < (rnum s f).1)
  · simp at hd
    exact ⟨h, hd⟩
  · exact ⟨Int.le_refl _, hm⟩

set_option maxRecDepth 100000 in
set_option maxHeartbeats 1600000 in
theorem op_reads_f (R : Nat) (s : ByteArray) (f : Bool) (w : World) (h : RS w R s f) :
    Calls Try.prog 27 #[.pointer (some ⟨R, 0, none⟩)] w fun r w' => (∃ oa c, r = .returned (.agg #[.int .i64 (rop s f).1.kind, .int .i64 (rop s f).1.a, .int .i64 (rop s f).1.b, .slice oa (rop s f).1.cases.length c, .bool (rop s f).1.def_]) ∧ CAt w' oa (rop s f).1.cases ∧ ∀ a, oa = some a → w.heap.size ≤ a.block) ∧ RS w' R (rop s f).2.1 (rop s f).2.2 ∧ KB R w w' := by
  have hR := heap_lt h
  have H0 := hide (heap_below h (below_alloc w (.cells #[.int .i64 0, .int .i64 0, .int .i64 0, .slice none 0 0, .bool false] 24)))
  have O0 := hide (heap_new w (.cells #[.int .i64 0, .int .i64 0, .int .i64 0, .slice none 0 0, .bool false] 24))
  have B0 := hide (below_alloc w (.cells #[.int .i64 0, .int .i64 0, .int .i64 0, .slice none 0 0, .bool false] 24))
  clear h
  go_enter Try.func27, Try.ntmps27
  go_wp2_with fail
  refine (number_any R s f _ H0.out).mono ?_
  obtain ⟨k, s1, f1, hp1⟩ : ∃ k s1 f1, rnum s f = (k, s1, f1) := ⟨_, _, _, rfl⟩
  have RP := hide hp1
  rw [hp1]
  clear hp1
  rintro r w1 ⟨rfl, h1, k1⟩
  have r1 := k1.heap O0.out (by omega)
  have z1 := heap_lt r1
  have S1 : Hid (OS w (w1.alloc (.cells #[.int .i64 k, .int .i64 0, .int .i64 0, .slice none 0 0, .bool false] 24)) R w.heap.size w1.heap.size k 0 0 (.slice none 0 0) false s1 f1) :=
    ⟨heap_below h1 (below_alloc _ _), heap_new _ _, heap_below r1 (below_alloc _ _), (KB.of B0.out).trans (k1.trans (KB.of (below_alloc _ _))), hR, Nat.le_refl _, z1⟩
  clear h1 k1 r1
  go_wp2_with fail
  refine (fields_any w1.heap.size k _ (by simp)).mono ?_
  rintro r w2 ⟨rfl, hw2⟩
  have S2 : Hid (OS w w2 R w.heap.size w1.heap.size k 0 0 (.slice none 0 0) false s1 f1) := by
    show OS _ _ _ _ _ _ _ _ _ _ _ _
    rw [hw2]
    exact S1.out.below (btr (below_alloc _ _) (bdrew1 _))
  have P2 : Hid (w2.heap[w1.heap.size + 1]? = some (.cells #[.pointer (some ⟨w1.heap.size, 1, none⟩), .pointer (some ⟨w1.heap.size, 2, none⟩)] 106 (0, 0))) := by
    show _ = _
    have := heap_below (heap_new (w1.alloc (.cells #[.int .i64 k, .int .i64 0, .int .i64 0, .slice none 0 0, .bool false] 24)) (.cells #[.pointer (some ⟨w1.heap.size, 1, none⟩), .pointer (some ⟨w1.heap.size, 2, none⟩)] 106)) (bdrew1 _)
    rw [World.size_alloc] at this
    rw [hw2]
    exact this
  clear hw2 S1
  have hnf := nf_le k
  go_wp2_with fail
  go_loopw [12] (fun i wr => ∃ j : Nat, j ≤ nf k ∧ i = .int .i64 (j : Int) ∧ OS w wr R w.heap.size w1.heap.size k (rf s1 f1 j).1 (rf s1 f1 j).2.1 (.slice none 0 0) false (rf s1 f1 j).2.2.1 (rf s1 f1 j).2.2.2 ∧ wr.heap[w1.heap.size + 1]? = some (.cells #[.pointer (some ⟨w1.heap.size, 1, none⟩), .pointer (some ⟨w1.heap.size, 2, none⟩)] 106 (0, 0))) (fun i _ => nf k - (intOf i).toNat)
  case atStart => exact ⟨0, Nat.zero_le _, rfl, S2.out, P2.out⟩
  case round =>
    clear S2 P2 H0 O0 B0
    obtain ⟨j, hj, rfl, hos, hp⟩ := hrel
    by_cases hjn : j < nf k
    · have hjn' : decide ((j : Int) < (nf k : Int)) = true := by simp; omega
      by_cases hj0 : j = 0
      · subst hj0
        have pc := cell_of hp 0
        have oc := cell_of hos.op 1
        have fc := frozen_of hos.op 1
        simp at pc oc
        have S3 := hide hos
        have P3 := hide hp
        clear hos hp
        go_wp2_with fail
        refine (number_any R s1 f1 _ S3.out.rd).mono ?_
        rintro r w3 ⟨rfl, h3, k3⟩
        have S4 := hide (S3.out.reads h3 k3)
        have P4 := hide (k3.heap P3.out (by have := S3.out.ne; omega))
        have oc2 := cell_of S4.out.op 1
        have fc2 := frozen_of S4.out.op 1
        simp at oc2
        clear h3 k3
        go_wp2_with fail
        go_roundw
        case rel => exact ⟨1, by omega, by go_num, S4.out.set 1 _ rfl, (Below.heap_setCell _ _ _ _ (by show w1.heap.size + 1 ≠ w1.heap.size; omega)).trans P4.out⟩
        case measure => simp [intOf]; omega
      · have hj1 : j = 1 := by omega
        subst hj1
        have pc := cell_of hp 1
        have oc := cell_of hos.op 2
        have fc := frozen_of hos.op 2
        simp at pc oc
        have S3 := hide hos
        have P3 := hide hp
        clear hos hp
        go_wp2_with fail
        refine (number_any R (rnum s1 f1).2.1 (rnum s1 f1).2.2 _ S3.out.rd).mono ?_
        rintro r w3 ⟨rfl, h3, k3⟩
        have S4 := hide (S3.out.reads h3 k3)
        have P4 := hide (k3.heap P3.out (by have := S3.out.ne; omega))
        have oc2 := cell_of S4.out.op 2
        have fc2 := frozen_of S4.out.op 2
        simp at oc2
        clear h3 k3
        go_wp2_with fail
        go_roundw
        case rel => exact ⟨2, by omega, by go_num, S4.out.set 2 _ rfl, (Below.heap_setCell _ _ _ _ (by show w1.heap.size + 1 ≠ w1.heap.size; omega)).trans P4.out⟩
        case measure => simp [intOf]; omega
    · have hjn' : decide ((j : Int) < (nf k : Int)) = false := by simp; omega
      have e : j = nf k := by omega
      subst e
      obtain ⟨a, b, s2, f2, hp2⟩ : ∃ a b s2 f2, rf s1 f1 (nf k) = (a, b, s2, f2) := ⟨_, _, _, _, rfl⟩
      have RQ := hide hp2
      rw [hp2] at hos
      clear hp2
      have oc := cell_of hos.op 0
      simp at oc
      have S3 := hide hos
      clear hos hp
      cases h6 : k == 6
      · have oc3 := cell_of S3.out.op 3
        have oc1 := cell_of S3.out.op 1
        have oc2 := cell_of S3.out.op 2
        have oc4 := cell_of S3.out.op 4
        have rc0 := cell_of S3.out.res 0
        have rc1 := cell_of S3.out.res 1
        have rc2 := cell_of S3.out.res 2
        have rc3 := cell_of S3.out.res 3
        have rc4 := cell_of S3.out.res 4
        have rf0 := frozen_of S3.out.res 0
        have rf1 := frozen_of S3.out.res 1
        have rf2 := frozen_of S3.out.res 2
        have rf3 := frozen_of S3.out.res 3
        have rf4 := frozen_of S3.out.res 4
        simp at oc3 oc1 oc2 oc4 rc0 rc1 rc2 rc3 rc4
        have ER : Hid (rop s f = (⟨k, a, b, [], false⟩, s2, f2)) := by
          show _ = _
          simp only [rop, RP.out, RQ.out, h6, cond_false]
        go_wp2_with fail
        refine wp_loop_rounds 1 ?_
        rw [rounds_succ]
        go_wp2_with fail
        have hne := S3.out.ne
        exact bodyPost_ret (results_row1 Try.results27 _ _ _ _ rfl (loadVar_op (five_set S3.out.res _ _ _ _ _) rfl)) rfl ⟨⟨none, 0, by rw [ER.out]; rfl, by rw [ER.out]; exact CAt.nil _ _, fun a e => by cases e⟩, by rw [ER.out]; exact (five_other _ _ (by omega) _ _ _ _ _).trans S3.out.rd, kb_five S3.out.kb (by omega) _ _ _ _ _⟩
      · obtain rfl : k = 6 := by simpa using h6
        clear h6
        go_wp2_with fail
        refine (bit_reads R s2 f2 _ S3.out.rd).mono ?_
        obtain ⟨dn, s3, f3, hp3⟩ : ∃ dn s3 f3, rup 1 s2 f2 = (dn, s3, f3) := ⟨_, _, _, rfl⟩
        have RD := hide hp3
        rw [hp3]
        clear hp3
        rintro r w3 ⟨rfl, h3, k3⟩
        have S4 := hide (S3.out.reads h3 k3)
        have oc4 := cell_of S4.out.op 4
        have fc4 := frozen_of S4.out.op 4
        simp at oc4
        clear h3 k3 S3 oc
        go_wp2_with fail
        have S5 := hide (S4.out.set 4 (.bool (dn == 1)) rfl)
        refine (upTo_reads R 4 s3 f3 _ S5.out.rd).mono ?_
        have hbd := rup_bd 4 (by decide) s3 f3
        obtain ⟨n, s4, f4, hp4⟩ : ∃ n s4 f4, rup 4 s3 f3 = (n, s4, f4) := ⟨_, _, _, rfl⟩
        have RN := hide hp4
        rw [hp4] at hbd ⊢
        clear hp4
        simp only at hbd
        obtain ⟨m, rfl⟩ : ∃ m : Nat, n = (m : Int) := Int.eq_ofNat_of_zero_le hbd.1
        have hm4 : m ≤ 4 := by omega
        clear hbd
        rintro r w4 ⟨rfl, h4, k4⟩
        have S6 := hide (S5.out.reads h4 k4)
        have mk := run_mkc w4 m hm4
        have oc3 := cell_of S6.out.op 3
        have fc3 := frozen_of S6.out.op 3
        have olt := heap_lt S6.out.op
        simp at oc3
        have hsz : (w4.setCell ⟨w1.heap.size, 3, none⟩ (.slice (some ⟨w4.heap.size, 0, none⟩) m m)).heap.size = w4.heap.size := by simp [World.setCell]
        have S7 := hide ((S6.out.set 3 (.slice (some ⟨w4.heap.size, 0, none⟩) m m) rfl).below (below_alloc _ (.cells (cfill [] m) 58)))
        have C7 := hide (heap_new (w4.setCell ⟨w1.heap.size, 3, none⟩ (.slice (some ⟨w4.heap.size, 0, none⟩) m m)) (.cells (cfill [] m) 58))
        rw [hsz] at C7
        clear hsz
        clear h4 k4 S5 S4 oc4 fc4
        go_wp2_with fail
        generalize (w4.setCell ⟨w1.heap.size, 3, none⟩ (.slice (some ⟨w4.heap.size, 0, none⟩) m m)).alloc (.cells (cfill [] m) 58) = W7 at S7 C7 ⊢
        clear S6 mk oc3 fc3
        go_loopw [34] (fun i wr => ∃ j : Nat, j ≤ m ∧ i = .int .i64 (j : Int) ∧ OS w wr R w.heap.size w1.heap.size 6 a b (.slice (some ⟨w4.heap.size, 0, none⟩) m m) (dn == 1) (rcs s4 f4 j).2.1 (rcs s4 f4 j).2.2 ∧ wr.heap[w4.heap.size]? = some (.cells (cfill (rcs s4 f4 j).1 m) 58 (0, 0))) (fun i _ => m - (intOf i).toNat)
        case atStart => exact ⟨0, Nat.zero_le _, rfl, S7.out, C7.out⟩
        case round =>
          clear S7 C7
          obtain ⟨j, hj, rfl, hos, hc⟩ := hrel
          by_cases hjm : j < m
          · have hjm' : decide ((j : Int) < (m : Int)) = true := by simp; omega
            have oc3 := cell_of hos.op 3
            simp at oc3
            have S8 := hide hos
            have C8 := hide hc
            have NE : Hid (w1.heap.size ≠ R) := by show _ ≠ _; have := hos.ne; omega
            have NC : Hid (w4.heap.size ≠ R) := by show _ ≠ _; have := hos.ne; omega
            have EL : Hid ((rcs s4 f4 j).1.length = j) := rcs_len _ _ _
            clear hos hc
            go_wp2_with fail
            go_region_held3 (fun w' => w'.cell? ⟨w1.heap.size, 3, none⟩ = some (.slice (some ⟨w4.heap.size, 0, none⟩) m m))
              (first
                | go_keep
                | exact (three_other _ _ _ _ _ _ (Nat.ne_of_lt olt) _ _ _).trans (by assumption)
                | exact kb_cell k3 (by assumption) NE.out
                | exact kb_cell k2 (by assumption) NE.out
                | exact kb_cell k1 (by assumption) NE.out)
              (first
                | (go_at_call 59; refine (bit_reads R (rcs s4 f4 j).2.1 (rcs s4 f4 j).2.2 _ S8.out.rd.drew).mono ?_; rintro r w5 ⟨rfl, h1, k1⟩)
                | (go_at_call 57; refine (number_any R _ _ _ h2).mono ?_; rintro r w7 ⟨rfl, h3, k3⟩; obtain ⟨v0, v1, v2, q0, q1, q2, g0, g1, g2⟩ := fill_cells (k3.heap (k2.heap ((kb_drew k1).heap C8.out NC.out) NC.out) NC.out) (by rw [EL.out]; omega) hjm)
                | (go_at_call 57; refine (number_any R _ _ _ h1).mono ?_; rintro r w6 ⟨rfl, h2, k2⟩))
            have S9 := hide (((S8.out.below (bdrew1 _)).reads h1 k1).reads h2 k2 |>.reads h3 k3)
            have C9 := hide (k3.heap (k2.heap ((kb_drew k1).heap C8.out NC.out) NC.out) NC.out)
            clear h1 h2 h3 k1 k2 k3 q0 q1 q2 g0 g1 g2
            go_wp2_with fail
            go_roundw
            case rel =>
              first
                | exact ⟨j + 1, by omega, by go_num, S9.out.three _ _ _ _ _ _ _ olt, by
                    rw [Ba.heap_setCell_same (Ba.heap_setCell_same (Ba.heap_setCell_same C9.out _) _) _]
                    exact congrArg (fun c => some (Obj.cells c _ _)) (cfill_step s4 f4 j m hjm)⟩
                | ((repeat apply Exists.intro); exact ⟨⟨j + 1, by omega, by go_num, S9.out.three _ _ _ _ _ _ _ olt, by
                    rw [Ba.heap_setCell_same (Ba.heap_setCell_same (Ba.heap_setCell_same C9.out _) _) _]
                    exact congrArg (fun c => some (Obj.cells c _ _)) (cfill_step s4 f4 j m hjm)⟩, rfl⟩)
            case measure => simp [intOf]; omega
          · have hjm' : decide ((j : Int) < (m : Int)) = false := by simp; omega
            have e : j = m := by omega
            subst e
            have S3 := hide hos
            have C3 := hide hc
            have oc0 := cell_of S3.out.op 0
            have oc1 := cell_of S3.out.op 1
            have oc2 := cell_of S3.out.op 2
            have oc3 := cell_of S3.out.op 3
            have oc4 := cell_of S3.out.op 4
            have rc0 := cell_of S3.out.res 0
            have rc1 := cell_of S3.out.res 1
            have rc2 := cell_of S3.out.res 2
            have rc3 := cell_of S3.out.res 3
            have rc4 := cell_of S3.out.res 4
            have rf0 := frozen_of S3.out.res 0
            have rf1 := frozen_of S3.out.res 1
            have rf2 := frozen_of S3.out.res 2
            have rf3 := frozen_of S3.out.res 3
            have rf4 := frozen_of S3.out.res 4
            simp at oc0 oc3 oc1 oc2 oc4 rc0 rc1 rc2 rc3 rc4
            have ER : Hid (rop s f = (⟨6, a, b, (rcs s4 f4 j).1, dn == 1⟩, (rcs s4 f4 j).2)) := by
              show _ = _
              simp only [rop, RP.out, RQ.out, RD.out, RN.out]
              rfl
            have EL : Hid ((rcs s4 f4 j).1.length = j) := rcs_len _ _ _
            clear hos hc
            go_wp2_with fail
            have hne := S3.out.ne
            exact bodyPost_ret (results_row1 Try.results27 _ _ _ _ rfl (loadVar_op (five_set S3.out.res _ _ _ _ _) rfl)) rfl ⟨⟨some ⟨w4.heap.size, 0, none⟩, j, by rw [ER.out]; simp only [EL.out], by rw [ER.out]; exact cat_fill ((five_other _ _ (by omega) _ _ _ _ _).trans C3.out), fun a e => by cases e; show w.heap.size ≤ w4.heap.size; omega⟩, by rw [ER.out]; exact (five_other _ _ (by omega) _ _ _ _ _).trans S3.out.rd, kb_five S3.out.kb (by omega) _ _ _ _ _⟩
theorem op_reads (R : Nat) (s : ByteArray) (f : Bool) (w : World) (h : RS w R s f) :
    Calls Try.prog 27 #[.pointer (some ⟨R, 0, none⟩)] w fun r w' => (∃ oa c, r = .returned (.agg #[.int .i64 (rop s f).1.kind, .int .i64 (rop s f).1.a, .int .i64 (rop s f).1.b, .slice oa (rop s f).1.cases.length c, .bool (rop s f).1.def_]) ∧ CAt w' oa (rop s f).1.cases) ∧ RS w' R (rop s f).2.1 (rop s f).2.2 ∧ KB R w w' := by
  refine (op_reads_f R s f w h).mono ?_
  rintro r w' ⟨⟨oa, c, hr, hA, _⟩, h1, h2⟩
  exact ⟨⟨oa, c, hr, hA⟩, h1, h2⟩
end De
end Go.Proofs.Ytgnhophlnbpcgaa
