import Derived.Test.YtddchcekljndmaaGreatZjLr8
/- The reference's loom: talk, over this seat's program. -/
namespace Go.Proofs.YtddchcekljndmaaGreat
open Go.ChangeShapes Go.WideShapes Go.ChangeAt Go.RowKit
namespace Rlo
open Ba Lo

/-- what talk makes of a loom -/
def talkF (s : Lm) (g at_ : Int) (c : Ca) : Lm :=
  if Fk.tryE s.sts c ≠ 0 then panicS { s with sts := Fk.tryS s.sts c } g
  else if (Fk.tryG s.sts c).wk then wakesS (goS { s with sts := Fk.tryS s.sts c } (tryV s g at_ c (Fk.tryG s.sts c))) (servV (tryV s g at_ c (Fk.tryG s.sts c)) (Fk.tryG s.sts c))
  else goS { s with sts := Fk.tryS s.sts c } (tryV s g at_ c (Fk.tryG s.sts c))
theorem own_base {w : World} {base b2 : Nat} {e : TypeId} {size : Nat} {v : Value} {n : Nat} {xs : List Value} (h : w.ownsRow base e size v n xs) (hb : b2 ≤ base) : w.ownsRow b2 e size v n xs := by
  refine ⟨h.1, ?_⟩
  rcases h.2 with q | ⟨g, cap, cur, q1, q2, q3, q4⟩
  · exact .inl q
  · exact .inr ⟨g, cap, cur, q1, Nat.le_trans hb q2, q3, q4⟩
/-- pipes, somewhat later -/
theorem pipes_q {L N C B : Nat} {col : Nat → Nat} {FB : Nat → Prop} {q : Hd} {pa : Option Addr} {pc : Nat} {oa : Option Addr} {oc : Nat} {bs : List (Option Nat)} {Fs : Nat → Nat → Prop} {cs : List (Option St)} {ta : Option Addr} {tc : Nat} {s : Lm} (w u : World) (h : RX w col L N C B FB q pa pc oa oc bs Fs cs ta tc s) (hb : Below w.heap.size w u) :
    Calls Tryz.prog 75 #[.pointer (some ⟨L, 0, none⟩)] u fun r w' => ∃ ob d, r = .returned (.slice ob (vw s.nm bs).length d) ∧ Fk.Qs Rp.Rr w' ob (vw s.nm bs) (Fv s.nm Fs) s.sts ∧ Below u.heap.size u w' := by
  obtain ⟨colu, hu, -, -⟩ := h.below hb
  refine (pipes_r u hu).mono ?_
  rintro r w1 ⟨ob, d, rfl, o1, b1⟩
  exact ⟨ob, d, rfl, h.view (btr hb b1) (own_base o1 hb.size), b1⟩
theorem set8 {w : World} {b i z : Nat} {v u0 u1 u2 u3 u4 u5 u6 u7 : Value} (h : w.cell? ⟨b, i, none⟩ = some v) (hn : b ≠ z) : ((((((((w.setCell ⟨z, 0, none⟩ u0).setCell ⟨z, 1, none⟩ u1).setCell ⟨z, 2, none⟩ u2).setCell ⟨z, 3, none⟩ u3).setCell ⟨z, 4, none⟩ u4).setCell ⟨z, 5, none⟩ u5).setCell ⟨z, 6, none⟩ u6).setCell ⟨z, 7, none⟩ u7).cell? ⟨b, i, none⟩ = some v := by
  have K := ((((((((KB.refl z w).setCell 0 u0).setCell 1 u1).setCell 2 u2).setCell 3 u3).setCell 4 u4).setCell 5 u5).setCell 6 u6).setCell 7 u7
  rw [← h]
  have := K.block b (World.block_lt_of_cell? w _ h) hn
  simp only [World.cell?, this]
theorem heap8 {w : World} {z : Nat} {c0 c1 c2 c3 c4 c5 c6 c7 u0 u1 u2 u3 u4 u5 u6 u7 : Value} {ty : TypeId} (G : w.heap[z]? = some (.cells #[c0, c1, c2, c3, c4, c5, c6, c7] ty (0, 0))) : ((((((((w.setCell ⟨z, 0, none⟩ u0).setCell ⟨z, 1, none⟩ u1).setCell ⟨z, 2, none⟩ u2).setCell ⟨z, 3, none⟩ u3).setCell ⟨z, 4, none⟩ u4).setCell ⟨z, 5, none⟩ u5).setCell ⟨z, 6, none⟩ u6).setCell ⟨z, 7, none⟩ u7).heap[z]? = some (.cells #[u0, u1, u2, u3, u4, u5, u6, u7] ty (0, 0)) := by
  have g0 := Ba.heap_setCell_same G (i := 0) u0
  have g1 := Ba.heap_setCell_same g0 (i := 1) u1
  have g2 := Ba.heap_setCell_same g1 (i := 2) u2
  have g3 := Ba.heap_setCell_same g2 (i := 3) u3
  have g4 := Ba.heap_setCell_same g3 (i := 4) u4
  have g5 := Ba.heap_setCell_same g4 (i := 5) u5
  have g6 := Ba.heap_setCell_same g5 (i := 6) u6
  have g7 := Ba.heap_setCell_same g6 (i := 7) u7
  rw [g7]
  simp
section
variable {w w3 : World} {col col3 : Nat → Nat} {L N C B : Nat} {FB : Nat → Prop} {q : Hd} {pa : Option Addr} {pc : Nat} {oa : Option Addr} {oc : Nat} {bs : List (Option Nat)} {Fs : Nat → Nat → Prop} {cs : List (Option St)} {ta : Option Addr} {tc : Nat} {s : Lm}
/-- a new block beside it -/
theorem RX.box {Eb : Nat} {e : Obj} (h : RX w3 col3 L N C B FB q pa pc oa oc bs Fs cs ta tc s) (t : Tq col col3 w w3) (E : w3.heap[Eb]? = some e) (c : col3 Eb = 7) (cells : Array Value) (ty : TypeId) :
    ∃ col4, RX (w3.alloc (.cells cells ty)) col4 L N C B FB q pa pc oa oc bs Fs cs ta tc s ∧ Tq col col4 w (w3.alloc (.cells cells ty)) ∧ ((w3.alloc (.cells cells ty)).heap[Eb]? = some e ∧ col4 Eb = 7) ∧ (w3.alloc (.cells cells ty)).heap[w3.heap.size]? = some (.cells cells ty (0, 0)) ∧ col4 w3.heap.size = 7 := by
  obtain ⟨col4, h4, t4, n4⟩ := h.below (below_alloc w3 (.cells cells ty))
  exact ⟨col4, h4, t.trans t4, ⟨t4.heap E c, (t4.old _ (heap_lt E) (by rw [c]; omega)).trans c⟩, heap_new _ _, n4 _ (Nat.le_refl _)⟩
theorem Tq.temp {col' : Nat → Nat} {w' : World} (h : Tq col col' w w') {z : Nat} (hz : w.heap.size ≤ z) (i : Nat) (v : Value) : Tq col col' w (w'.setCell ⟨z, i, none⟩ v) := by
  have kb := (KB.refl z w').setCell i v
  exact ⟨kb.os.trans h.os, kb.tape.trans h.tape, kb.output.trans h.output, Nat.le_trans h.size kb.size, fun x hx hc => (kb.block x (Nat.lt_of_lt_of_le hx h.size) (by omega)).trans (h.block x hx hc), h.old⟩
theorem RX.kb {z : Nat} {w4 : World} (h : RX w3 col3 L N C B FB q pa pc oa oc bs Fs cs ta tc s) (kb : KB z w3 w4) (hz : col3 z = 7) : RX w4 col3 L N C B FB q pa pc oa oc bs Fs cs ta tc s :=
  h.keep ⟨kb.os, kb.tape, kb.output, kb.size, fun x hx hc => kb.block x hx (fun e => hc (by rw [e]; exact hz)), fun _ _ => rfl⟩
theorem Tq.kb {z : Nat} {w4 : World} (h : Tq col col3 w w3) (kb : KB z w3 w4) (hz : w.heap.size ≤ z) : Tq col col3 w w4 :=
  ⟨kb.os.trans h.os, kb.tape.trans h.tape, kb.output.trans h.output, Nat.le_trans h.size kb.size, fun x hx hc => (kb.block x (Nat.lt_of_lt_of_le hx h.size) (by omega)).trans (h.block x hx hc), h.old⟩
/-- its seven cells are laid -/
theorem RX.box7 {Eb Z : Nat} {e : Obj} {c0 c1 c2 c3 c4 c5 c6 : Value} {ty : TypeId} (h : RX w3 col3 L N C B FB q pa pc oa oc bs Fs cs ta tc s) (t : Tq col col3 w w3) (E : w3.heap[Eb]? = some e) (hne : Eb < Z) (hz : w.heap.size ≤ Z) (G : w3.heap[Z]? = some (.cells #[c0, c1, c2, c3, c4, c5, c6] ty (0, 0))) (cZ : col3 Z = 7) (u0 u1 u2 u3 u4 u5 u6 : Value) (W : World)
    (hW : W = ((((((w3.setCell ⟨Z, 0, none⟩ u0).setCell ⟨Z, 1, none⟩ u1).setCell ⟨Z, 2, none⟩ u2).setCell ⟨Z, 3, none⟩ u3).setCell ⟨Z, 4, none⟩ u4).setCell ⟨Z, 5, none⟩ u5).setCell ⟨Z, 6, none⟩ u6) :
    RX W col3 L N C B FB q pa pc oa oc bs Fs cs ta tc s ∧ Tq col col3 w W ∧ W.heap[Eb]? = some e ∧ W.heap[Z]? = some (.cells #[u0, u1, u2, u3, u4, u5, u6] ty (0, 0)) := by
  subst hW
  have K7 := (((((((KB.refl Z w3).setCell 0 u0).setCell 1 u1).setCell 2 u2).setCell 3 u3).setCell 4 u4).setCell 5 u5).setCell 6 u6
  refine ⟨((((((h.temp (i := 0) (v := u0) cZ).temp (i := 1) (v := u1) cZ).temp (i := 2) (v := u2) cZ).temp (i := 3) (v := u3) cZ).temp (i := 4) (v := u4) cZ).temp (i := 5) (v := u5) cZ).temp (i := 6) (v := u6) cZ, ((((((t.temp hz 0 u0).temp hz 1 u1).temp hz 2 u2).temp hz 3 u3).temp hz 4 u4).temp hz 5 u5).temp hz 6 u6, K7.heap E (by omega), ?_⟩
  have g0 := Ba.heap_setCell_same G (i := 0) u0
  have g1 := Ba.heap_setCell_same g0 (i := 1) u1
  have g2 := Ba.heap_setCell_same g1 (i := 2) u2
  have g3 := Ba.heap_setCell_same g2 (i := 3) u3
  have g4 := Ba.heap_setCell_same g3 (i := 4) u4
  have g5 := Ba.heap_setCell_same g4 (i := 5) u5
  have g6 := Ba.heap_setCell_same g5 (i := 6) u6
  rw [g6]
  simp
end
set_option maxRecDepth 100000 in
set_option maxHeartbeats 3200000 in
theorem talk_recv (L N : Nat) (col : Nat → Nat) (s : Lm) (K : Nat) (g at_ : Int) (sd : Bool) (k : Nat) (v : Int) (w : World) (h : RW w col L N s) (ok : Ok K s) (hK : K ≤ 99000) (hk : k < 8) (hsd : sd = false) :
    Calls Tryz.prog 77 #[.pointer (some ⟨L, 0, none⟩), .int .i64 g, .agg #[.bool sd, .int .i64 (k : Int), .int .i64 v], .int .i64 at_] w fun r w' => r = .returned (.tuple #[]) ∧ ∃ col', RW w' col' L N (talkF s g at_ ⟨sd, k, v⟩) ∧ Tq col col' w w' := by
  obtain ⟨C, B, FB, hd, pa, pc, oa, oc, bs, Fs, cs, ta, tc, h⟩ := h
  obtain ⟨col1, h1, t1, n1⟩ := h.below (below_alloc w (.cells #[.bool sd, .int .i64 (k : Int), .int .i64 v] 92))
  have T1 := hide t1
  have H1 := hide h1
  have E1 := hide (heap_new w (.cells #[.bool sd, .int .i64 (k : Int), .int .i64 v] 92))
  have N1 := hide (n1 w.heap.size (Nat.le_refl _))
  have hL := h.lt
  have PI := hide (fun u (hb : Below (w.alloc (.cells #[.bool sd, .int .i64 (k : Int), .int .i64 v] 92)).heap.size (w.alloc (.cells #[.bool sd, .int .i64 (k : Int), .int .i64 v] 92)) u) => pipes_q (w.alloc (.cells #[.bool sd, .int .i64 (k : Int), .int .i64 v] 92)) u H1.out hb)
  have TY := hide (fun u ob d (hq : Fk.Qs Rp.Rr u ob (vw s.nm bs) (Fv s.nm Fs) s.sts) => Fk.rtry_any ⟨sd, k, v⟩ ob (vw s.nm bs) d (Fv s.nm Fs) s.sts u hq ok.sm)
  obtain ⟨R, hR⟩ : ∃ R, talkF s g at_ ⟨sd, k, v⟩ = R := ⟨_, rfl⟩
  rw [hR]
  unfold talkF at hR
  unfold Fk.cv at TY
  have OK := hide ok
  have HSD := hide hsd
  clear h t1 h1 n1 ok hsd
  generalize Fk.tryG s.sts ⟨sd, k, v⟩ = t at TY hR
  generalize Fk.tryE s.sts ⟨sd, k, v⟩ = er at TY hR
  generalize Fk.tryS s.sts ⟨sd, k, v⟩ = sts' at TY hR
  have HR := hide hR
  clear hR
  unfold _root_.Go.Proofs.YtddchcekljndmaaGreat.Pi.gv at TY
  go_enter Tryz.func77, Tryz.ntmps77
  go_wp2_with fail
  go_region_held3 (fun w' => w'.cell? ⟨w.heap.size, 0, none⟩ = some (.bool sd) ∧ w'.cell? ⟨w.heap.size, 1, none⟩ = some (.int .i64 (k : Int)) ∧ w'.cell? ⟨w.heap.size, 2, none⟩ = some (.int .i64 v))
    (first | (go_keep; done) | (exact ⟨set7 z0 (by omega), set7 z1 (by omega), set7 z2 (by omega)⟩) | (exact ⟨y0, y1, y2⟩))
    (first
      | (go_at_call 75; refine (PI.out _ (bdrew1 _)).mono ?_; rintro r w2 ⟨ob, d, rfl, q2, b2⟩; have hb2 := btr (bdrew1 (w.alloc (.cells #[.bool sd, .int .i64 (k : Int), .int .i64 v] 92))) b2; have Y2 := hide (heap_below E1.out hb2); have y0 : w2.cell? ⟨w.heap.size, 0, none⟩ = some (.bool sd) := cell_of Y2.out 0; have y1 : w2.cell? ⟨w.heap.size, 1, none⟩ = some (.int .i64 (k : Int)) := cell_of Y2.out 1; have y2 : w2.cell? ⟨w.heap.size, 2, none⟩ = some (.int .i64 v) := cell_of Y2.out 2; have hY2 : w.heap.size < w2.heap.size := heap_lt Y2.out)
      | (go_at_call 75; refine (PI.out _ (btr (below_alloc _ _) (bdrew1 _))).mono ?_; rintro r w2 ⟨ob, d, rfl, q2, b2⟩; have hb2 := btr (btr (below_alloc (w.alloc (.cells #[.bool sd, .int .i64 (k : Int), .int .i64 v] 92)) (.cells #[.bool false, .bool false, .bool false, .int .i64 0, .int .i64 0, .int .i64 0, .int .i64 0] 169)) (bdrew1 _)) b2; have Y2 := hide (heap_below E1.out hb2); have y0 : w2.cell? ⟨w.heap.size, 0, none⟩ = some (.bool sd) := cell_of Y2.out 0; have y1 : w2.cell? ⟨w.heap.size, 1, none⟩ = some (.int .i64 (k : Int)) := cell_of Y2.out 1; have y2 : w2.cell? ⟨w.heap.size, 2, none⟩ = some (.int .i64 v) := cell_of Y2.out 2; have hY2 : w.heap.size < w2.heap.size := heap_lt Y2.out; have G2 := hide (heap_below (En.heap_new2 w (.cells #[.bool sd, .int .i64 (k : Int), .int .i64 v] 92) (.cells #[.bool false, .bool false, .bool false, .int .i64 0, .int .i64 0, .int .i64 0, .int .i64 0] 169)) (btr (bdrew1 _) b2)))
      | (go_at_call 104; have G2x := G2; refine (TY.out _ ob d q2).mono ?_; rintro r w3 ⟨rfl, p3⟩; obtain ⟨Fs3, cs3, col3, h3, t3, m3⟩ := H1.out.back hb2 p3; have E3 := hide (t3.heap E1.out N1.out); have z0 : w3.cell? ⟨w.heap.size, 0, none⟩ = some (.bool sd) := cell_of E3.out 0; have z1 : w3.cell? ⟨w.heap.size, 1, none⟩ = some (.int .i64 (k : Int)) := cell_of E3.out 1; have z2 : w3.cell? ⟨w.heap.size, 2, none⟩ = some (.int .i64 v) := cell_of E3.out 2; have hE3 : w.heap.size < w3.heap.size := heap_lt E3.out; have G3 := hide ((m3 (w.heap.size + 1) (by rw [World.size_alloc]; omega) (heap_lt G2.out)).2.trans G2.out); have g0 := cell_of G3.out 0; have f0 := frozen_of G3.out 0; have g1 := cell_of G3.out 1; have f1 := frozen_of G3.out 1; have g2 := cell_of G3.out 2; have f2 := frozen_of G3.out 2; have g3 := cell_of G3.out 3; have f3 := frozen_of G3.out 3; have g4 := cell_of G3.out 4; have f4 := frozen_of G3.out 4; have g5 := cell_of G3.out 5; have f5 := frozen_of G3.out 5; have g6 := cell_of G3.out 6; have f6 := frozen_of G3.out 6; simp at g0 g1 g2 g3 g4 g5 g6)
      | (go_at_call 104; refine (TY.out (w2.alloc (.cells #[.bool false, .bool false, .bool false, .int .i64 0, .int .i64 0, .int .i64 0, .int .i64 0] 169)) ob d (q2.below Fk.frR (below_alloc _ _))).mono ?_; rintro r w3 ⟨rfl, p3⟩; obtain ⟨Fs3, cs3, col3, h3, t3, m3⟩ := H1.out.back (btr hb2 (below_alloc _ _)) p3; have E3 := hide (t3.heap E1.out N1.out); have z0 : w3.cell? ⟨w.heap.size, 0, none⟩ = some (.bool sd) := cell_of E3.out 0; have z1 : w3.cell? ⟨w.heap.size, 1, none⟩ = some (.int .i64 (k : Int)) := cell_of E3.out 1; have z2 : w3.cell? ⟨w.heap.size, 2, none⟩ = some (.int .i64 v) := cell_of E3.out 2; have hE3 : w.heap.size < w3.heap.size := heap_lt E3.out; have G3 := hide ((m3 w2.heap.size hb2.size (by rw [World.size_alloc]; omega)).2.trans (heap_new w2 (.cells #[.bool false, .bool false, .bool false, .int .i64 0, .int .i64 0, .int .i64 0, .int .i64 0] 169))); have g0 := cell_of G3.out 0; have f0 := frozen_of G3.out 0; have g1 := cell_of G3.out 1; have f1 := frozen_of G3.out 1; have g2 := cell_of G3.out 2; have f2 := frozen_of G3.out 2; have g3 := cell_of G3.out 3; have f3 := frozen_of G3.out 3; have g4 := cell_of G3.out 4; have f4 := frozen_of G3.out 4; have g5 := cell_of G3.out 5; have f5 := frozen_of G3.out 5; have g6 := cell_of G3.out 6; have f6 := frozen_of G3.out 6; simp at g0 g1 g2 g3 g4 g5 g6)
      | (go_at_call 104; refine (TY.out _ ob d q2).mono ?_; rintro r w3 ⟨rfl, p3⟩; obtain ⟨Fs3, cs3, col3, h3, t3, m3⟩ := H1.out.back hb2 p3; have E3 := hide (t3.heap E1.out N1.out); have z0 : w3.cell? ⟨w.heap.size, 0, none⟩ = some (.bool sd) := cell_of E3.out 0; have z1 : w3.cell? ⟨w.heap.size, 1, none⟩ = some (.int .i64 (k : Int)) := cell_of E3.out 1; have z2 : w3.cell? ⟨w.heap.size, 2, none⟩ = some (.int .i64 v) := cell_of E3.out 2; have hE3 : w.heap.size < w3.heap.size := heap_lt E3.out))
  case' _ =>
    have N3 : Hid (col3 w.heap.size = 7) := (t3.old _ (heap_lt E1.out) (by rw [N1.out]; omega)).trans N1.out
    obtain ⟨col4, h4, t4, ⟨e4, n4⟩, g4, c4⟩ := h3.box (T1.out.trans t3) E3.out N3.out #[.bool t.rd, .bool t.ok, .bool t.wk, .int .i64 t.v, .int .i64 t.m.g, .int .i64 t.m.c, .int .i64 t.m.v] 169
    have H4 := hide h4
    have T4 := hide t4
    have E4 := hide e4
    have N4 := hide n4
    have G4 := hide g4
    have C4 := hide c4
    have hne : w.heap.size < w3.heap.size := hE3
    rename_i hH2
    clear hH2 m3 p3 h3 t3 h4 t4 e4 n4 g4 c4 z0 z1 z2 hE3 T1 H1 E1 E3 N1 N3 TY PI q2 b2 hb2 Y2 y0 y1 y2 hY2
    generalize w3.heap.size = Gb at *
    generalize w3.alloc (.cells #[.bool t.rd, .bool t.ok, .bool t.wk, .int .i64 t.v, .int .i64 t.m.g, .int .i64 t.m.c, .int .i64 t.m.v] 169) = w4 at *
  rotate_left
  case' _ =>
    have N4 : Hid (col3 w.heap.size = 7) := (t3.old _ (heap_lt E1.out) (by rw [N1.out]; omega)).trans N1.out
    have C4 := hide (m3 w2.heap.size hb2.size (by rw [World.size_alloc]; omega)).1
    obtain ⟨w4, hW⟩ : ∃ w4, w4 = ((((((w3.setCell ⟨w2.heap.size, 0, none⟩ (.bool t.rd)).setCell ⟨w2.heap.size, 1, none⟩ (.bool t.ok)).setCell ⟨w2.heap.size, 2, none⟩ (.bool t.wk)).setCell ⟨w2.heap.size, 3, none⟩ (.int .i64 t.v)).setCell ⟨w2.heap.size, 4, none⟩ (.int .i64 t.m.g)).setCell ⟨w2.heap.size, 5, none⟩ (.int .i64 t.m.c)).setCell ⟨w2.heap.size, 6, none⟩ (.int .i64 t.m.v) := ⟨_, rfl⟩
    obtain ⟨h4, t4, e4, gg⟩ := h3.box7 (T1.out.trans t3) E3.out hY2 (by omega) G3.out C4.out (.bool t.rd) (.bool t.ok) (.bool t.wk) (.int .i64 t.v) (.int .i64 t.m.g) (.int .i64 t.m.c) (.int .i64 t.m.v) w4 hW
    rw [← hW]
    have H4 := hide h4
    have T4 := hide t4
    have E4 := hide e4
    have G4 := hide gg
    have hne : w.heap.size < w2.heap.size := hY2
    rename_i hH2
    clear hH2 hW m3 p3 h3 t3 h4 t4 e4 gg z0 z1 z2 hE3 T1 H1 E1 E3 N1 TY PI q2 b2 hb2 Y2 y0 y1 y2 hY2 G3 g0 g1 g2 g3 g4 g5 g6 f0 f1 f2 f3 f4 f5 f6
    generalize w2.heap.size = Gb at *
    generalize col3 = col4 at *
  rotate_left
  case' _ =>
    have N4 : Hid (col3 w.heap.size = 7) := (t3.old _ (heap_lt E1.out) (by rw [N1.out]; omega)).trans N1.out
    have C4 := hide (m3 (w.heap.size + 1) (by rw [World.size_alloc]; omega) (heap_lt G2.out)).1
    obtain ⟨w4, hW⟩ : ∃ w4, w4 = ((((((w3.setCell ⟨w.heap.size + 1, 0, none⟩ (.bool t.rd)).setCell ⟨w.heap.size + 1, 1, none⟩ (.bool t.ok)).setCell ⟨w.heap.size + 1, 2, none⟩ (.bool t.wk)).setCell ⟨w.heap.size + 1, 3, none⟩ (.int .i64 t.v)).setCell ⟨w.heap.size + 1, 4, none⟩ (.int .i64 t.m.g)).setCell ⟨w.heap.size + 1, 5, none⟩ (.int .i64 t.m.c)).setCell ⟨w.heap.size + 1, 6, none⟩ (.int .i64 t.m.v) := ⟨_, rfl⟩
    obtain ⟨h4, t4, e4, gg⟩ := h3.box7 (T1.out.trans t3) E3.out (by omega) (by omega) G3.out C4.out (.bool t.rd) (.bool t.ok) (.bool t.wk) (.int .i64 t.v) (.int .i64 t.m.g) (.int .i64 t.m.c) (.int .i64 t.m.v) w4 hW
    rw [← hW]
    have H4 := hide h4
    have T4 := hide t4
    have E4 := hide e4
    have G4 := hide gg
    have hne : w.heap.size < w.heap.size + 1 := by omega
    rename_i hH2
    clear hH2 hW m3 p3 h3 t3 h4 t4 e4 gg z0 z1 z2 hE3 T1 H1 E1 E3 N1 TY PI q2 b2 hb2 Y2 y0 y1 y2 hY2 G2 G2x G3 g0 g1 g2 g3 g4 g5 g6 f0 f1 f2 f3 f4 f5 f6
    generalize w.heap.size + 1 = Gb at *
    generalize col3 = col4 at *
  all_goals
    have c0 : w4.cell? ⟨w.heap.size, 0, none⟩ = some (.bool sd) := cell_of E4.out 0
    have c1 : w4.cell? ⟨w.heap.size, 1, none⟩ = some (.int .i64 (k : Int)) := cell_of E4.out 1
    have c2 : w4.cell? ⟨w.heap.size, 2, none⟩ = some (.int .i64 v) := cell_of E4.out 2
    have hR := HR.out
    by_cases h0 : er = 0
    · subst h0
      rw [if_neg (by simp)] at hR
      have q1 : w4.cell? ⟨Gb, 1, none⟩ = some (.bool t.ok) := cell_of G4.out 1
      have q3 : w4.cell? ⟨Gb, 3, none⟩ = some (.int .i64 t.v) := cell_of G4.out 3
      have nu : w4.cell? ⟨L, 8 + k, none⟩ = some (.int .i64 (nth s.nm k)) := H4.out.num hk
      have k0 : (0 : Int) ≤ (k : Int) := by omega
      have k8 : (k : Int) < 8 := by omega
      have ne1 := World.new_ne w4 _ c1
      have ne2 := World.new_ne w4 _ nu
      have ne3 := World.new_ne w4 _ q3
      have ne4 := World.new_ne w4 _ q1
      clear HR
      go_wp2_with fail
      go_region_held3 (fun w' => w'.cell? ⟨w.heap.size, 1, none⟩ = some (.int .i64 (k : Int)) ∧ w'.cell? ⟨L, 8 + k, none⟩ = some (.int .i64 (nth s.nm k)) ∧ w'.cell? ⟨Gb, 3, none⟩ = some (.int .i64 t.v) ∧ w'.cell? ⟨Gb, 1, none⟩ = some (.bool t.ok))
          (go_keep)
          (fail)
      obtain ⟨col5, h5, t5, n5⟩ := H4.out.below (btr (below_alloc w4 (.cells #[.int .i64 4, .int .i64 g, .int .i64 (nth s.nm k), .int .i64 at_, .int .i64 t.v, .int .i64 (-1), .bool false, .bool t.ok] 66)) (bdrew1 _))
      have V5 := hide (heap_below (heap_new w4 (.cells #[.int .i64 4, .int .i64 g, .int .i64 (nth s.nm k), .int .i64 at_, .int .i64 t.v, .int .i64 (-1), .bool false, .bool t.ok] 66)) (bdrew1 _))
      have C5 := hide (n5 w4.heap.size (Nat.le_refl _))
      have G5 := hide (t5.heap G4.out C4.out)
      have D5 : Hid (col5 Gb = 7) := (t5.old _ (heap_lt G4.out) (by rw [C4.out]; omega)).trans C4.out
      have E5 := hide (t5.heap E4.out N4.out)
      have NC5 : Hid (col5 w.heap.size = 7) := (t5.old _ (heap_lt E4.out) (by rw [N4.out]; omega)).trans N4.out
      have T5 := hide (T4.out.trans t5)
      have H5 := hide h5
      have hG4 := heap_lt G4.out
      have hz5 : w.heap.size ≤ w4.heap.size := by omega
      have hne4 : w.heap.size ≠ w4.heap.size := by omega
      have hne5 : Gb ≠ w4.heap.size := by omega
      rename_i hH3
      clear hH3 h5 t5 n5 H4 T4 E4 N4 G4 C4 c0 c1 c2 q1 q3 nu ne1 ne2 ne3 ne4 hG4
      generalize (w4.alloc (.cells #[.int .i64 4, .int .i64 g, .int .i64 (nth s.nm k), .int .i64 at_, .int .i64 t.v, .int .i64 (-1), .bool false, .bool t.ok] 66)).drew = w5 at *
      generalize w4.heap.size = Eb at *
      have c0 : w5.cell? ⟨w.heap.size, 0, none⟩ = some (.bool sd) := cell_of E5.out 0
      have c1 : w5.cell? ⟨w.heap.size, 1, none⟩ = some (.int .i64 (k : Int)) := cell_of E5.out 1
      have c2 : w5.cell? ⟨w.heap.size, 2, none⟩ = some (.int .i64 v) := cell_of E5.out 2
      have q2 : w5.cell? ⟨Gb, 2, none⟩ = some (.bool t.wk) := cell_of G5.out 2
      have q4 : w5.cell? ⟨Gb, 4, none⟩ = some (.int .i64 t.m.g) := cell_of G5.out 4
      have v0 := cell_of V5.out 0
      have v1 := cell_of V5.out 1
      have v2 := cell_of V5.out 2
      have v3 := cell_of V5.out 3
      have v4 := cell_of V5.out 4
      have v5 := cell_of V5.out 5
      have v6 := cell_of V5.out 6
      have v7 := cell_of V5.out 7
      have e0 := frozen_of V5.out 0
      have e1 := frozen_of V5.out 1
      have e2 := frozen_of V5.out 2
      have e3 := frozen_of V5.out 3
      have e4 := frozen_of V5.out 4
      have e5 := frozen_of V5.out 5
      have e6 := frozen_of V5.out 6
      have e7 := frozen_of V5.out 7
      simp at v0 v1 v2 v3 v4 v5 v6 v7
      cases sd
      · cases hw : t.wk
        · have hv : tryV s g at_ ⟨false, k, v⟩ t = (⟨4, g, nth s.nm k, at_, t.v, (-1), false, t.ok⟩ : Ev) := by simp [tryV, num, hw]
          rw [hw] at hR q2
          rw [hv] at hR
          have NO := hide (note_any L N col5 _ (⟨4, g, nth s.nm k, at_, t.v, (-1), false, t.ok⟩ : Ev) _ H5.out.lw (by have := OK.out.tn; show s.tr.length ≤ _; omega))
          unfold En.evv En.evc at NO
          go_wp2_with fail
          refine NO.out.mono ?_
          rintro r w7 ⟨rfl, col7, h7, t7⟩
          obtain ⟨C7, B7, FB7, hd7, pa7, pc7, oa7, oc7, bs7, Fs7, cs7, ta7, tc7, h7⟩ := h7
          have T7 := hide (T5.out.trans t7)
          have G7 := hide (t7.heap G5.out D5.out)
          have D7 : Hid (col7 Gb = 7) := (t7.old _ (heap_lt G5.out) (by rw [D5.out]; omega)).trans D5.out
          have y6 := cell_of h7.hp 6
          simp [rcs] at y6
          have GO := hide (Cr.rturn00 B7 FB7 s.cr K g w7 h7.cr OK.out.cb (by omega))
          have H7 := hide h7
          clear NO h7 t7 v0 v1 v2 v3 v4 v5 v6 v7 e5 q2 q4
          go_wp2_with fail
          refine GO.out.mono ?_
          rintro r w8 ⟨rfl, p8⟩
          obtain ⟨FB8, col8, h8, t8⟩ := H7.out.crew p8
          have H8 := hide h8
          have T8 := hide (T7.out.trans t8)
          have G8 := hide (t8.heap G7.out D7.out)
          have x2 : w8.cell? ⟨Gb, 2, none⟩ = some (.bool t.wk) := cell_of G8.out 2
          rw [hw] at x2
          clear GO h8 t8 p8 H7 T7
          go_wp2_with fail
          simp only [Bool.false_eq_true, if_false] at hR
          subst hR
          exact bodyPost_ret (results_none rfl _ _ _) rfl ⟨rfl, col8, H8.out.lw, T8.out⟩
        · have hv : tryV s g at_ ⟨false, k, v⟩ t = (⟨4, g, nth s.nm k, at_, t.v, t.m.g, false, t.ok⟩ : Ev) := by simp [tryV, num, hw]
          rw [hw] at hR q2
          rw [hv] at hR
          have V6 := hide (Ba.heap_setCell_same V5.out (i := 5) (.int .i64 t.m.g))
          have K6 := (KB.refl Eb w5).setCell 5 (.int .i64 t.m.g)
          have H6 := hide (H5.out.kb K6 C5.out)
          have T6 := hide (T5.out.kb K6 hz5)
          have G6 := hide (K6.heap G5.out hne5)
          have E6 := hide (K6.heap E5.out hne4)
          have F5 : Hid (col5 w.heap.size = 7) := NC5.out
          have NO := hide (note_any L N col5 _ (⟨4, g, nth s.nm k, at_, t.v, t.m.g, false, t.ok⟩ : Ev) _ H6.out.lw (by have := OK.out.tn; show s.tr.length ≤ _; omega))
          unfold En.evv En.evc at NO
          clear K6
          go_wp2_with fail
          refine NO.out.mono ?_
          rintro r w7 ⟨rfl, col7, h7, t7⟩
          obtain ⟨C7, B7, FB7, hd7, pa7, pc7, oa7, oc7, bs7, Fs7, cs7, ta7, tc7, h7⟩ := h7
          have T7 := hide (T6.out.trans t7)
          have G7 := hide (t7.heap G6.out D5.out)
          have D7 : Hid (col7 Gb = 7) := (t7.old _ (heap_lt G6.out) (by rw [D5.out]; omega)).trans D5.out
          have V7 := hide (t7.heap V6.out C5.out)
          have C7' : Hid (col7 Eb = 7) := (t7.old _ (heap_lt V6.out) (by rw [C5.out]; omega)).trans C5.out
          have E7 := hide (t7.heap E6.out F5.out)
          have F7 : Hid (col7 w.heap.size = 7) := (t7.old _ (heap_lt E6.out) (by rw [F5.out]; omega)).trans F5.out
          have y6 := cell_of h7.hp 6
          simp [rcs] at y6
          have GO := hide (Cr.rturn00 B7 FB7 s.cr K g w7 h7.cr OK.out.cb (by omega))
          have H7 := hide h7
          clear NO h7 t7 v0 v1 v2 v3 v4 v5 v6 v7 e0 e1 e2 e3 e4 e5 e6 e7 q2 q4 H5 H6 T6 G6 V6 E6 c0 c1 c2
          go_wp2_with fail
          refine GO.out.mono ?_
          rintro r w8 ⟨rfl, p8⟩
          obtain ⟨FB8, col8, h8, t8⟩ := H7.out.crew p8
          have H8 := hide h8
          have T8 := hide (T7.out.trans t8)
          have G8 := hide (t8.heap G7.out D7.out)
          have V8 := hide (t8.heap V7.out C7'.out)
          have E8 := hide (t8.heap E7.out F7.out)
          have x2 : w8.cell? ⟨Gb, 2, none⟩ = some (.bool t.wk) := cell_of G8.out 2
          rw [hw] at x2
          have x4 : w8.cell? ⟨Gb, 4, none⟩ = some (.int .i64 t.m.g) := cell_of G8.out 4
          have x5 : w8.cell? ⟨Gb, 5, none⟩ = some (.int .i64 t.m.c) := cell_of G8.out 5
          have x6 : w8.cell? ⟨Gb, 6, none⟩ = some (.int .i64 t.m.v) := cell_of G8.out 6
          have z2 : w8.cell? ⟨Eb, 2, none⟩ = some (.int .i64 (nth s.nm k)) := cell_of V8.out 2
          have s0 : w8.cell? ⟨w.heap.size, 0, none⟩ = some (.bool false) := cell_of E8.out 0
          have s2 : w8.cell? ⟨w.heap.size, 2, none⟩ = some (.int .i64 v) := cell_of E8.out 2
          have WK := hide (wake_any L N col8 _ (K + 1) (servV (⟨4, g, nth s.nm k, at_, t.v, t.m.g, false, t.ok⟩ : Ev) t) w8 H8.out.lw (Cr.Bn.ch OK.out.cb g 0 0 1 (by omega) (by omega)) (by omega) (by have := OK.out.tn; show (s.tr ++ _).length ≤ _; simp; omega) OK.out.md.2)
          unfold En.evv En.evc servV at WK
          clear GO h8 t8 p8 H7 T7 G7 V7 E7 G8 V8 E8 D7 C7' F7 y6
          go_wp2_with fail
          refine WK.out.mono ?_
          rintro r w9 ⟨rfl, col9, h9, t9⟩
          have H9 := hide h9
          have T9 := hide (T8.out.trans t9)
          clear h9 t9 WK
          go_wp2_with fail
          go_end0
          simp only [if_true] at hR
          subst hR
          exact ⟨rfl, col9, H9.out, T9.out⟩
      · cases HSD.out
    · rw [if_pos h0] at hR
      subst hR
      have h0' : (er != 0) = true := by simp [h0]
      have PN := hide (panics_any L N col4 _ g w4 H4.out.lw (by have := OK.out.tn; show s.tr.length ≤ _; omega))
      clear HR H4
      go_wp2_with fail
      refine PN.out.mono ?_
      rintro r w5 ⟨rfl, col5, h5, t5⟩
      have H5 := hide h5
      have T5 := hide (T4.out.trans t5)
      clear h5 t5 PN
      go_wp2_with fail
      exact bodyPost_ret (results_none rfl _ _ _) rfl ⟨rfl, col5, H5.out, T5.out⟩
end Rlo
end Go.Proofs.YtddchcekljndmaaGreat
/- Package pipe: Close, and that the lists it answers lie apart from what the channel has then. -/
namespace Go.Proofs.YtddchcekljndmaaGreat
open Go.ChangeShapes Go.WideShapes Go.ChangeAt Go.RowKit
namespace Pi
open Ba Pe

theorem wat_lt {w : World} {oa : Option Addr} {l : List Wt} (h : WAt w oa l) : 0 < l.length → ∀ a, oa = some a → a.block < w.heap.size := by
  intro h0 a e
  obtain ⟨b, off, e2, hc, _⟩ := h 0 l[0] (List.getElem?_eq_getElem h0)
  rw [e] at e2
  cases e2
  exact World.block_lt_of_cell? w _ hc
set_option maxRecDepth 100000 in
set_option maxHeartbeats 3200000 in
theorem close_apart (B : Nat) (F : Nat → Prop) (st : St) (w : World) (h : Pp w B F st) (hc : st.closed = false) :
    Calls Tryz.prog 98 #[.pointer (some ⟨B, 0, none⟩)] w fun r w' => ∃ oa ca ob cb, r = .returned (.tuple #[.slice oa st.rcv.length ca, .slice ob st.snd.length cb, .int .i64 0]) ∧ (WAt w' oa st.rcv ∧ WAt w' ob st.snd ∧ (∀ a, oa = some a → w.heap.size ≤ a.block) ∧ ∀ a, ob = some a → w.heap.size ≤ a.block) ∧ KF F w w' ∧ ∃ F', Nw F' F w ∧ Pp w' B F' { st with snd := [], rcv := [], closed := true } ∧ (0 < st.rcv.length → ∀ a, oa = some a → ¬ F' a.block) ∧ (0 < st.snd.length → ∀ a, ob = some a → ¬ F' a.block) := by
  obtain ⟨R, S, Q, FS, FQ, h⟩ := h
  have hB := h.bd B h.fb
  have FB := hide h.fb
  have BDF := hide h.bd
  have y5 : w.cell? ⟨B, 5, none⟩ = some (.bool false) := (cell_of h.hp 5).trans (by rw [hc]; rfl)
  have y1 : w.cell? ⟨B, 1, none⟩ = some (.pointer (some ⟨S, 0, none⟩)) := cell_of h.hp 1
  have y2 : w.cell? ⟨B, 2, none⟩ = some (.pointer (some ⟨Q, 0, none⟩)) := cell_of h.hp 2
  have P1 := hide (h.below (bdrew1 w))
  have LQ := hide (list_new Q _ _ P1.out.pq.pw)
  have LS := hide fun u hb => list_new S st.snd u (P1.out.ps.pw.below (w' := u) hb)
  clear h hc
  go_enter Tryz.func98, Tryz.ntmps98
  go_wp2_with fail
  go_region_held3 (fun w' => w'.cell? ⟨B, 1, none⟩ = some (.pointer (some ⟨S, 0, none⟩)) ∧ w'.cell? ⟨B, 2, none⟩ = some (.pointer (some ⟨Q, 0, none⟩)))
    (first
      | go_keep
      | (go_split_ands
         first
           | (refine ⟨?_, ?_⟩ <;> (refine cellB ?_ k2; assumption))
           | (refine ⟨?_, ?_⟩ <;> (refine cellB ?_ k1; assumption))))
    (first
      | (go_at_call_of 122 (Value.pointer (some ⟨Q, 0, none⟩)); refine LQ.out.mono ?_; rintro r z1 ⟨oa, ca, rfl, at1, k1, n1⟩)
      | (go_at_call_of 122 (Value.pointer (some ⟨S, 0, none⟩)); refine (LS.out _ k1).mono ?_; rintro r z2 ⟨ob, cb, rfl, at2, k2, n2⟩))
  have P2 := hide (P1.out.below (btr k1 k2))
  have B2 := hide (btr (bdrew1 w) (btr k1 k2))
  have AQ := hide (at1.below k2)
  have AS := hide at2
  have NQ : Hid (∀ a, oa = some a → w.heap.size ≤ a.block) := n1
  have NS : Hid (∀ a, ob = some a → w.heap.size ≤ a.block) := fun a e => Nat.le_trans (btr (bdrew1 w) k1).size (n2 a e)
  have LQ2 : Hid (0 < st.rcv.length → ∀ a, oa = some a → a.block < z2.heap.size) := wat_lt (at1.below k2)
  have LS2 : Hid (0 < st.snd.length → ∀ a, ob = some a → a.block < z2.heap.size) := wat_lt at2
  clear k1 k2 at1 at2 n1 n2 y1 y2 y5 P1 LQ LS
  go_wp2_with fail
  refine (new_any _).mono ?_
  rintro r w3 ⟨rfl, p3, b3⟩
  have p3' := hide p3
  have b3' := hide b3
  clear p3 b3
  go_wp2_with fail
  refine (new_any _).mono ?_
  rintro r w4 ⟨rfl, p4, b4⟩
  have P4 := hide (P2.out.below (btr b3'.out b4))
  have QN := hide (p3'.out.below b4)
  have SN := hide p4
  have B4 := hide (btr B2.out (btr b3'.out b4))
  have AQ4 := hide (AQ.out.below (btr b3'.out b4))
  have AS4 := hide (AS.out.below (btr b3'.out b4))
  have z3 := p3'.out.lt
  have z4 := B2.out.size
  clear p4 b4 p3' b3' P2 AQ AS B2
  have e1 : w4.cell? ⟨B, 1, none⟩ = some (.pointer (some ⟨S, 0, none⟩)) := cell_of P4.out.hp 1
  have e2 : w4.cell? ⟨B, 2, none⟩ = some (.pointer (some ⟨Q, 0, none⟩)) := cell_of P4.out.hp 2
  have e5 : w4.cell? ⟨B, 5, none⟩ = some (.bool st.closed) := cell_of P4.out.hp 5
  have f1 := frozen_of P4.out.hp 1
  have f2 := frozen_of P4.out.hp 2
  have f5 := frozen_of P4.out.hp 5
  go_wp2_with fail
  go_ret3
  have NB : ∀ k, w.heap.size ≤ k → ¬ F k := fun k hk e => by have := BDF.out k e; omega
  have PN := P4.out.anew SN.out QN.out (NB _ (by omega)) (NB _ (by omega)) (by omega)
  have KN : KF F w4 (((w4.setCell ⟨B, 2, none⟩ (.pointer (some ⟨z2.heap.size, 0, none⟩))).setCell ⟨B, 1, none⟩ (.pointer (some ⟨w3.heap.size, 0, none⟩))).setCell ⟨B, 5, none⟩ (.bool true)) := (((KF.refl F w4).set FB.out 2 _).set FB.out 1 _).set FB.out 5 _
  refine ⟨oa, ca, ob, cb, rfl, ⟨AQ4.out.kf KN (fun a e => NB _ (NQ.out a e)), AS4.out.kf KN (fun a e => NB _ (NS.out a e)), NQ.out, NS.out⟩, (KF.of (F := F) B4.out).trans KN (Nw.refl _ _), _, ?_, PN.pp, fun h0 a e hf => ?_, fun h0 a e hf => ?_⟩
  · intro k hk
    rcases hk with q | q | q
    · exact .inl q
    · exact .inr (by omega)
    · exact .inr (by omega)
  · have l1 := LQ2.out h0 a e
    have l2 := NQ.out a e
    rcases hf with q | q | q
    · exact NB _ l2 q
    · omega
    · omega
  · have l1 := LS2.out h0 a e
    have l2 := NS.out a e
    rcases hf with q | q | q
    · exact NB _ l2 q
    · omega
    · omega
end Pi
end Go.Proofs.YtddchcekljndmaaGreat
/- A loom does a send or receive alone, or has the goroutine wait, over this seat's program. -/
namespace Go.Proofs.YtddchcekljndmaaGreat
open Go.ChangeShapes Go.WideShapes Go.ChangeAt Go.RowKit
namespace Lo
open Ba

theorem tryF_not {s : Lm} {g at_ : Int} {c : Ca} (h : (tryF s g at_ c).done = false) (_ : (tryF s g at_ c).fine = true) : (tryF s g at_ c).s = { s with sts := Fk.tryS s.sts c } := by
  unfold tryF at h ⊢
  split
  · rfl
  · rename_i h1
    rw [if_neg h1] at h
    split at h <;> cases h
theorem nm_at {α : Type} {l : List (Option α)} {k : Nat} {o : Option α} (h : l[k]? = some o) : Fk.nmB l (k : Int) = o := by
  have hl : k < l.length := (List.getElem?_eq_some_iff.1 h).1
  unfold Fk.nmB
  rw [if_neg (by omega), Int.toNat_natCast, h]
  rfl
section
variable {w : World} {col : Nat → Nat} {L N C B X : Nat} {FB : Nat → Prop} {pa : Option Addr} {pc : Nat} {bs : List (Option Nat)} {Fs : Nat → Nat → Prop} {ta : Option Addr} {tc : Nat} {s : Lm}
/-- one waits at a channel, if there is one -/
theorem wait_at (h : LX w col L N C B X FB pa pc bs Fs ta tc s) {k : Nat} {o : Option Nat} (ho : bs[k]? = some o) (sd : Bool) (g v : Int) :
    Calls Tryz.prog 96 #[Pe.pt o, .bool sd, .agg #[.int .i64 g, .int .i64 (-1), .int .i64 v]] w fun r w' => (∃ x, r = .returned (.int .i64 x)) ∧ ∃ Fs' col', LX w' col' L N C B X FB pa pc bs Fs' ta tc { s with sts := waitN s.sts ⟨sd, k, v⟩ g } ∧ Tr col col' w w' := by
  cases o with
  | none =>
    have e := h.qs.non k ho
    have e2 : waitN s.sts ⟨sd, k, v⟩ g = s.sts := by unfold waitN; simp only; rw [nm_at e]
    rw [e2]
    refine (_root_.Go.Proofs.YtddchcekljndmaaGreat.Pi.wait_nil sd ⟨g, -1, v⟩ w).mono ?_
    rintro r w1 ⟨rfl, b1⟩
    obtain ⟨col1, h1, t1, -⟩ := h.below b1
    exact ⟨⟨_, rfl⟩, Fs, col1, h1, t1⟩
  | some B1 =>
    obtain ⟨st, e, q⟩ := h.qs.one k B1 ho
    have e2 : waitN s.sts ⟨sd, k, v⟩ g = s.sts.set k (some (_root_.Go.Proofs.YtddchcekljndmaaGreat.Pi.waitS st sd ⟨g, -1, v⟩)) := by unfold waitN; simp only; rw [nm_at e]; simp
    rw [e2]
    refine (_root_.Go.Proofs.YtddchcekljndmaaGreat.Pi.wait_any B1 (Fs k) st sd ⟨g, -1, v⟩ w q).mono ?_
    rintro r w1 ⟨rfl, kf, F1, nw, p1⟩
    obtain ⟨Fs1, col1, h1, t1⟩ := h.pipes (Fk.Rz.step Fk.frP h.qs (Below.refl _ _) ho kf nw p1)
    exact ⟨⟨_, rfl⟩, Fs1, col1, h1, t1⟩
end
set_option maxRecDepth 100000 in
set_option maxHeartbeats 3200000 in
theorem alone_any (L : Nat) (col : Nat → Nat) (s : Lm) (K : Nat) (g : Int) (sd : Bool) (k : Nat) (v : Int) (w : World) (h : LW w col L s) (ok : Ok K s) (hK : K ≤ 99000) (hk : k < 8) :
    Calls Tryz.prog 71 #[.pointer (some ⟨L, 0, none⟩), .int .i64 g, .agg #[.bool sd, .int .i64 (k : Int), .int .i64 v]] w fun r w' => r = .returned (.bool (aloneF s g ⟨sd, k, v⟩).fine) ∧ ∃ col', LW w' col' L (aloneF s g ⟨sd, k, v⟩).s ∧ Tr col col' w w' := by
  obtain ⟨col1, h1, t1, n1⟩ := h.below (below_alloc w (.cells #[.bool sd, .int .i64 (k : Int), .int .i64 v] 92))
  have T1 := hide t1
  have E1 := hide (heap_new w (.cells #[.bool sd, .int .i64 (k : Int), .int .i64 v] 92))
  have N1 := hide (n1 w.heap.size (Nat.le_refl _))
  have TY := hide (try_any L col1 s K g (-1) sd k v (w.alloc (.cells #[.bool sd, .int .i64 (k : Int), .int .i64 v] 92)) h1 ok hK hk)
  have OK := hide ok
  obtain ⟨R, hR⟩ : ∃ R, aloneF s g ⟨sd, k, v⟩ = R := ⟨_, rfl⟩
  rw [hR]
  unfold aloneF at hR
  have NT := hide (@tryF_not s g (-1) ⟨sd, k, v⟩)
  obtain ⟨Y, hY⟩ : ∃ Y, tryF s g (-1) ⟨sd, k, v⟩ = Y := ⟨_, rfl⟩
  rw [hY] at hR TY NT
  clear h t1 h1 n1 ok hY
  obtain ⟨ys, yd, yf⟩ := Y
  simp only at hR TY NT
  have HR := hide hR
  clear hR
  go_enter Tryz.func71, Tryz.ntmps71
  go_wp2_with fail
  refine TY.out.mono ?_
  rintro r w2 ⟨rfl, col2, h2, t2⟩
  have E2 := hide (t2.heap E1.out N1.out)
  have N2 : Hid (col2 w.heap.size = 7) := (t2.old _ (heap_lt E1.out)).trans N1.out
  have T2 := hide (T1.out.trans t2)
  have H2 := hide h2
  have hE2 := heap_lt E2.out
  clear h2 t2 T1 E1 N1 TY
  cases yd
  case true =>
    have hR := HR.out
    simp only [Bool.true_or, if_true] at hR
    subst hR
    go_wp2_with fail
    go_ret
    exact ⟨rfl, col2, H2.out, T2.out⟩
  case false =>
    cases yf
    case false =>
      have hR := HR.out
      simp only [Bool.not_false, Bool.or_true, if_true] at hR
      subst hR
      go_wp2_with fail
      go_ret
      exact ⟨rfl, col2, H2.out, T2.out⟩
    case true =>
      have hR := HR.out
      obtain rfl : ys = _ := NT.out rfl rfl
      simp only [Bool.not_true, Bool.or_false, Bool.false_eq_true, if_false] at hR
      have HR2 := hide hR
      clear hR HR NT
      obtain ⟨N, C, B, X, FB, pa, pc, bs, Fs, ta, tc, h2⟩ := H2.out
      generalize hsts : Fk.tryS s.sts ⟨sd, k, v⟩ = sts' at *
      have c2 : w2.cell? ⟨w.heap.size, 2, none⟩ = some (.int .i64 v) := cell_of E2.out 2
      go_wp2_with fail
      go_region
      obtain ⟨col3, h3, t3, n3⟩ := h2.below (btr (below_alloc w2 (.cells #[.bool false, .bool false, .bool false, .int .i64 0, .int .i64 g, .int .i64 (-1), .int .i64 v] 160)) (bdrew1 _))
      have G3 := hide (heap_below (heap_new w2 (.cells #[.bool false, .bool false, .bool false, .int .i64 0, .int .i64 g, .int .i64 (-1), .int .i64 v] 160)) (bdrew1 _))
      have C3 := hide (n3 w2.heap.size (Nat.le_refl _))
      have E3 := hide (t3.heap E2.out N2.out)
      have N3 : Hid (col3 w.heap.size = 7) := (t3.old _ hE2).trans N2.out
      have T3 := hide (T2.out.trans t3)
      have H3 := hide h3
      obtain ⟨o, ho, x0⟩ := h3.at hk
      have y3 : (w2.alloc (.cells #[.bool false, .bool false, .bool false, .int .i64 0, .int .i64 g, .int .i64 (-1), .int .i64 v] 160)).drew.cell? ⟨L, 3, none⟩ = some (.slice (some ⟨X, 0, none⟩) 8 8) := cell_of h3.hp 3
      have WT := hide (wait_at h3.drew ho sd g v)
      clear h2 h3 t3 n3 H2 T2 E2 N2 c2
      generalize (w2.alloc (.cells #[.bool false, .bool false, .bool false, .int .i64 0, .int .i64 g, .int .i64 (-1), .int .i64 v] 160)).drew = w3 at *
      generalize w2.heap.size = Gb at *
      have c0 : w3.cell? ⟨w.heap.size, 0, none⟩ = some (.bool sd) := cell_of E3.out 0
      have c1 : w3.cell? ⟨w.heap.size, 1, none⟩ = some (.int .i64 (k : Int)) := cell_of E3.out 1
      have q4 : w3.cell? ⟨Gb, 4, none⟩ = some (.int .i64 g) := cell_of G3.out 4
      have q5 : w3.cell? ⟨Gb, 5, none⟩ = some (.int .i64 (-1)) := cell_of G3.out 5
      have q6 : w3.cell? ⟨Gb, 6, none⟩ = some (.int .i64 v) := cell_of G3.out 6
      have k0 : (0 : Int) ≤ (k : Int) := by omega
      have k8 : (k : Int) < 8 := by omega
      have x0' : w3.cell? ⟨X, k, none⟩ = some (Pe.pt o) := x0
      have ptv : ∃ a, Pe.pt o = .pointer a := ⟨_, rfl⟩
      obtain ⟨pa0, hpa⟩ := ptv
      rw [hpa] at x0' x0 WT
      go_wp2_with fail
      go_region_held3 (fun w' => w'.cell? ⟨L, 3, none⟩ = some (.slice (some ⟨X, 0, none⟩) 8 8) ∧ w'.cell? ⟨w.heap.size, 1, none⟩ = some (.int .i64 (k : Int)) ∧ w'.cell? ⟨X, k, none⟩ = some (.pointer pa0) ∧ w'.cell? ⟨w.heap.size, 0, none⟩ = some (.bool sd) ∧ w'.cell? ⟨Gb, 4, none⟩ = some (.int .i64 g) ∧ w'.cell? ⟨Gb, 5, none⟩ = some (.int .i64 (-1)) ∧ w'.cell? ⟨Gb, 6, none⟩ = some (.int .i64 v))
        (first | (go_keep; done) | exact ⟨z3, z1, zx, z0, z4, z5, z6⟩)
        (first | (go_at_call 96; refine WT.out.mono ?_; rintro r w4 ⟨⟨xr, rfl⟩, Fs4, col4, h4, t4⟩; have E4 := hide (t4.heap E3.out N3.out); have G4 := hide (t4.heap G3.out C3.out); have z0 : w4.cell? ⟨w.heap.size, 0, none⟩ = some (.bool sd) := cell_of E4.out 0; have z1 : w4.cell? ⟨w.heap.size, 1, none⟩ = some (.int .i64 (k : Int)) := cell_of E4.out 1; have z3 : w4.cell? ⟨L, 3, none⟩ = some (.slice (some ⟨X, 0, none⟩) 8 8) := cell_of h4.hp 3; have z4 : w4.cell? ⟨Gb, 4, none⟩ = some (.int .i64 g) := cell_of G4.out 4; have z5 : w4.cell? ⟨Gb, 5, none⟩ = some (.int .i64 (-1)) := cell_of G4.out 5; have z6 : w4.cell? ⟨Gb, 6, none⟩ = some (.int .i64 v) := cell_of G4.out 6; have zx : w4.cell? ⟨X, k, none⟩ = some (.pointer pa0) := (by obtain ⟨o2, ho2, x2⟩ := h4.at hk; rw [ho] at ho2; cases ho2; rw [← hpa]; exact x2)))
      have T4 := hide (T3.out.trans (Tr.trans (Tr.refl col3 w3).drew t4))
      have H4 := hide h4
      have N4 : Hid (col4 w.heap.size = 7) := (t4.old _ (heap_lt E3.out)).trans N3.out
      have hE4 := heap_lt E4.out
      clear h4 t4 z0 z1 z3 z4 z5 z6 zx T3 H3 E3 N3 G3 C3 G4 WT c0 c1 q4 q5 q6 x0 x0' y3
      go_wp2_with fail
      refine (En.bare_any 6 g _).mono ?_
      rintro r w5 ⟨rfl, b5⟩
      obtain ⟨col6, h6, t6, n6⟩ := H4.out.below (btr b5 (below_alloc w5 (.cells #[.int .i64 6, .int .i64 g, .int .i64 (-1), .int .i64 (-1), .int .i64 (-1), .int .i64 (-1), .bool false, .bool false] 66)))
      have V6 := hide (heap_new w5 (.cells #[.int .i64 6, .int .i64 g, .int .i64 (-1), .int .i64 (-1), .int .i64 (-1), .int .i64 (-1), .bool false, .bool false] 66))
      have s5 := b5.size
      have C6 := hide (n6 w5.heap.size s5)
      have E6 := hide (t6.heap E4.out N4.out)
      have N6 : Hid (col6 w.heap.size = 7) := (t6.old _ hE4).trans N4.out
      have T6 := hide (T4.out.trans t6)
      have H6 := hide h6
      have hz6 : w.heap.size ≤ w5.heap.size := by omega
      have hn6 : w.heap.size ≠ w5.heap.size := by omega
      have hL6 : L ≠ w5.heap.size := fun e => by have := H6.out.c0; rw [e, C6.out] at this; omega
      clear h6 t6 n6 b5 H4 T4 E4 N4
      have u0 : (w5.alloc (.cells #[.int .i64 6, .int .i64 g, .int .i64 (-1), .int .i64 (-1), .int .i64 (-1), .int .i64 (-1), .bool false, .bool false] 66)).cell? ⟨L, 4 + k, none⟩ = some (.int .i64 (nth s.nm k)) := H6.out.num hk
      go_wp2_with fail
      generalize w5.alloc (.cells #[.int .i64 6, .int .i64 g, .int .i64 (-1), .int .i64 (-1), .int .i64 (-1), .int .i64 (-1), .bool false, .bool false] 66) = w6 at *
      generalize w5.heap.size = Eb at *
      have c0 : w6.cell? ⟨w.heap.size, 0, none⟩ = some (.bool sd) := cell_of E6.out 0
      have c1 : w6.cell? ⟨w.heap.size, 1, none⟩ = some (.int .i64 (k : Int)) := cell_of E6.out 1
      have c2 : w6.cell? ⟨w.heap.size, 2, none⟩ = some (.int .i64 v) := cell_of E6.out 2
      have v0 := cell_of V6.out 0
      have v1 := cell_of V6.out 1
      have v2 := cell_of V6.out 2
      have v3 := cell_of V6.out 3
      have v4 := cell_of V6.out 4
      have v5 := cell_of V6.out 5
      have v6 := cell_of V6.out 6
      have v7 := cell_of V6.out 7
      have e2 := frozen_of V6.out 2
      have e4 := frozen_of V6.out 4
      have e6 := frozen_of V6.out 6
      simp at v0 v1 v2 v3 v4 v5 v6 v7
      go_region_held3 (fun w' => w'.cell? ⟨w.heap.size, 1, none⟩ = some (.int .i64 (k : Int)) ∧ w'.cell? ⟨L, 4 + k, none⟩ = some (.int .i64 (nth s.nm k)) ∧ w'.cell? ⟨w.heap.size, 2, none⟩ = some (.int .i64 v) ∧ w'.cell? ⟨w.heap.size, 0, none⟩ = some (.bool sd))
        (first | (go_keep; done) | (go_split_ands; refine ⟨kset1 ?_ hn6, kset1 ?_ hL6, kset1 ?_ hn6, kset1 ?_ hn6⟩ <;> assumption))
        (fail)
      have V7 := hide (heap_below (Ba.heap_setCell_same (Ba.heap_setCell_same (Ba.heap_setCell_same V6.out (i := 2) (.int .i64 (nth s.nm k))) (i := 4) (.int .i64 v)) (i := 6) (.bool sd)) (bdrew1 _))
      have H7 := hide ((((H6.out.temp (i := 2) (v := .int .i64 (nth s.nm k)) C6.out).temp (i := 4) (v := .int .i64 v) C6.out).temp (i := 6) (v := .bool sd) C6.out).drew)
      have T7 := hide (((T6.out.temp hz6 2 (.int .i64 (nth s.nm k))).temp hz6 4 (.int .i64 v)).temp hz6 6 (.bool sd)).drew
      clear V6 H6 T6 E6 c0 c1 c2 u0 v0 v1 v2 v3 v4 v5 v6 v7 e2 e4 e6
      generalize ((w6.setCell ⟨Eb, 2, none⟩ (.int .i64 (nth s.nm k))).setCell ⟨Eb, 4, none⟩ (.int .i64 v)).setCell ⟨Eb, 6, none⟩ (.bool sd) = w7z at *
      generalize w7z.drew = w7 at *
      have v0 := cell_of V7.out 0
      have v1 := cell_of V7.out 1
      have v2 := cell_of V7.out 2
      have v3 := cell_of V7.out 3
      have v4 := cell_of V7.out 4
      have v5 := cell_of V7.out 5
      have v6 := cell_of V7.out 6
      have v7 := cell_of V7.out 7
      simp at v0 v1 v2 v3 v4 v5 v6 v7
      have WA := hide (waits_any L col6 _ K (⟨6, g, nth s.nm k, -1, v, -1, sd, false⟩ : Ev) w7 H7.out.lw OK.out.cb (by omega) (by have := OK.out.tn; show s.tr.length ≤ _; omega))
      unfold En.evv En.evc at WA
      go_wp2_with fail
      refine WA.out.mono ?_
      rintro r w8 ⟨rfl, col8, h8, t8⟩
      have H8 := hide h8
      have T8 := hide (T7.out.trans t8)
      clear h8 t8 WA v0 v1 v2 v3 v4 v5 v6 v7
      go_wp2_with fail
      have hR := HR2.out
      simp only [num, Int.toNat_natCast] at hR
      subst hR
      go_ret
      exact ⟨rfl, col8, H8.out, T8.out⟩
end Lo
end Go.Proofs.YtddchcekljndmaaGreat
/- Package fork: Park, over this seat's program. -/
namespace Go.Proofs.YtddchcekljndmaaGreat
open Go.ChangeShapes Go.WideShapes Go.ChangeAt Go.RowKit
namespace Fk
open Ba Pe _root_.Go.Proofs.YtddchcekljndmaaGreat.Pi Rp

theorem park1_any (c : Ca) (q : Option Nat) (w : World) :
    Calls Tryz.prog 129 #[cv c, pt q] w fun r w' => r = .returned (.bool q.isSome) ∧ Below w.heap.size w w' := by
  unfold cv
  cases q with
  | none =>
    simp only [pt, Option.map_none]
    go_enter Tryz.func129, Tryz.ntmps129
    go_wp2_with fail
    go_ret
    exact ⟨ret_bool (by simp), below_alloc _ _⟩
  | some D =>
    simp only [pt, Option.map_some]
    go_enter Tryz.func129, Tryz.ntmps129
    go_wp2_with fail
    go_ret
    exact ⟨ret_bool (by simp), below_alloc _ _⟩
theorem CaAt.kf {w w' : World} {F : Nat → Prop} {oa : Option Addr} {l : List Ca} (h : CaAt w oa l) (k : KF F w w') (hn : ∀ a, oa = some a → ¬ F a.block) : CaAt w' oa l := by
  intro j x hx
  obtain ⟨b, off, e, h0, h1, h2⟩ := h j x hx
  exact ⟨b, off, e, k.cell h0 (hn _ e), k.cell h1 (hn _ e), k.cell h2 (hn _ e)⟩
set_option maxRecDepth 100000 in
theorem park_bad (g : Int) (oc : Option Addr) (l : List Ca) (cc : Nat) (oa : Option Addr) (n : Nat) (cp : Nat) (w : World) (h : pkBad g l = true) :
    Calls Tryz.prog 103 #[.int .i64 g, .slice oc l.length cc, .slice oa n cp] w fun r w' => r = .returned (.tuple #[.int .i64 0, .int .i64 1]) ∧ Below w.heap.size w w' := by
  unfold pkBad at h
  generalize l.length = m at h ⊢
  by_cases hg : g < 0
  · clear h
    go_enter Tryz.func103, Tryz.ntmps103
    go_wp2_with fail
    go_ret2
    exact ⟨rfl, Below.refl _ _⟩
  · have hm : (4 : Int) < (m : Int) := by simp [hg] at h; omega
    clear h
    go_enter Tryz.func103, Tryz.ntmps103
    go_wp2_with fail
    go_ret2
    exact ⟨rfl, Below.refl _ _⟩
set_option maxRecDepth 100000 in
theorem park_ready (g : Int) (oc : Option Addr) (l : List Ca) (cc : Nat) (oa : Option Addr) (bs : List (Option Nat)) (cp : Nat) (Fs : Nat → Nat → Prop) (sts : List (Option St)) (w : World) (hC : CaAt w oc l) (h : Qs Pp w oa bs Fs sts) (hb : pkBad g l = false) (hr : 0 < (rdyL l sts).length) :
    Calls Tryz.prog 103 #[.int .i64 g, .slice oc l.length cc, .slice oa bs.length cp] w fun r w' => r = .returned (.tuple #[.int .i64 0, .int .i64 7]) ∧ Below w.heap.size w w' := by
  unfold pkBad at hb
  simp only [Bool.or_eq_false_iff, decide_eq_false_iff_not] at hb
  have hg : ¬ g < 0 := hb.1
  have hm' : l.length ≤ 4 := by omega
  have RD := hide (fready_any oc l cc oa bs cp Fs sts w hC h (by omega))
  have hm : ¬ (4 : Int) < (l.length : Int) := by omega
  have hr' : (0 : Int) < ((rdyL l sts).length : Int) := by omega
  clear hb hC h hr
  generalize hR : (rdyL l sts).length = R at RD hr'
  generalize l.length = m at RD hm hm' ⊢
  clear hR
  go_enter Tryz.func103, Tryz.ntmps103
  go_wp2_with fail
  refine RD.out.mono ?_
  rintro r w1 ⟨ob, d, rfl, -, b1⟩
  have B1 := hide b1
  clear b1
  go_wp2_with fail
  go_ret2
  exact ⟨rfl, B1.out⟩
set_option maxRecDepth 100000 in
set_option maxHeartbeats 6400000 in
theorem park_ok (g : Int) (oc : Option Addr) (l : List Ca) (cc : Nat) (oa : Option Addr) (bs : List (Option Nat)) (cp : Nat) (Fs : Nat → Nat → Prop) (sts : List (Option St)) (w : World) (hC : CaAt w oc l) (hCn : 0 < l.length → ∀ a, oc = some a → ¬ All Fs a.block) (h : Qs Pp w oa bs Fs sts) (hb : pkBad g l = false) (hr : rdyL l sts = []) (hle : ∀ (i : Nat) (st : St), sts[i]? = some (some st) → ∀ b, (own st b).length ≤ 1000) :
    Calls Tryz.prog 103 #[.int .i64 g, .slice oc l.length cc, .slice oa bs.length cp] w fun r w' => r = .returned (.tuple #[.int .i64 ((ps (hasC sts l) l.length).length : Int), .int .i64 0]) ∧ Rz Pp w w' oa bs Fs (pkS g l sts l.length) := by
  unfold pkBad at hb
  simp only [Bool.or_eq_false_iff, decide_eq_false_iff_not] at hb
  have hg : ¬ g < 0 := hb.1
  have hg0 : 0 ≤ g := by omega
  have hm' : l.length ≤ 4 := by omega
  have hm : ¬ (4 : Int) < (l.length : Int) := by omega
  have IV0 := hide (Iv.start (g := g) hr hle)
  have RD := hide (fready_any oc l cc oa bs cp Fs sts w hC h (by omega))
  rw [hr] at RD
  simp only [List.length_nil] at RD
  have HC := hide hC
  have HQ := hide h
  have HN := hide hCn
  have HLE := hide hle
  have GA : Hid (∀ u, Below w.heap.size w u → Calls Tryz.prog 126 #[.slice oc l.length cc, .slice oa bs.length cp, .func (.func 129) #[] #[]] u fun r w' => ∃ ob d, r = .returned (.slice ob (ps (hasC sts l) l.length).length d) ∧ w'.ownsRow u.heap.size 3 1 (.slice ob (ps (hasC sts l) l.length).length d) (ps (hasC sts l) l.length).length (ic (ps (hasC sts l) l.length)) ∧ Below u.heap.size u w') := by
    intro u hu
    refine gather_p (hasC sts l) oc l cc oa bs cp u (hC.below hu) (h.row.below hu) (by omega) ?_
    intro i c v hi hv
    have e : hasC sts l i = (nmB bs c.ch).isSome := by
      unfold hasC
      rw [hi]
      simp only
      rcases h.nm c.ch with ⟨q1, q2⟩ | ⟨B, st, q1, q2, _⟩
      · rw [q1, q2]; rfl
      · rw [q1, q2]; rfl
    rw [e]
    exact park1_any c _ v
  have FIN := hide (pk_ps g l sts l.length)
  obtain ⟨L, hL⟩ : ∃ L, L = ps (hasC sts l) l.length := ⟨_, rfl⟩
  have MB : Hid (∀ k, k < L.length → ∃ (p : Nat) (c : Ca) (st : St), nth L k = (p : Int) ∧ p < l.length ∧ l[p]? = some c ∧ nmB sts c.ch = some st) := by
    intro k hk
    rw [hL] at hk ⊢
    obtain ⟨p, e, hp, hh⟩ := ps_mem hk
    unfold hasC at hh
    rw [List.getElem?_eq_getElem hp] at hh
    simp only at hh
    obtain ⟨st, hst⟩ := Option.isSome_iff_exists.1 hh
    exact ⟨p, _, st, e, hp, List.getElem?_eq_getElem hp, hst⟩
  have hLl : L.length ≤ 4 := by rw [hL]; exact Nat.le_trans (ps_len _ _) hm'
  rw [← hL] at GA FIN ⊢
  rw [← FIN.out]
  clear hL FIN hb hC h hr hle hCn
  go_enter Tryz.func103, Tryz.ntmps103
  go_wp2_with fail
  refine RD.out.mono ?_
  rintro r w1 ⟨ob, d, rfl, -, b1⟩
  have B1 := hide b1
  clear b1 RD
  go_wp2_with fail
  refine (GA.out _ B1.out).mono ?_
  rintro r w6 ⟨o6, d6, rfl, ow6, b6⟩
  obtain ⟨o6', c6', e6, at6, nb6⟩ := own_at2 ow6
  simp only [Value.slice.injEq] at e6
  obtain ⟨rfl, -, rfl⟩ := e6
  have A6 := hide at6
  have B6 := hide (btr B1.out b6)
  have N6 : Hid (∀ a, o6 = some a → ¬ All Fs a.block) := by
    intro a e hf
    have h1 := nb6 a e
    have h2 := B1.out.size
    obtain ⟨i, hi⟩ := hf
    have := HQ.out.bd i _ hi
    omega
  have Q6 := hide (HQ.out.below frP B6.out)
  have C6 := hide (HC.out.below B6.out)
  have RS : Hid (∀ (p : Nat) (c : Ca) (st : St) (u : World), l[p]? = some c → nmB sts c.ch = some st → Below w6.heap.size w6 u → Calls Tryz.prog 130 #[.int .i64 g, cv c, .slice oc l.length cc, .slice oa bs.length cp] u fun r w' => r = .returned (.int .i64 0) ∧ Below u.heap.size u w') := by
    intro p c st u hp hst hu
    have qu := Q6.out.below frP hu
    rcases qu.nm c.ch with ⟨q1, q2⟩ | ⟨B, st', q1, q2, q3, q4, q5, q6, q7⟩
    · rw [q2] at hst; cases hst
    · rw [q2] at hst
      cases hst
      refine rehearse_ok g c oc l cc oa bs cp Fs sts B st u (C6.out.below hu) qu hm' hg0 q1 ?_ (HLE.out _ _ q6 _)
      intro v hv
      exact ⟨_, frP.sm q7 (Sm.below hv (qu.bd _))⟩
  clear at6 nb6 ow6 b6 GA HC HQ
  obtain ⟨n2, hn2⟩ : ∃ n2, L.length = n2 := ⟨_, rfl⟩
  rw [hn2] at MB hLl
  have HN2 := hide hn2
  rw [hn2]
  clear hn2
  go_wp2_with fail
  go_loopw [33] (fun i wz => ∃ (j : Nat), j ≤ n2 ∧ i = .int .i64 j ∧ Below w6.heap.size w6 wz) (fun i _ => n2 - (intOf i).toNat)
  case atStart => exact ⟨0, Nat.zero_le _, rfl, Below.refl _ _⟩
  case round =>
    obtain ⟨j, hj, rfl, b7⟩ := hrel
    have B7 := hide b7
    clear b7
    by_cases hjl : j < n2
    · have hjl' : (j : Int) < (n2 : Int) := by omega
      have hjn : j < L.length := by have := HN2.out; omega
      obtain ⟨p, c, st, ep, hp, hpc, hst⟩ := MB.out j hjl
      obtain ⟨b9, off9, e9, q9⟩ := A6.out.below B7.out j hjn
      rw [ep] at q9
      subst e9
      have hp' : (p : Int) < (l.length : Int) := by omega
      obtain ⟨bc, offc, rfl, c0, c1, c2⟩ := C6.out.below B7.out p c hpc
      have RSU := hide (RS.out p c st wr hpc hst B7.out)
      unfold cv at RSU
      clear hpc hst
      go_wp2_with fail
      refine RSU.out.mono ?_
      rintro r w9 ⟨rfl, b9'⟩
      have B9 := hide (btr B7.out b9')
      clear b9' c0 c1 c2 q9 RSU
      go_wp2_with fail
      go_roundw
      case rel => exact ⟨j + 1, by omega, by go_num, B9.out⟩
      case measure => simp [intOf]; omega
    · have hjl' : ¬ ((j : Int) < (n2 : Int)) := by omega
      clear RS
      have R0 := hide (Rz.same frP Q6.out B7.out)
      go_wp2_with fail
      go_loopw [51] (fun i wz => ∃ (j : Nat) (s : List (Option St)), j ≤ n2 ∧ i = .int .i64 j ∧ s = pkL g l sts (L.take j) ∧ Iv g l (1000 + j) s ∧ (∀ d, nmB s d = none ↔ nmB sts d = none) ∧ Rz Pp w6 wz oa bs Fs s) (fun i _ => n2 - (intOf i).toNat)
      case atStart => exact ⟨0, sts, Nat.zero_le _, rfl, rfl, IV0.out, fun _ => Iff.rfl, R0.out⟩
      case round =>
        clear R0 B7
        obtain ⟨j, s, hj, rfl, es, iv, hno, rz⟩ := hrel
        have ES := hide es
        have IV := hide iv
        have NO := hide hno
        have RZ := hide rz
        clear es iv hno rz
        by_cases hjl : j < n2
        · have hjl' : (j : Int) < (n2 : Int) := by omega
          have hjn : j < L.length := by have := HN2.out; omega
          obtain ⟨p, c, st0, ep, hp, hpc, hst⟩ := MB.out j hjl
          obtain ⟨Fs', nw, qs, kf⟩ := RZ.out
          obtain ⟨b9, off9, e9, q9⟩ := at_kf A6.out kf N6.out j hjn
          rw [ep] at q9
          subst e9
          have hp' : (p : Int) < (l.length : Int) := by omega
          obtain ⟨bc, offc, rfl, c0, c1, c2⟩ := C6.out.kf kf (HN.out (by omega)) p c hpc
          have TK : Hid (pk1 g p c s = pkL g l sts (L.take (j + 1))) := by
            show _ = _
            have e2 : L[j] = (p : Int) := by rw [← ep, nth_lt _ _ hjn]
            rw [List.take_succ_eq_append_getElem hjn, e2, pkL_app g l sts _ p c hpc, ES.out]
          have IVN := hide (IV.out.step hg0 (by omega) (List.mem_of_getElem? hpc) p)
          have NON : Hid (∀ d, nmB (pk1 g p c s) d = none ↔ nmB sts d = none) := fun d => (pk1_none g p c s d).trans (NO.out d)
          rcases qs.nm c.ch with ⟨q1, q2⟩ | ⟨B, st, q1, q2, q3, q4, q5, q6, q7⟩
          · have := (NO.out c.ch).1 q2
            rw [hst] at this
            cases this
          have OK := (IV.out.ok hg0 (by omega) (List.mem_of_getElem? hpc) q2 p).1
          have BX := below_alloc wr (.cells #[.bool c.sd, .int .i64 c.ch, .int .i64 c.v] 92)
          have XN := hide (heap_new wr (.cells #[.bool c.sd, .int .i64 c.ch, .int .i64 c.v] 92))
          have szx : (wr.alloc (.cells #[.bool c.sd, .int .i64 c.ch, .int .i64 c.v] 92)).heap.size = wr.heap.size + 1 := World.size_alloc _ _
          have NM : Hid (∀ u, Below (wr.alloc (.cells #[.bool c.sd, .int .i64 c.ch, .int .i64 c.v] 92)).heap.size (wr.alloc (.cells #[.bool c.sd, .int .i64 c.ch, .int .i64 c.v] 92)) u → Calls Tryz.prog 131 #[.int .i64 c.ch, .slice oa bs.length cp] u fun r w' => r = .returned (.pointer (some ⟨B, 0, none⟩)) ∧ w' = u) := by
            intro u hu
            have := named_any oa bs c.ch cp u (qs.row.below (btr BX hu))
            rw [q1] at this
            exact this
          have WT : Hid (∀ u, Below (wr.alloc (.cells #[.bool c.sd, .int .i64 c.ch, .int .i64 c.v] 92)).heap.size (wr.alloc (.cells #[.bool c.sd, .int .i64 c.ch, .int .i64 c.v] 92)) u → Calls Tryz.prog 96 #[.pointer (some ⟨B, 0, none⟩), .bool c.sd, wv ⟨g, p, c.v⟩] u fun r w' => r = .returned (.int .i64 0) ∧ Rz Pp w6 w' oa bs Fs (pk1 g p c s) ∧ (w'.cell? ⟨wr.heap.size, 0, none⟩ = some (.bool c.sd) ∧ w'.cell? ⟨wr.heap.size, 1, none⟩ = some (.int .i64 c.ch) ∧ w'.cell? ⟨wr.heap.size, 2, none⟩ = some (.int .i64 c.v))) := by
            intro u hu
            have bu := btr BX hu
            have pu : Pp u B (Fs' c.ch.toNat) st := frP.sm q7 (Sm.below bu (qs.bd _))
            refine (wait_any B _ st c.sd ⟨g, p, c.v⟩ u pu).mono ?_
            rintro r w9 ⟨rfl, k9, F9, n9, p9⟩
            have hX := k9.heap (heap_below XN.out hu) (fun hf => by have := qs.bd _ _ hf; omega)
            refine ⟨by rw [OK], ?_, cell_of hX 0, cell_of hX 1, cell_of hX 2⟩
            have r1 := Rz.trans nw kf (Rz.step frP qs bu q5 k9 n9 p9)
            unfold pk1
            rw [q2]
            exact r1
          unfold wv at WT
          simp only at WT
          clear hpc hst kf nw qs q1 q2 q3 q4 q5 q6 q7 OK BX szx IV NO RZ ES
          go_wp2_with fail
          have e0 : (wr.alloc (.cells #[.bool c.sd, .int .i64 c.ch, .int .i64 c.v] 92)).cell? ⟨wr.heap.size, 0, none⟩ = some (.bool c.sd) := cell_of XN.out 0
          have e1 : (wr.alloc (.cells #[.bool c.sd, .int .i64 c.ch, .int .i64 c.v] 92)).cell? ⟨wr.heap.size, 1, none⟩ = some (.int .i64 c.ch) := cell_of XN.out 1
          have e2 : (wr.alloc (.cells #[.bool c.sd, .int .i64 c.ch, .int .i64 c.v] 92)).cell? ⟨wr.heap.size, 2, none⟩ = some (.int .i64 c.v) := cell_of XN.out 2
          generalize wr.alloc (.cells #[.bool c.sd, .int .i64 c.ch, .int .i64 c.v] 92) = W1 at XN NM WT e0 e1 e2 ⊢
          generalize wr.heap.size = A at XN WT e0 e1 e2 ⊢
          have WA : Hid (∀ u, Calls Tryz.prog 132 #[.int .i64 g, .int .i64 (p : Int), .agg #[.bool c.sd, .int .i64 c.ch, .int .i64 c.v]] u fun r w' => r = .returned (.agg #[.int .i64 g, .int .i64 (p : Int), .int .i64 c.v]) ∧ Below u.heap.size u w') := fun u => waiter_any g p c u
          clear c0 c1 c2 q9
          go_region_held3 (fun w' => w'.cell? ⟨A, 0, none⟩ = some (.bool c.sd) ∧ w'.cell? ⟨A, 1, none⟩ = some (.int .i64 c.ch) ∧ w'.cell? ⟨A, 2, none⟩ = some (.int .i64 c.v))
            (first
              | go_keep
              | assumption
              | (go_split_ands
                 refine ⟨?_, ?_, ?_⟩ <;> (refine cellB ?_ k2; assumption)))
            (first
              | (go_at_call 131; refine (NM.out _ (by first | exact bdrew1 _ | exact btr (bdrew1 _) k2)).mono ?_; rintro r z1 ⟨rfl, rfl⟩)
              | (go_at_call 132; refine (WA.out _).mono ?_; rintro r z2 ⟨rfl, k2⟩)
              | (go_at_call 96; refine (WT.out _ (btr (bdrew1 _) k2)).mono ?_; rintro r z3 ⟨rfl, r3, h3⟩))
          all_goals (
            have R3 := hide r3
            clear h3 r3 k2 NM WT WA e0 e1 e2 XN
            go_wp2_with fail
            go_roundw
            case rel => exact ⟨j + 1, _, by omega, by go_num, TK.out, IVN.out, NON.out, R3.out⟩
            case measure => simp [intOf]; omega)
        · have hjl' : ¬ ((j : Int) < (n2 : Int)) := by omega
          have EE : Hid (s = pkL g l sts L) := by
            show _ = _
            rw [ES.out, List.take_of_length_le (by have := HN2.out; omega)]
          have RF : Hid (Rz Pp w wr oa bs Fs (pkL g l sts L)) := by
            show Rz _ _ _ _ _ _ _
            rw [← EE.out]
            exact Rz.trans (NwA.refl _ _) (KF.of B6.out) RZ.out
          go_wp2_with fail
          go_ret2
          exact ⟨by rw [HN2.out]; rfl, RF.out⟩
/-- Park, whatever its arguments are -/
theorem park_any (g : Int) (oc : Option Addr) (l : List Ca) (cc : Nat) (oa : Option Addr) (bs : List (Option Nat)) (cp : Nat) (Fs : Nat → Nat → Prop) (sts : List (Option St)) (w : World) (hC : CaAt w oc l) (hCn : 0 < l.length → ∀ a, oc = some a → ¬ All Fs a.block) (h : Qs Pp w oa bs Fs sts) (hle : ∀ (i : Nat) (st : St), sts[i]? = some (some st) → ∀ b, (own st b).length ≤ 1000) :
    Calls Tryz.prog 103 #[.int .i64 g, .slice oc l.length cc, .slice oa bs.length cp] w fun r w' => r = .returned (.tuple #[.int .i64 (pkN g l sts), .int .i64 (pkE g l sts)]) ∧ Rz Pp w w' oa bs Fs (pkA g l sts) := by
  unfold pkN pkE pkA
  cases hb : pkBad g l
  · simp only [Bool.false_eq_true, if_false]
    by_cases hr : 0 < (rdyL l sts).length
    · simp only [if_pos hr]
      refine (park_ready g oc l cc oa bs cp Fs sts w hC h hb hr).mono ?_
      rintro r w1 ⟨e, b1⟩
      exact ⟨e, Rz.same frP h b1⟩
    · simp only [if_neg hr]
      exact park_ok g oc l cc oa bs cp Fs sts w hC hCn h hb (List.eq_nil_of_length_eq_zero (by omega)) hle
  · simp only [if_true]
    refine (park_bad g oc l cc oa bs.length cp w hb).mono ?_
    rintro r w1 ⟨e, b1⟩
    exact ⟨e, Rz.same frP h b1⟩
end Fk
end Go.Proofs.YtddchcekljndmaaGreat
/- A loom's select, over this seat's program. -/
namespace Go.Proofs.YtddchcekljndmaaGreat
open Go.ChangeShapes Go.WideShapes Go.ChangeAt Go.RowKit
namespace Lo
open Ba

theorem ca_at {w : World} {oc : Option Addr} {cs : List De.Cs} (h : De.CAt w oc cs) : Fk.CaAt w oc (cs.map cav) := by
  intro k x hk
  rw [List.getElem?_map] at hk
  cases h1 : cs[k]? with
  | none => rw [h1] at hk; cases hk
  | some c =>
    rw [h1] at hk
    cases hk
    exact h k c h1
theorem Tr.cell {col col' : Nat → Nat} {w w' : World} (t : Tr col col' w w') {b i : Nat} {v : Value} (h : w.cell? ⟨b, i, none⟩ = some v) (hc : col b = 7) : w'.cell? ⟨b, i, none⟩ = some v := by
  have := t.block b (World.block_lt_of_cell? w _ h) (by omega)
  rw [← h]
  simp only [World.cell?, this]
theorem Ok.sts {K : Nat} {s : Lm} (h : Ok K s) : Cr.Bn K s.cr ∧ s.tr.length ≤ K := ⟨h.cb, h.tn⟩
theorem Ok.draw {K : Nat} {s : Lm} (h : Ok K s) (n : Int) : Ok K { s with d := Pk.dr s.d n } := ⟨h.cb, h.tn, h.sm, h.wl, h.md, fun x hx => h.dd x (Pk.dr_sub hx)⟩
theorem dv_nat {d : List Int} {n : Nat} (hd : ∀ x ∈ d, 0 ≤ x) (h0 : 0 < n) (h4 : n ≤ 4) : ∃ i : Nat, Pk.dv d (n : Int) = (i : Int) ∧ i < n := by
  unfold Pk.dv
  rw [if_neg (by omega)]
  by_cases h1 : (n : Int) = 1
  · rw [if_pos h1]
    exact ⟨0, rfl, h0⟩
  · rw [if_neg h1]
    have hn : (0 : Int) < n := by omega
    have hx : 0 ≤ nth d 0 := by
      cases d with
      | nil => simp [nth]
      | cons x d => exact hd x (by simp)
    refine ⟨(nth d 0 % (n : Int)).toNat, ?_, ?_⟩
    · have := Int.emod_nonneg (nth d 0) (by omega : (n : Int) ≠ 0)
      omega
    · have := Int.emod_lt_of_pos (nth d 0) hn
      have := Int.emod_nonneg (nth d 0) (by omega : (n : Int) ≠ 0)
      omega
set_option maxRecDepth 100000 in
set_option maxHeartbeats 3200000 in
theorem choose_any (L : Nat) (col : Nat → Nat) (s : Lm) (K : Nat) (g : Int) (ok_ oa_ ob_ : Int) (cs : List De.Cs) (df : Bool) (oc : Option Addr) (cc : Nat) (w : World) (h : LW w col L s) (ok : Ok K s) (hK : K ≤ 99000)
    (hC : De.CAt w oc cs) (hCc : 0 < cs.length → ∀ a, oc = some a → col a.block = 7) (h4 : cs.length ≤ 4) (hcs : ∀ c ∈ cs, 0 ≤ c.ch ∧ c.ch ≤ 7) :
    Calls Tryz.prog 73 #[.pointer (some ⟨L, 0, none⟩), .int .i64 g, .agg #[.int .i64 ok_, .int .i64 oa_, .int .i64 ob_, .slice oc cs.length cc, .bool df]] w fun r w' => r = .returned (.bool (chooseF s g ⟨ok_, oa_, ob_, cs, df⟩).fine) ∧ ∃ col', LW w' col' L (chooseF s g ⟨ok_, oa_, ob_, cs, df⟩).s ∧ Tr col col' w w' := by
  obtain ⟨N, C, B, X, FB, pa, pc, bs, Fs, ta, tc, h⟩ := h
  obtain ⟨col1, h1, t1, n1⟩ := h.below (btr (below_alloc w (.cells #[.int .i64 ok_, .int .i64 oa_, .int .i64 ob_, .slice oc cs.length cc, .bool df] 44)) (bdrew1 _))
  have T1 := hide t1
  have H1 := hide h1
  have E1 := hide (heap_below (heap_new w (.cells #[.int .i64 ok_, .int .i64 oa_, .int .i64 ob_, .slice oc cs.length cc, .bool df] 44)) (bdrew1 _))
  have N1 := hide (n1 w.heap.size (Nat.le_refl _))
  have y3 : w.cell? ⟨L, 3, none⟩ = some (.slice (some ⟨X, 0, none⟩) 8 8) := cell_of h.hp 3
  have hL := h.lt
  have C1 := hide (hC.below (btr (below_alloc w (.cells #[.int .i64 ok_, .int .i64 oa_, .int .i64 ob_, .slice oc cs.length cc, .bool df] 44)) (bdrew1 _)))
  have D1 : Hid (0 < cs.length → ∀ a, oc = some a → col1 a.block = 7) := fun h0 a e => by
    obtain ⟨b, off, e2, hc, _⟩ := hC 0 cs[0] (List.getElem?_eq_getElem h0)
    rw [e] at e2
    cases e2
    exact (t1.old b (World.block_lt_of_cell? w _ hc)).trans (hCc h0 _ e)
  have hm : (cs.map cav).length = cs.length := List.length_map _
  have RD := hide (Fk.fready_any oc (cs.map cav) cc (some ⟨X, 0, none⟩) bs 8 Fs s.sts ((w.alloc (.cells #[.int .i64 ok_, .int .i64 oa_, .int .i64 ob_, .slice oc cs.length cc, .bool df] 44)).drew) (ca_at C1.out) h1.qs (by rw [hm]; omega))
  rw [h.bl, hm] at RD
  have OK := hide ok
  have HCS := hide hcs
  obtain ⟨R, hR⟩ : ∃ R, chooseF s g ⟨ok_, oa_, ob_, cs, df⟩ = R := ⟨_, rfl⟩
  rw [hR]
  unfold chooseF cas at hR
  simp only at hR
  have RM : Hid (∀ k, k < (Fk.rdyL (cs.map cav) s.sts).length → ∃ p : Nat, nth (Fk.rdyL (cs.map cav) s.sts) k = (p : Int) ∧ p < cs.length) := fun k hk => by
    obtain ⟨p, e, hl, _⟩ := Fk.ps_mem hk
    exact ⟨p, e, by rw [List.length_map] at hl; exact hl⟩
  have RL : Hid ((Fk.rdyL (cs.map cav) s.sts).length ≤ 4) := Nat.le_trans (Fk.ps_len _ _) (by rw [hm]; exact h4)
  have PK := hide (fun u (q : Fk.Qs _root_.Go.Proofs.YtddchcekljndmaaGreat.Pi.Pp u (some ⟨X, 0, none⟩) bs Fs s.sts) (hc : De.CAt u oc cs) (hcn : 0 < cs.length → ∀ a, oc = some a → ¬ Fk.All Fs a.block) => Fk.park_any g oc (cs.map cav) cc (some ⟨X, 0, none⟩) bs 8 Fs s.sts u (ca_at hc) (by rw [hm]; exact hcn) q ok.wl)
  rw [h.bl, hm] at PK
  generalize Fk.rdyL (cs.map cav) s.sts = rd at RD hR RM RL
  have HR := hide hR
  clear h t1 h1 n1 ok hR hcs hC hCc
  go_enter Tryz.func73, Tryz.ntmps73
  go_wp2_with fail
  go_region_held3 (fun w' => w'.cell? ⟨w.heap.size, 3, none⟩ = some (.slice oc cs.length cc) ∧ w'.cell? ⟨L, 3, none⟩ = some (.slice (some ⟨X, 0, none⟩) 8 8))
    (first | (go_keep; done) | exact ⟨z3, z4⟩)
    (first | (go_at_call 101; refine RD.out.mono ?_; rintro r w2 ⟨ob, d, rfl, ow2, b2⟩; have z3 : w2.cell? ⟨w.heap.size, 3, none⟩ = some (.slice oc cs.length cc) := cell_of (heap_below E1.out b2) 3; have z4 : w2.cell? ⟨L, 3, none⟩ = some (.slice (some ⟨X, 0, none⟩) 8 8) := cell_of (heap_below H1.out.hp b2) 3))
  have AT : ∀ k, k < rd.length → ∃ b off, ob = some ⟨b, off, none⟩ ∧ w2.cell? ⟨b, off + k, none⟩ = some (.int .i64 (nth rd k)) ∧ (w.alloc (.cells #[.int .i64 ok_, .int .i64 oa_, .int .i64 ob_, .slice oc cs.length cc, .bool df] 44)).drew.heap.size ≤ b := fun k hk => by
    obtain ⟨oa', c', e, hA, _⟩ := Rp.own_at ow2
    cases e
    obtain ⟨b, off, e2, hc⟩ := hA k hk
    subst e2
    refine ⟨b, off, rfl, hc, ?_⟩
    exact (ow2.lt b rfl).1
  obtain ⟨col2, h2, t2, n2⟩ := H1.out.below b2
  have T2 := hide (T1.out.trans t2)
  have H2 := hide h2
  have E2 := hide (heap_below E1.out b2)
  have N2 : Hid (col2 w.heap.size = 7) := (t2.old _ (heap_lt E1.out)).trans N1.out
  have NN := hide n2
  have C2 := hide (C1.out.below b2)
  have D2 : Hid (0 < cs.length → ∀ a, oc = some a → col2 a.block = 7) := fun h0 a e => by
    obtain ⟨b, off, e2, hc, _⟩ := C1.out 0 cs[0] (List.getElem?_eq_getElem h0)
    rw [e] at e2
    cases e2
    exact (t2.old b (World.block_lt_of_cell? _ _ hc)).trans (D1.out h0 _ e)
  have hL2 := h2.lt
  have hE2 := heap_lt E2.out
  clear h2 t2 n2 b2 ow2 T1 H1 E1 N1 C1 D1 RD y3
  rcases Nat.eq_zero_or_pos rd.length with hn | hn
  · have hR := HR.out
    rw [if_neg (by omega)] at hR
    rw [hn]
    cases df
    · simp only [Bool.false_eq_true, if_false] at hR
      have HR2 := hide hR
      obtain ⟨col3, h3, t3, n3⟩ := H2.out.below (bdrew1 w2)
      have hCn : 0 < cs.length → ∀ a, oc = some a → ¬ Fk.All Fs a.block := fun h0 a e hf => by
        obtain ⟨i, hf⟩ := hf
        have h1 := D2.out h0 a e
        rw [H2.out.c4 i _ hf] at h1
        omega
      have PA := hide (PK.out w2.drew h3.qs (C2.out.below (bdrew1 _)) hCn)
      have T3 := hide (T2.out.trans t3)
      have H3 := hide h3
      have E3 := hide (heap_below E2.out (bdrew1 _))
      have N3 : Hid (col3 w.heap.size = 7) := (t3.old _ hE2).trans N2.out
      have e4 : w2.cell? ⟨w.heap.size, 4, none⟩ = some (.bool false) := cell_of E2.out 4
      clear HR hR h3 t3 n3 H2 T2 NN AT RM RL PK
      go_wp2_with fail
      go_region_held3 (fun w' => w'.cell? ⟨w.heap.size, 3, none⟩ = some (.slice oc cs.length cc) ∧ w'.cell? ⟨L, 3, none⟩ = some (.slice (some ⟨X, 0, none⟩) 8 8))
        (first | (go_keep; done) | exact ⟨x3, x4⟩)
        (first | (go_at_call 103; refine PA.out.mono ?_; rintro r w4 ⟨rfl, p4⟩; obtain ⟨Fs4, col4, h4', t4⟩ := H3.out.pipes p4; have x3 : w4.cell? ⟨w.heap.size, 3, none⟩ = some (.slice oc cs.length cc) := cell_of (t4.heap E3.out N3.out) 3; have x4 : w4.cell? ⟨L, 3, none⟩ = some (.slice (some ⟨X, 0, none⟩) 8 8) := cell_of h4'.hp 3))
      have T4 := hide (T3.out.trans t4)
      have H4 := hide h4'
      have E4 := hide (t4.heap E3.out N3.out)
      have N4 : Hid (col4 w.heap.size = 7) := (t4.old _ (heap_lt E3.out)).trans N3.out
      have hE4 := heap_lt E4.out
      clear h4' t4 p4 PA H3 T3 E3 N3 x3 x4 e4 z3 z4 C2 D2 E2 N2
      go_wp2_with fail
      refine (En.bare_any 6 g _).mono ?_
      rintro r w5 ⟨rfl, b5⟩
      obtain ⟨col6, h6, t6, n6⟩ := H4.out.below (btr b5 (below_alloc w5 (.cells #[.int .i64 6, .int .i64 g, .int .i64 (-1), .int .i64 (cs.length : Int), .int .i64 0, .int .i64 (-1), .bool false, .bool false] 66)))
      have s5 := b5.size
      have hE5 : w.heap.size < w5.heap.size := by omega
      have T6 := hide (T4.out.trans t6)
      have H6 := hide h6
      have o3 : w5.cell? ⟨w.heap.size, 3, none⟩ = some (.slice oc cs.length cc) := cell_of (heap_below E4.out b5) 3
      have WA := hide (waits_any L col6 _ K (⟨6, g, -1, (cs.length : Int), 0, -1, false, false⟩ : Ev) _ H6.out.lw OK.out.cb (by omega) (by have := OK.out.tn; show s.tr.length ≤ _; omega))
      unfold En.evv En.evc at WA
      clear h6 t6 n6 H4 T4 E4 N4
      go_wp2_with fail
      refine WA.out.mono ?_
      rintro r w8 ⟨rfl, col8, h8, t8⟩
      have H8 := hide h8
      have T8 := hide (T6.out.trans t8)
      clear h8 t8 WA
      go_wp2_with fail
      have hR := HR2.out
      subst hR
      go_ret
      exact ⟨rfl, col8, H8.out, T8.out⟩
    · simp only [if_true] at hR
      have HR2 := hide hR
      have e4 : w2.cell? ⟨w.heap.size, 4, none⟩ = some (.bool true) := cell_of E2.out 4
      clear HR hR NN AT RM RL PK C2 D2
      go_wp2_with fail
      refine (En.bare_any 8 g _).mono ?_
      rintro r w5 ⟨rfl, b5⟩
      obtain ⟨col6, h6, t6, n6⟩ := H2.out.below b5
      have T6 := hide (T2.out.trans t6)
      have GO := hide (goes_any L col6 _ K (bareE 8 g) _ h6.lw OK.out.cb (by omega) (by have := OK.out.tn; omega))
      unfold En.evv En.evc bareE at GO
      clear h6 t6 n6 b5
      go_wp2_with fail
      refine GO.out.mono ?_
      rintro r w8 ⟨rfl, col8, h8, t8⟩
      have H8 := hide h8
      have T8 := hide (T6.out.trans t8)
      clear h8 t8 GO
      go_wp2_with fail
      have hR := HR2.out
      subst hR
      go_ret
      exact ⟨rfl, col8, H8.out, T8.out⟩
  · have hR := HR.out
    rw [if_pos hn] at hR
    obtain ⟨n, hnn⟩ : ∃ n, rd.length = n := ⟨_, rfl⟩
    rw [hnn] at hR hn AT RM RL ⊢
    have hn4 : n ≤ 4 := RL.out
    obtain ⟨i, hi, hin⟩ := dv_nat (n := n) OK.out.dd hn hn4
    rw [hi, Int.toNat_natCast] at hR
    obtain ⟨p, hp, hpl⟩ := RM.out i hin
    rw [hp] at hR
    obtain ⟨c, hcx⟩ : ∃ c, cs[p]? = some c := ⟨_, List.getElem?_eq_getElem hpl⟩
    have hcm : c ∈ cs := List.mem_of_getElem? hcx
    obtain ⟨hc0, hc7⟩ := HCS.out c hcm
    obtain ⟨kc, hkc⟩ : ∃ kc : Nat, c.ch = (kc : Int) := ⟨c.ch.toNat, by omega⟩
    have hk8 : kc < 8 := by omega
    have hca : caseAt ⟨ok_, oa_, ob_, cs, df⟩ (p : Int) = ⟨c.send, (kc : Int), c.val⟩ := by
      unfold caseAt cas
      rw [Int.toNat_natCast, List.getElem?_map, hcx]
      simp [cav, hkc]
    rw [hca] at hR
    obtain ⟨rb, ro, hob, hrc, hrb⟩ := AT i hin
    subst hob
    rw [hp] at hrc
    obtain ⟨cb, co, hoc, k0, k1, k2⟩ := C2.out p c hcx
    subst hoc
    rw [hkc] at k1
    have hcb : col2 cb = 7 := D2.out (by omega) _ rfl
    have hrb7 : col2 rb = 7 := NN.out rb hrb
    have DW := hide (Lk.draw_cu N C s.p s.d (n : Int) w2 H2.out.cu OK.out.dd)
    rw [hi] at DW
    have y1 : w2.cell? ⟨L, 1, none⟩ = some (.pointer (some ⟨C, 0, none⟩)) := cell_of H2.out.hp 1
    have HR2 := hide hR
    clear HR hR AT RM RL NN hca hp HCS PK hrb
    have hnI : (0 : Int) < (n : Int) := by omega
    go_wp2_with fail
    refine DW.out.mono ?_
    rintro r w3 ⟨rfl, cu3, kb3⟩
    obtain ⟨col3, h3, t3⟩ := H2.out.cursor cu3 kb3
    have T3 := hide (T2.out.trans t3)
    have H3 := hide h3
    have m0 : w3.cell? ⟨rb, ro + i, none⟩ = some (.int .i64 (p : Int)) := t3.cell hrc hrb7
    have m1 : w3.cell? ⟨cb, co + p * 3, none⟩ = some (.bool c.send) := t3.cell k0 hcb
    have m2 : w3.cell? ⟨cb, co + p * 3 + 1, none⟩ = some (.int .i64 (kc : Int)) := t3.cell k1 hcb
    have m3 : w3.cell? ⟨cb, co + p * 3 + 2, none⟩ = some (.int .i64 c.val) := t3.cell k2 hcb
    have m4 : w3.cell? ⟨w.heap.size, 3, none⟩ = some (.slice (some ⟨cb, co, none⟩) cs.length cc) := t3.cell (cell_of E2.out 3) N2.out
    have a0 : col3 rb = 7 := (t3.old rb (World.block_lt_of_cell? _ _ hrc)).trans hrb7
    have a1 : col3 w.heap.size = 7 := (t3.old _ hE2).trans N2.out
    have a2 : col3 cb = 7 := (t3.old cb (World.block_lt_of_cell? _ _ k0)).trans hcb
    have TY := hide (try_any L col3 _ K g (p : Int) c.send kc c.val w3.drew h3.drew.lw (OK.out.draw n) hK hk8)
    clear cu3 kb3 h3 t3 H2 T2 hrc k0 k1 k2 E2 N2 z3 z4 C2 D2 DW y1
    have i0 : (0 : Int) ≤ (i : Int) := by omega
    have i1 : (i : Int) < (n : Int) := by omega
    have p0 : (0 : Int) ≤ (p : Int) := by omega
    have p1 : (p : Int) < (cs.length : Int) := by omega
    go_wp2_with fail
    go_region_held3 (fun w' => w'.cell? ⟨rb, ro + i, none⟩ = some (.int .i64 (p : Int)) ∧ w'.cell? ⟨w.heap.size, 3, none⟩ = some (.slice (some ⟨cb, co, none⟩) cs.length cc) ∧ w'.cell? ⟨cb, co + p * 3, none⟩ = some (.bool c.send) ∧ w'.cell? ⟨cb, co + p * 3 + 1, none⟩ = some (.int .i64 (kc : Int)) ∧ w'.cell? ⟨cb, co + p * 3 + 2, none⟩ = some (.int .i64 c.val))
      (first | (go_keep; done) | exact ⟨t4.cell m0 a0, t4.cell m4 a1, t4.cell m1 a2, t4.cell m2 a2, t4.cell m3 a2⟩)
      (first | (go_at_call 95; refine TY.out.mono ?_; rintro r w4 ⟨rfl, col4, h4', t4⟩))
    have T4 := hide (T3.out.trans (Tr.trans (Tr.refl col3 w3).drew t4))
    have H4 := hide h4'
    clear h4' t4 TY
    go_wp2_with fail
    have hR := HR2.out
    subst hR
    go_ret
    exact ⟨rfl, col4, H4.out, T4.out⟩
end Lo
end Go.Proofs.YtddchcekljndmaaGreat
/- What a loom's steps keep: bounds of its numbers and lists. -/
namespace Go.Proofs.YtddchcekljndmaaGreat
namespace Lo
open Ba

/-- an operation that is right -/
theorem op_ok {o : OpD} {n : Int} (h : De.chk o n = 0) : (1 ≤ n ∧ n ≤ 8) ∧ (1 ≤ o.kind ∧ o.kind ≤ 9) ∧ o.cases.length ≤ 4 ∧ (0 ≤ o.a ∧ o.a ≤ De.mA o.kind n) ∧ (0 ≤ o.b ∧ o.b ≤ De.mB o.kind) ∧ (o.kind ≠ 6 → o.def_ = false ∧ o.cases.length = 0) ∧ ∀ c ∈ o.cases, (0 ≤ c.ch ∧ c.ch ≤ 7) ∧ 0 ≤ c.val ∧ c.val ≤ 99 := by
  unfold De.chk at h
  split at h
  · omega
  · rename_i h1
    split at h
    · omega
    · rename_i h2
      split at h
      · omega
      · rename_i h3
        split at h
        · omega
        · rename_i h4
          split at h
          · rename_i h5
            simp only [De.okP, De.upB, Bool.not_eq_false, Bool.and_eq_true, decide_eq_true_eq] at h1 h3
            refine ⟨h1.1, h1.2, by omega, h3.1, h3.2, fun hk => ?_, fun c hc => ?_⟩
            · have h6 : (o.def_ || decide (0 < o.cases.length)) ≠ true := fun e => h4 ⟨hk, e⟩
              simp at h6
              exact ⟨h6.1, by simp [h6.2]⟩
            · have := List.all_eq_true.1 h5 c hc
              simp only [De.okC, De.upB, Bool.and_eq_true, decide_eq_true_eq] at this
              refine ⟨this.1, this.2.1, ?_⟩
              have h7 := this.2.2
              cases hs : c.send <;> rw [hs] at h7 <;> simp only [cond_true, cond_false] at h7 <;> omega
          · omega
/-- bounds of the channels -/
def SB (n m : Nat) (sts : List (Option St)) : Prop := ∀ (i : Nat) (st : St), sts[i]? = some (some st) → (st.sent ≤ n ∧ st.got ≤ n) ∧ st.snd.length ≤ m ∧ st.rcv.length ≤ m
theorem SB.mono {n m n' m' : Nat} {sts : List (Option St)} (h : SB n m sts) (h1 : n ≤ n') (h2 : m ≤ m') : SB n' m' sts := fun i st e => by
  have := h i st e
  omega
theorem SB.set {n m k : Nat} {sts : List (Option St)} {v : St} (h : SB n m sts) (hv : (v.sent ≤ n ∧ v.got ≤ n) ∧ v.snd.length ≤ m ∧ v.rcv.length ≤ m) : SB n m (sts.set k (some v)) := by
  intro i st e
  rw [List.getElem?_set] at e
  split at e
  · split at e
    · simp at e
      subst e
      exact hv
    · cases e
  · exact h i st e
theorem SB.nm {n m : Nat} {sts : List (Option St)} (h : SB n m sts) {c : Int} {st : St} (e : Fk.nmB sts c = some st) : (st.sent ≤ n ∧ st.got ≤ n) ∧ st.snd.length ≤ m ∧ st.rcv.length ≤ m := h _ st (Fk.nmB_at e)
theorem dr_le (g : Int) (l : List Wt) : (Pe.dr g l).length ≤ l.length := by
  unfold Pe.dr
  exact List.length_filter_le _ _
theorem al_le (l : List Wt) (x : Wt) : (Pe.al l x).length ≤ l.length + 1 := by
  unfold Pe.al
  split
  · split
    · omega
    · simp
  · omega
theorem SB.send {n m : Nat} {st : St} (x : Int) (h : (st.sent ≤ n ∧ st.got ≤ n) ∧ st.snd.length ≤ m ∧ st.rcv.length ≤ m) : let v := _root_.Go.Proofs.YtddchcekljndmaaGreat.Pi.sendS st x; (v.sent ≤ n + 1 ∧ v.got ≤ n + 1) ∧ v.snd.length ≤ m ∧ v.rcv.length ≤ m := by
  intro v
  simp only [v, _root_.Go.Proofs.YtddchcekljndmaaGreat.Pi.sendS]
  split
  · omega
  · split
    · rename_i e
      rw [e] at h
      simp at h ⊢
      omega
    · rename_i e
      split
      · rw [e] at h
        refine ⟨?_, ?_⟩
        · simp only
          omega
        · simp only
          rw [e]
          exact h.2
      · omega
theorem SB.recv {n m : Nat} {st : St} (h : (st.sent ≤ n ∧ st.got ≤ n) ∧ st.snd.length ≤ m ∧ st.rcv.length ≤ m) : let v := _root_.Go.Proofs.YtddchcekljndmaaGreat.Pi.recvS st; (v.sent ≤ n + 1 ∧ v.got ≤ n + 1) ∧ v.snd.length ≤ m ∧ v.rcv.length ≤ m := by
  intro v
  simp only [v, _root_.Go.Proofs.YtddchcekljndmaaGreat.Pi.recvS]
  split
  · omega
  · rename_i e1 e2
    rw [e2] at h
    simp at h ⊢
    omega
  · simp
    omega
  · rename_i e1 e2
    rw [e2] at h
    simp at h ⊢
    omega
theorem SB.try {n m : Nat} {sts : List (Option St)} (h : SB n m sts) (c : Ca) : SB (n + 1) m (Fk.tryS sts c) := by
  unfold Fk.tryS
  split
  · exact h.mono (by omega) (Nat.le_refl _)
  · rename_i st e
    refine (h.mono (Nat.le_succ n) (Nat.le_refl _)).set ?_
    cases c.sd
    · exact SB.recv (h.nm e)
    · exact SB.send _ (h.nm e)
theorem SB.waitS {n m : Nat} {st : St} (send : Bool) (x : Wt) (h : (st.sent ≤ n ∧ st.got ≤ n) ∧ st.snd.length ≤ m ∧ st.rcv.length ≤ m) : let v := _root_.Go.Proofs.YtddchcekljndmaaGreat.Pi.waitS st send x; (v.sent ≤ n ∧ v.got ≤ n) ∧ v.snd.length ≤ m + 1 ∧ v.rcv.length ≤ m + 1 := by
  intro v
  simp only [v, _root_.Go.Proofs.YtddchcekljndmaaGreat.Pi.waitS]
  split
  · omega
  · split
    · have := al_le st.snd x
      simp only
      omega
    · have := al_le st.rcv x
      simp only
      omega
theorem SB.wait1 {n m : Nat} {sts : List (Option St)} (h : SB n m sts) (c : Ca) (g : Int) : SB n (m + 1) (Lo.waitN sts c g) := by
  unfold Lo.waitN
  split
  · exact h.mono (Nat.le_refl _) (by omega)
  · rename_i st e
    exact (h.mono (Nat.le_refl _) (Nat.le_succ m)).set (SB.waitS _ _ (h.nm e))
theorem SB.leave {n m : Nat} {sts : List (Option St)} (h : SB n m sts) (g : Int) : SB n m (Fk.leaveS g sts) := by
  intro i st e
  unfold Fk.leaveS at e
  rw [List.getElem?_map] at e
  cases h1 : sts[i]? with
  | none => rw [h1] at e; cases e
  | some o =>
    rw [h1] at e
    cases o with
    | none => simp [Fk.dropO] at e
    | some st1 =>
      simp [Fk.dropO] at e
      subst e
      have := h i st1 h1
      have := dr_le g st1.snd
      have := dr_le g st1.rcv
      simp only [_root_.Go.Proofs.YtddchcekljndmaaGreat.Pi.dropS]
      omega
theorem SB.pkS {n m : Nat} {sts : List (Option St)} (h : SB n m sts) (g : Int) (l : List Ca) : ∀ k, SB n (m + k) (Fk.pkS g l sts k)
  | 0 => h
  | k + 1 => by
    have ih := SB.pkS h g l k
    unfold Fk.pkS
    split
    · exact ih.mono (Nat.le_refl _) (by omega)
    · unfold Fk.pk1
      split
      · exact ih.mono (Nat.le_refl _) (by omega)
      · rename_i st e
        exact (ih.mono (Nat.le_refl _) (Nat.le_succ _)).set (SB.waitS _ _ (ih.nm e))
theorem SB.pkA {n m : Nat} {sts : List (Option St)} (h : SB n m sts) (g : Int) (l : List Ca) (hl : l.length ≤ 4) : SB n (m + 4) (Fk.pkA g l sts) := by
  unfold Fk.pkA
  split
  · exact h.mono (Nat.le_refl _) (by omega)
  · split
    · exact h.mono (Nat.le_refl _) (by omega)
    · exact (SB.pkS h g l _).mono (Nat.le_refl _) (by omega)
end Lo
end Go.Proofs.YtddchcekljndmaaGreat
/- A loom closes a channel, over this seat's program. -/
namespace Go.Proofs.YtddchcekljndmaaGreat
open Go.ChangeShapes Go.WideShapes Go.ChangeAt Go.RowKit
namespace Lo
open Ba

section
variable {w w' : World} {col : Nat → Nat} {L N C B X : Nat} {FB : Nat → Prop} {pa : Option Addr} {pc : Nat} {bs : List (Option Nat)} {Fs : Nat → Nat → Prop} {ta : Option Addr} {tc : Nat} {s : Lm}
/-- the channels have changed; what else is new is no part of the loom -/
theorem LX.pipes3 {sts : List (Option St)} {Fs' : Nat → Nat → Prop} (h : LX w col L N C B X FB pa pc bs Fs ta tc s) (nw : Fk.NwA Fs' Fs w) (q : Fk.Qs _root_.Go.Proofs.YtddchcekljndmaaGreat.Pi.Pp w' (some ⟨X, 0, none⟩) bs Fs' sts) (kf : KF (Fk.All Fs) w w') :
    ∃ col', LX w' col' L N C B X FB pa pc bs Fs' ta tc { s with sts := sts } ∧ Tr col col' w w' ∧ ∀ x, w.heap.size ≤ x → ¬ Fk.All Fs' x → col' x = 7 := by
  obtain ⟨col', o, n, n7⟩ := ext_ex w col (Fk.All Fs') 4
  have c : Ch (fun c => c = 4) col col' w w' := ⟨kf.os, kf.tape, kf.output, kf.size, fun x hx hc => kf.block x hx (fun e => by
    obtain ⟨i, e⟩ := e
    exact hc (h.c4 i x e)), o⟩
  refine ⟨col', ⟨h.keepHp c (by simp), h.nml, h.keepPs c (by simp), h.keepCu c (by simp), h.nc, h.keepCr c (by simp), h.keepRw c (by simp), q, h.bl, h.keepTr c (by simp), h.k0 c, h.k1 c, h.k2 c, h.k3 c, fun i x hx => ?_, h.k5 c⟩, c.tr (fun _ (e : _ = _) => by omega), n7⟩
  rcases Nat.lt_or_ge x w.heap.size with e | e
  · rcases nw i x hx with z | z
    · obtain ⟨j, z⟩ := z
      exact h.k4 c j x z
    · omega
  · exact n x e ⟨i, hx⟩
/-- waiters that lie apart from the loom -/
def WA (w : World) (col : Nat → Nat) (oa : Option Addr) (l : List Wt) : Prop := Pe.WAt w oa l ∧ (0 < l.length → ∀ a, oa = some a → col a.block = 7)
theorem WA.tr {col' : Nat → Nat} {oa : Option Addr} {l : List Wt} (h : WA w col oa l) (t : Tr col col' w w') : WA w' col' oa l := by
  refine ⟨fun k x hk => ?_, fun h0 a e => (t.old _ (h.1.lt h0 a e)).trans (h.2 h0 a e)⟩
  have h0 : 0 < l.length := Nat.lt_of_le_of_lt (Nat.zero_le k) (List.getElem?_eq_some_iff.1 hk).1
  obtain ⟨b, off, e, q0, q1, q2⟩ := h.1 k x hk
  have hc := h.2 h0 _ e
  exact ⟨b, off, e, t.cell q0 hc, t.cell q1 hc, t.cell q2 hc⟩
/-- a channel that is open is closed -/
theorem close_at (h : LX w col L N C B X FB pa pc bs Fs ta tc s) {k B1 : Nat} (ho : bs[k]? = some (some B1)) {st : St} (e : s.sts[k]? = some (some st)) (hc : st.closed = false) :
    Calls Tryz.prog 98 #[.pointer (some ⟨B1, 0, none⟩)] w fun r w' => ∃ oa ca ob cb, r = .returned (.tuple #[.slice oa st.rcv.length ca, .slice ob st.snd.length cb, .int .i64 0]) ∧ ∃ Fs' col', LX w' col' L N C B X FB pa pc bs Fs' ta tc { s with sts := s.sts.set k (some (_root_.Go.Proofs.YtddchcekljndmaaGreat.Pi.closeS st)) } ∧ Tr col col' w w' ∧ WA w' col' oa st.rcv ∧ WA w' col' ob st.snd := by
  obtain ⟨st', e', q⟩ := h.qs.one k B1 ho
  rw [e] at e'
  cases e'
  refine (_root_.Go.Proofs.YtddchcekljndmaaGreat.Pi.close_apart B1 (Fs k) st w q hc).mono ?_
  rintro r w1 ⟨oa, ca, ob, cb, rfl, ⟨a1, a2, n1, n2⟩, kf, F', nw, p1, m1, m2⟩
  have hcs : _root_.Go.Proofs.YtddchcekljndmaaGreat.Pi.closeS st = { st with snd := [], rcv := [], closed := true } := by simp [_root_.Go.Proofs.YtddchcekljndmaaGreat.Pi.closeS, hc]
  have p2 : _root_.Go.Proofs.YtddchcekljndmaaGreat.Pi.Pp w1 B1 F' (_root_.Go.Proofs.YtddchcekljndmaaGreat.Pi.closeS st) := by rw [hcs]; exact p1
  have nwA : Fk.NwA (Fk.up Fs k F') Fs w := fun j x hx => by
    by_cases ej : j = k
    · subst ej
      rw [Fk.up_same] at hx
      rcases nw x hx with z | z
      · exact .inl ⟨j, z⟩
      · exact .inr z
    · rw [Fk.up_other _ _ _ _ ej] at hx
      exact .inl ⟨j, hx⟩
  obtain ⟨col1, h1, t1, n7⟩ := h.pipes3 nwA (h.qs.step Fk.frP ho kf nw p2 (h.qs.rl ho)) (kf.mono (fun x hx => ⟨k, hx⟩))
  have ap : ∀ a : Addr, w.heap.size ≤ a.block → ¬ F' a.block → col1 a.block = 7 := fun a ha hf => n7 _ ha (fun hA => by
    obtain ⟨j, hj⟩ := hA
    by_cases ej : j = k
    · subst ej
      rw [Fk.up_same] at hj
      exact hf hj
    · rw [Fk.up_other _ _ _ _ ej] at hj
      have := h.qs.bd j _ hj
      omega)
  exact ⟨oa, ca, ob, cb, rfl, _, col1, h1, t1, ⟨a1, fun h0 a e => ap a (n1 a e) (m1 h0 a e)⟩, ⟨a2, fun h0 a e => ap a (n2 a e) (m2 h0 a e)⟩⟩
end
theorem wakeAll_app (g c : Int) (s : Lm) (l : List Wt) (x : Wt) : wakeAll g c s (l ++ [x]) = if parked (wakeAll g c s l) x.g then wakesS (wakeAll g c s l) ⟨7, x.g, c, x.c, 0, g, false, false⟩ else wakeAll g c s l := by
  induction l generalizing s with
  | nil => rfl
  | cons y l ih => exact ih _
theorem wakeAll_take {g c : Int} {s : Lm} {l : List Wt} {j : Nat} {x : Wt} (h : l[j]? = some x) : wakeAll g c s (l.take (j + 1)) = if parked (wakeAll g c s (l.take j)) x.g then wakesS (wakeAll g c s (l.take j)) ⟨7, x.g, c, x.c, 0, g, false, false⟩ else wakeAll g c s (l.take j) := by
  rw [List.take_add_one, h]
  exact wakeAll_app g c s _ x
/-- bounds, while those that waited are woken -/
structure Bw (K : Nat) (s : Lm) : Prop where
  cb : Cr.Bn K s.cr
  tn : s.tr.length ≤ K
theorem Bw.wake {K : Nat} {s : Lm} (h : Bw K s) (e : Ev) : Bw (K + 1) (wakesS s e) := ⟨Cr.Bn.ch h.cb e.g 1 0 1 (by omega) (by omega), by show (s.tr ++ [e]).length ≤ _; have := h.tn; simp; omega⟩
theorem Bw.go {K : Nat} {s : Lm} (h : Bw K s) (e : Ev) : Bw (K + 1) (goS s e) := ⟨Cr.Bn.ch h.cb e.g 0 0 1 (by omega) (by omega), by show (s.tr ++ [e]).length ≤ _; have := h.tn; simp; omega⟩
theorem Bw.mono {K M : Nat} {s : Lm} (h : Bw K s) (hK : K ≤ M) : Bw M s := ⟨h.cb.mono hK, Nat.le_trans h.tn hK⟩
theorem Bw.all {K : Nat} {g c : Int} : ∀ {l : List Wt} {s : Lm}, Bw K s → Bw (K + l.length) (wakeAll g c s l) := by
  intro l
  induction l generalizing K with
  | nil => exact fun h => h
  | cons x l ih =>
    intro s h
    show Bw _ (wakeAll g c (if parked s x.g then _ else s) l)
    rw [List.length_cons, Nat.add_comm l.length 1, ← Nat.add_assoc]
    apply ih
    split
    · exact h.wake _
    · exact h.mono (by omega)
theorem first_take {s : Lm} {l : List Wt} : ∀ {j : Nat}, (∀ i x, i < j → l[i]? = some x → parked s x.g = false) → first s l = first s (l.drop j) := by
  intro j
  induction j generalizing l with
  | zero => intro _; rfl
  | succ j ih =>
    intro h
    cases l with
    | nil => rfl
    | cons x l =>
      have h0 := h 0 x (by omega) rfl
      show (if parked s x.g then x.g else first s l) = _
      rw [h0]
      exact ih (fun i y hi hy => h (i + 1) y (by omega) hy)
set_option maxRecDepth 100000 in
set_option maxHeartbeats 3200000 in
theorem closes_no (L : Nat) (col : Nat → Nat) (s : Lm) (g : Int) (k : Nat) (w : World) (h : LW w col L s) (hk : k < 8) (hno : ∀ st, Fk.nmB s.sts (k : Int) = some st → st.closed = true) :
    Calls Tryz.prog 72 #[.pointer (some ⟨L, 0, none⟩), .int .i64 g, .int .i64 (k : Int)] w fun r w' => r = .returned (.int .i64 g) ∧ w' = w := by
  obtain ⟨N, C, B, X, FB, pa, pc, bs, Fs, ta, tc, h⟩ := h
  have y3 : w.cell? ⟨L, 3, none⟩ = some (.slice (some ⟨X, 0, none⟩) 8 8) := cell_of h.hp 3
  have k0 : (0 : Int) ≤ (k : Int) := by omega
  have k8 : (k : Int) < 8 := by omega
  obtain ⟨o, ho, x0⟩ := h.at hk
  cases o with
  | none =>
    have x1 : w.cell? ⟨X, k, none⟩ = some (.pointer none) := x0
    clear h x0
    go_enter Tryz.func72, Tryz.ntmps72
    go_wp2_with fail
    refine (_root_.Go.Proofs.YtddchcekljndmaaGreat.Pi.close_nil _).mono ?_
    rintro r w1 ⟨rfl, rfl⟩
    go_wp2_with fail
    go_ret
    exact ⟨rfl, rfl⟩
  | some B1 =>
    have x1 : w.cell? ⟨X, k, none⟩ = some (.pointer (some ⟨B1, 0, none⟩)) := x0
    obtain ⟨st, e, q⟩ := h.qs.one k B1 ho
    have CL := hide (_root_.Go.Proofs.YtddchcekljndmaaGreat.Pi.close_closed B1 (Fs k) st w q (hno st (nm_at e)))
    clear h x0 q
    go_enter Tryz.func72, Tryz.ntmps72
    go_wp2_with fail
    refine CL.out.mono ?_
    rintro r w1 ⟨rfl, rfl⟩
    go_wp2_with fail
    go_ret
    exact ⟨rfl, rfl⟩
set_option maxRecDepth 100000 in
set_option maxHeartbeats 3200000 in
theorem closes_yes (L : Nat) (col : Nat → Nat) (s : Lm) (K : Nat) (g : Int) (k : Nat) (st : St) (w : World) (h : LW w col L s) (bw : Bw K s) (hK : K ≤ 90000) (hk : k < 8) (hst : Fk.nmB s.sts (k : Int) = some st) (hc : st.closed = false) (hl1 : st.rcv.length ≤ 1000) (hl2 : st.snd.length ≤ 1000) (s1 s2 : Lm)
    (hs1 : s1 = goS { s with sts := s.sts.set k (some (_root_.Go.Proofs.YtddchcekljndmaaGreat.Pi.closeS st)) } ⟨5, g, nth s.nm k, -1, -1, -1, false, false⟩) (hs2 : s2 = wakeAll g (nth s.nm k) s1 st.rcv) :
    Calls Tryz.prog 72 #[.pointer (some ⟨L, 0, none⟩), .int .i64 g, .int .i64 (k : Int)] w fun r w' => r = .returned (.int .i64 (first s2 st.snd)) ∧ ∃ col', LW w' col' L s2 ∧ Tr col col' w w' := by
  obtain ⟨N, C, B, X, FB, pa, pc, bs, Fs, ta, tc, h⟩ := h
  have y3 : w.cell? ⟨L, 3, none⟩ = some (.slice (some ⟨X, 0, none⟩) 8 8) := cell_of h.hp 3
  have k0 : (0 : Int) ≤ (k : Int) := by omega
  have k8 : (k : Int) < 8 := by omega
  have e := Fk.nmB_at hst
  rw [Int.toNat_natCast] at e
  obtain ⟨o, ho, x0⟩ := h.at hk
  cases o with
  | none => have := h.qs.non k ho; rw [e] at this; cases this
  | some B1 =>
  have x1 : w.cell? ⟨X, k, none⟩ = some (.pointer (some ⟨B1, 0, none⟩)) := x0
  have CL := hide (close_at h ho e hc)
  have BW := hide bw
  have HS1 := hide hs1
  have HS2 := hide hs2
  clear h x0 hs1 hs2 bw
  go_enter Tryz.func72, Tryz.ntmps72
  go_wp2_with fail
  refine CL.out.mono ?_
  rintro r w1 ⟨oa, ca, ob, cb, rfl, Fs1, col1, h1, t1, a1, a2⟩
  have T1 := hide t1
  have H1 := hide h1
  have A1 := hide a1
  have A2 := hide a2
  clear h1 t1 a1 a2 CL x1 y3
  go_wp2_with fail
  refine (En.bare_any 5 g _).mono ?_
  rintro r w2 ⟨rfl, b2⟩
  obtain ⟨col3, h3, t3, n3⟩ := H1.out.below (btr b2 (below_alloc w2 (.cells #[.int .i64 5, .int .i64 g, .int .i64 (nth s.nm k), .int .i64 (-1), .int .i64 (-1), .int .i64 (-1), .bool false, .bool false] 66)))
  have V3 := hide (heap_new w2 (.cells #[.int .i64 5, .int .i64 g, .int .i64 (nth s.nm k), .int .i64 (-1), .int .i64 (-1), .int .i64 (-1), .bool false, .bool false] 66))
  have C3 := hide (n3 w2.heap.size b2.size)
  have T3 := hide (T1.out.trans t3)
  have A13 := hide (A1.out.tr t3)
  have A23 := hide (A2.out.tr t3)
  have nu : w2.cell? ⟨L, 4 + k, none⟩ = some (.int .i64 (nth s.nm k)) := (cell_of (heap_below H1.out.hp b2) (4 + k)).trans ((cell_of H1.out.hp (4 + k)).symm.trans (H1.out.num hk))
  have hL2 : L < w2.heap.size := Nat.lt_of_lt_of_le H1.out.lt b2.size
  have GO := hide (goes_any L col3 _ K (⟨5, g, nth s.nm k, -1, -1, -1, false, false⟩ : Ev) _ h3.lw BW.out.cb (by omega) (by have := BW.out.tn; show s.tr.length ≤ _; omega))
  unfold En.evv En.evc at GO
  clear h3 t3 n3 b2 T1 H1 A1 A2
  go_wp2_with fail
  refine GO.out.mono ?_
  rintro r w4 ⟨rfl, col4, h4, t4⟩
  have H4 : Hid (LW w4 col4 L s1) := by rw [HS1.out]; exact h4
  have T4 := hide (T3.out.trans t4)
  have V4 := hide (t4.heap V3.out C3.out)
  have C4 : Hid (col4 w2.heap.size = 7) := (t4.old _ (heap_lt V3.out)).trans C3.out
  have A14 := hide (A13.out.tr t4)
  have A24 := hide (A23.out.tr t4)
  have B4 : Hid (Bw (K + 1) s1) := by
    show Bw _ _
    rw [HS1.out]
    exact Bw.go (s := { s with sts := s.sts.set k (some (_root_.Go.Proofs.YtddchcekljndmaaGreat.Pi.closeS st)) }) ⟨BW.out.cb, BW.out.tn⟩ _
  clear h4 t4 GO T3 V3 C3 A13 A23 nu hL2 BW HS1
  generalize w2.heap.size = Eb at *
  generalize hnu : nth s.nm k = nu at *
  go_wp2_with fail
  go_loopw [44] (fun iv wr => ∃ (j : Nat) (cj : Nat → Nat), j ≤ st.rcv.length ∧ iv = .int .i64 j ∧ LW wr cj L (wakeAll g nu s1 (st.rcv.take j)) ∧ Tr col cj w wr ∧ (wr.heap[Eb]? = some (.cells #[.int .i64 5, .int .i64 g, .int .i64 nu, .int .i64 (-1), .int .i64 (-1), .int .i64 (-1), .bool false, .bool false] 66 (0, 0)) ∧ cj Eb = 7) ∧ WA wr cj oa st.rcv ∧ WA wr cj ob st.snd) (fun iv _ => st.rcv.length - (intOf iv).toNat)
  case atStart => exact ⟨0, col4, Nat.zero_le _, rfl, H4.out, T4.out, ⟨V4.out, C4.out⟩, A14.out, A24.out⟩
  case round =>
    clear H4 T4 V4 C4 A14 A24
    obtain ⟨j, cj, hj, rfl, hlw, htr, ⟨hv, hcE⟩, ha1, ha2⟩ := hrel
    have HL := hide hlw
    have HT := hide htr
    have HV := hide hv
    have HC := hide hcE
    have HA1 := hide ha1
    have HA2 := hide ha2
    clear hlw htr hv hcE ha1 ha2
    by_cases hlt : j < st.rcv.length
    · have hlt' : (j : Int) < (st.rcv.length : Int) := by omega
      obtain ⟨x, hx⟩ : ∃ x, st.rcv[j]? = some x := ⟨_, List.getElem?_eq_getElem hlt⟩
      obtain ⟨b, off, hoa, q0, q1, q2⟩ := HA1.out.1 j x hx
      subst hoa
      have ST := hide (wakeAll_take (g := g) (c := nu) (s := s1) hx)
      have BJ : Hid (Bw (K + 1 + j) (wakeAll g nu s1 (st.rcv.take j))) := by
        have := Bw.all (g := g) (c := nu) (l := st.rcv.take j) B4.out
        rw [List.length_take, Nat.min_eq_left hj] at this
        exact this
      generalize wakeAll g nu s1 (st.rcv.take j) = sj at *
      obtain ⟨c5, h5, t5, n5⟩ := HL.out.below (below_alloc wr (.cells #[.int .i64 x.g, .int .i64 x.c, .int .i64 x.v] 158))
      have IP := hide (isParked_any L c5 sj x.g _ h5)
      have H5 := hide h5
      have T5 := hide (HT.out.trans t5)
      have V5 := hide (t5.heap HV.out HC.out)
      have C5 : Hid (c5 Eb = 7) := (t5.old _ (heap_lt HV.out)).trans HC.out
      have A15 := hide (HA1.out.tr t5)
      have A25 := hide (HA2.out.tr t5)
      have vE : wr.cell? ⟨Eb, 2, none⟩ = some (.int .i64 nu) := cell_of HV.out 2
      have hEr := heap_lt HV.out
      clear h5 t5 n5 HL HT HV HC HA1 HA2
      cases hp : parked sj x.g
      · rw [hp] at IP ST
        go_wp2_with fail
        refine IP.out.mono ?_
        rintro r w6 ⟨rfl, rfl⟩
        go_wp2_with fail
        go_roundw
        case rel => exact ⟨j + 1, c5, by omega, by go_num, by rw [ST.out]; exact H5.out, T5.out, ⟨V5.out, C5.out⟩, A15.out, A25.out⟩
        case measure => simp [intOf]; omega
      · rw [hp] at IP ST
        have WK := hide (wakes_any L c5 sj (K + 1 + j) (⟨7, x.g, nu, x.c, 0, g, false, false⟩ : Ev) _ H5.out BJ.out.cb (by omega) (by have := BJ.out.tn; omega))
        unfold En.evv En.evc at WK
        go_wp2_with fail
        refine IP.out.mono ?_
        rintro r w6 ⟨rfl, rfl⟩
        go_wp2_with fail
        refine WK.out.mono ?_
        rintro r w7 ⟨rfl, c7, h7, t7⟩
        have H7 := hide h7
        have T7 := hide (T5.out.trans t7)
        have V7 := hide (t7.heap V5.out C5.out)
        have C7 : Hid (c7 Eb = 7) := (t7.old _ (heap_lt V5.out)).trans C5.out
        have A17 := hide (A15.out.tr t7)
        have A27 := hide (A25.out.tr t7)
        clear h7 t7 WK IP
        go_wp2_with fail
        go_roundw
        case rel => exact ⟨j + 1, c7, by omega, by go_num, by rw [ST.out]; exact H7.out, T7.out, ⟨V7.out, C7.out⟩, A17.out, A27.out⟩
        case measure => simp [intOf]; omega
    · have hlt' : ¬ ((j : Int) < (st.rcv.length : Int)) := by omega
      have H2 : Hid (LW wr cj L s2) := by
        have := HL.out
        rw [List.take_of_length_le (by omega), ← HS2.out] at this
        exact this
      clear HL HA1 HV HC HS2 B4
      go_wp2_with fail
      go_loopw [65] (fun iv wr => ∃ (j : Nat) (cj : Nat → Nat), j ≤ st.snd.length ∧ iv = .int .i64 j ∧ LW wr cj L s2 ∧ Tr col cj w wr ∧ WA wr cj ob st.snd ∧ ∀ i x, i < j → st.snd[i]? = some x → parked s2 x.g = false) (fun iv _ => st.snd.length - (intOf iv).toNat)
      case atStart => exact ⟨0, cj, Nat.zero_le _, rfl, H2.out, HT.out, HA2.out, fun i x hi => by omega⟩
      case round =>
        clear H2 HT HA2
        rename World => wr2
        obtain ⟨i, ci, hi, rfl, hlw, htr, ha2, hno⟩ := hrel
        have HL := hide hlw
        have HT := hide htr
        have HA2 := hide ha2
        have NO := hide hno
        clear hlw htr ha2 hno
        by_cases hlt2 : i < st.snd.length
        · have hlt2' : (i : Int) < (st.snd.length : Int) := by omega
          obtain ⟨x, hx⟩ : ∃ x, st.snd[i]? = some x := ⟨_, List.getElem?_eq_getElem hlt2⟩
          obtain ⟨b, off, hoa, q0, q1, q2⟩ := HA2.out.1 i x hx
          subst hoa
          obtain ⟨c5, h5, t5, n5⟩ := HL.out.below (below_alloc wr2 (.cells #[.int .i64 x.g, .int .i64 x.c, .int .i64 x.v] 158))
          have IP := hide (isParked_any L c5 s2 x.g _ h5)
          have H5 := hide h5
          have T5 := hide (HT.out.trans t5)
          have A25 := hide (HA2.out.tr t5)
          have HX := hide hx
          clear h5 t5 n5 HL HT HA2 hx
          cases hp : parked s2 x.g
          · rw [hp] at IP
            have NO2 : Hid (∀ i' x, i' < i + 1 → st.snd[i']? = some x → parked s2 x.g = false) := fun i' y hi' hy => by
              rcases Nat.lt_or_ge i' i with q | q
              · exact NO.out i' y q hy
              · obtain rfl : i' = i := by omega
                rw [HX.out] at hy
                cases hy
                exact hp
            go_wp2_with fail
            refine IP.out.mono ?_
            rintro r w6 ⟨rfl, rfl⟩
            go_wp2_with fail
            go_roundw
            case rel => exact ⟨i + 1, c5, by omega, by go_num, H5.out, T5.out, A25.out, NO2.out⟩
            case measure => simp [intOf]; omega
          · rw [hp] at IP
            have FR : Hid (first s2 st.snd = x.g) := by
              show _ = _
              rw [first_take NO.out, List.drop_eq_getElem_cons hlt2]
              have : st.snd[i] = x := by have h1 := HX.out; rw [List.getElem?_eq_getElem hlt2] at h1; cases h1; rfl
              rw [this]
              show (if parked s2 x.g then x.g else _) = _
              rw [hp]
              rfl
            go_wp2_with fail
            refine IP.out.mono ?_
            rintro r w6 ⟨rfl, rfl⟩
            go_wp2_with fail
            go_ret
            exact ⟨by (rw [FR.out]) <;> rfl, c5, H5.out, T5.out⟩
        · have hlt2' : ¬ ((i : Int) < (st.snd.length : Int)) := by omega
          have FR : Hid (first s2 st.snd = -1) := by
            show _ = _
            rw [first_take NO.out, List.drop_eq_nil_of_le (by omega)]
            rfl
          go_wp2_with fail
          go_ret
          exact ⟨by (rw [FR.out]) <;> rfl, ci, HL.out, HT.out⟩
theorem closes_any (L : Nat) (col : Nat → Nat) (s : Lm) (K : Nat) (g : Int) (k : Nat) (w : World) (h : LW w col L s) (ok : Ok K s) (hK : K ≤ 90000) (hk : k < 8) :
    Calls Tryz.prog 72 #[.pointer (some ⟨L, 0, none⟩), .int .i64 g, .int .i64 (k : Int)] w fun r w' => r = .returned (.int .i64 (closesF s g k).who) ∧ ∃ col', LW w' col' L (closesF s g k).s ∧ Tr col col' w w' := by
  have no : ∀ (hno : ∀ st, Fk.nmB s.sts (k : Int) = some st → st.closed = true) (_ : closesF s g k = ⟨s, g⟩), Calls Tryz.prog 72 #[.pointer (some ⟨L, 0, none⟩), .int .i64 g, .int .i64 (k : Int)] w fun r w' => r = .returned (.int .i64 (closesF s g k).who) ∧ ∃ col', LW w' col' L (closesF s g k).s ∧ Tr col col' w w' := by
    intro hno he
    rw [he]
    refine (closes_no L col s g k w h hk hno).mono ?_
    rintro r w1 ⟨rfl, rfl⟩
    exact ⟨rfl, col, h, Tr.refl _ _⟩
  cases hst : Fk.nmB s.sts (k : Int) with
  | none => exact no (fun st e => by rw [hst] at e; cases e) (by unfold closesF; rw [hst])
  | some st =>
    cases hc : st.closed
    · have he : closesF s g k = ⟨wakeAll g (nth s.nm k) (goS { s with sts := s.sts.set k (some (_root_.Go.Proofs.YtddchcekljndmaaGreat.Pi.closeS st)) } ⟨5, g, nth s.nm k, -1, -1, -1, false, false⟩) st.rcv, first (wakeAll g (nth s.nm k) (goS { s with sts := s.sts.set k (some (_root_.Go.Proofs.YtddchcekljndmaaGreat.Pi.closeS st)) } ⟨5, g, nth s.nm k, -1, -1, -1, false, false⟩) st.rcv) st.snd⟩ := by
        unfold closesF
        rw [hst]
        simp [hc, num]
      rw [he]
      have hw := ok.wl _ st (Fk.nmB_at hst)
      exact closes_yes L col s K g k st w h ⟨ok.cb, ok.tn⟩ hK hk hst hc (hw false) (hw true) _ _ rfl rfl
    · exact no (fun st' e => by rw [hst] at e; cases e; exact hc) (by unfold closesF; rw [hst]; simp [hc])
end Lo
end Go.Proofs.YtddchcekljndmaaGreat
/- Each step of a loom tells something; what its steps keep. -/
namespace Go.Proofs.YtddchcekljndmaaGreat
namespace Lo
open Ba

/-- something more is told -/
def SP (s s' : Lm) : Prop := ∃ e l, s'.tr = s.tr ++ e :: l
/-- something more may be told -/
def WP (s s' : Lm) : Prop := ∃ l, s'.tr = s.tr ++ l
theorem WP.refl (s : Lm) : WP s s := ⟨[], by simp⟩
theorem SP.wp {s s' : Lm} (h : SP s s') : WP s s' := by
  obtain ⟨e, l, h⟩ := h
  exact ⟨_, h⟩
theorem WP.trans {a b c : Lm} (h : WP a b) (k : WP b c) : WP a c := by
  obtain ⟨l, h⟩ := h
  obtain ⟨m, k⟩ := k
  exact ⟨l ++ m, by rw [k, h, List.append_assoc]⟩
theorem SP.trans {a b c : Lm} (h : SP a b) (k : WP b c) : SP a c := by
  obtain ⟨e, l, h⟩ := h
  obtain ⟨m, k⟩ := k
  exact ⟨e, l ++ m, by rw [k, h]; simp⟩
theorem WP.sp {a b c : Lm} (h : WP a b) (k : SP b c) : SP a c := by
  obtain ⟨l, h⟩ := h
  obtain ⟨e, m, k⟩ := k
  cases l with
  | nil => exact ⟨e, m, by rw [k, h]; simp⟩
  | cons x l => exact ⟨x, l ++ e :: m, by rw [k, h]; simp⟩
theorem sp_tell {s s' : Lm} (e : Ev) (h : s'.tr = s.tr) : SP s (tellS s' e) := ⟨e, [], by show s'.tr ++ [e] = _; rw [h]⟩
theorem crdy_try {sts : List (Option St)} {c : Ca} (h : Fk.crdy sts c = true) : ¬ (Fk.tryE sts c = 0 ∧ (Fk.tryG sts c).rd = false) := by
  unfold Fk.crdy at h
  cases hn : Fk.nmB sts c.ch with
  | none => rw [hn] at h; cases h
  | some st =>
    rw [hn] at h
    simp only at h
    unfold Fk.tryE Fk.tryG
    rw [hn]
    simp only
    unfold _root_.Go.Proofs.YtddchcekljndmaaGreat.Pi.rdy _root_.Go.Proofs.YtddchcekljndmaaGreat.Pi.room _root_.Go.Proofs.YtddchcekljndmaaGreat.Pi.own at h
    cases hs : c.sd
    · rw [hs] at h
      simp at h
      simp
      unfold _root_.Go.Proofs.YtddchcekljndmaaGreat.Pi.recvG
      split
      · rename_i e1 e2
        rw [e1, e2] at h
        simp at h
        simp [h]
      · simp
      · simp
      · simp
    · rw [hs] at h
      simp at h
      simp
      unfold _root_.Go.Proofs.YtddchcekljndmaaGreat.Pi.sendE _root_.Go.Proofs.YtddchcekljndmaaGreat.Pi.sendG
      intro h0
      split at h0
      · omega
      · rename_i hc
        rw [if_neg hc]
        split
        · simp
        · rename_i e1
          rw [e1] at h
          simp [hc] at h
          simp [h]
theorem wp_try (s : Lm) (g at_ : Int) (c : Ca) : WP s (tryF s g at_ c).s := by
  unfold tryF
  split
  · exact ⟨[], by simp⟩
  · split
    · exact ⟨[_] ++ [_], List.append_assoc s.tr [_] [_]⟩
    · exact ⟨[_], rfl⟩
theorem sp_try {s : Lm} {g at_ : Int} {c : Ca} (h : (tryF s g at_ c).done = true) : SP s (tryF s g at_ c).s := by
  unfold tryF at h ⊢
  split
  · rename_i h1
    rw [if_pos h1] at h
    cases h
  · split
    · exact ⟨_, [_], List.append_assoc s.tr [_] [_]⟩
    · exact ⟨_, [], rfl⟩
theorem sp_alone {s : Lm} {g : Int} {c : Ca} (h : (aloneF s g c).fine = true) : SP s (aloneF s g c).s := by
  unfold aloneF at h ⊢
  split
  · rename_i h1
    rw [if_pos h1] at h
    have hd : (tryF s g (-1) c).done = true := by
      simp only at h
      rw [h] at h1
      simpa using h1
    exact sp_try hd
  · exact (wp_try s g (-1) c).sp (sp_tell _ rfl)
theorem recv_fine (s : Lm) (g : Int) (c : Ca) (hc : c.sd = false) : (aloneF s g c).fine = true := by
  have h0 : (tryF s g (-1) c).fine = true := by
    unfold tryF
    have : Fk.tryE s.sts c = 0 := by
      unfold Fk.tryE
      split
      · rfl
      · simp [hc]
    split
    · simp [this]
    · split <;> rfl
  unfold aloneF
  split
  · exact h0
  · rfl
theorem ps_at {P : Nat → Bool} {n k : Nat} (hk : k < (Fk.ps P n).length) : ∃ p : Nat, nth (Fk.ps P n) k = (p : Int) ∧ p < n ∧ P p = true := Fk.ps_mem hk
theorem sp_choose {s : Lm} {g : Int} {o : OpD} (h : (chooseF s g o).fine = true) (hd : ∀ x ∈ s.d, 0 ≤ x) (h4 : o.cases.length ≤ 4) : SP s (chooseF s g o).s := by
  unfold chooseF at h ⊢
  split
  · rename_i h1
    rw [if_pos h1] at h
    simp only at h
    have hl4 : (Fk.rdyL (cas o) s.sts).length ≤ 4 := Nat.le_trans (Fk.ps_len _ _) (by unfold cas; rw [List.length_map]; exact h4)
    obtain ⟨i, hi, hin⟩ := dv_nat (n := (Fk.rdyL (cas o) s.sts).length) hd h1 hl4
    obtain ⟨p, hp, hpl, hP⟩ := ps_at (P := fun i => match (cas o)[i]? with | none => false | some c => Fk.crdy s.sts c) (n := (cas o).length) hin
    have e1 : nth (Fk.rdyL (cas o) s.sts) i = (p : Int) := hp
    rw [hi, Int.toNat_natCast, e1] at h ⊢
    have hc : Fk.crdy s.sts (caseAt o p) = true := by
      have h2 : (cas o)[p]? = some (cas o)[p] := List.getElem?_eq_getElem hpl
      simp only [h2] at hP
      unfold caseAt
      rw [Int.toNat_natCast, h2]
      exact hP
    have hn := crdy_try hc
    refine sp_try (s := { s with d := _ }) ?_
    unfold tryF at h ⊢
    split
    · rename_i h3
      rw [if_pos h3] at h
      simp at h
      exact absurd ⟨h, by rcases h3 with q | q; exact absurd h q; exact q⟩ hn
    · split <;> rfl
  · split
    · exact ⟨_, [], rfl⟩
    · exact ⟨_, [], rfl⟩
theorem wp_all (g c : Int) : ∀ (l : List Wt) (s : Lm), WP s (wakeAll g c s l)
  | [], s => WP.refl s
  | x :: l, s => by
    show WP s (wakeAll g c (if parked s x.g then _ else s) l)
    refine WP.trans ?_ (wp_all g c l _)
    split
    · exact ⟨[_], rfl⟩
    · exact WP.refl s
theorem wp_closes (s : Lm) (g k : Int) : WP s (closesF s g k).s := by
  unfold closesF
  split
  · exact WP.refl s
  · split
    · exact WP.refl s
    · exact WP.trans (b := goS { s with sts := _ } _) ⟨[_], rfl⟩ (wp_all _ _ _ _)
theorem sp_closes {s : Lm} {g k : Int} (hg : g ≠ -1) (h : (closesF s g k).who = -1) : SP s (closesF s g k).s := by
  unfold closesF at h ⊢
  split
  · rename_i e
    rw [e] at h
    exact absurd h hg
  · rename_i st e
    rw [e] at h
    simp only at h
    split
    · rename_i hc
      rw [if_pos hc] at h
      exact absurd h hg
    · exact SP.trans (b := goS { s with sts := _ } _) ⟨_, [], rfl⟩ (wp_all _ _ _ _)
theorem sp_do {s : Lm} {g : Int} {o : OpD} {n : Int} (ho : De.chk o n = 0) (hd : ∀ x ∈ s.d, 0 ≤ x) (hg : g ≠ -1) : SP s (doF s g o) := by
  obtain ⟨-, hk, h4, -⟩ := op_ok ho
  unfold doF
  split
  · exact ⟨_, [], rfl⟩
  · split
    · exact ⟨_, [], rfl⟩
    · split
      · exact ⟨_, [], rfl⟩
      · split
        · exact ⟨_, [], rfl⟩
        · split
          · exact ⟨_, [], rfl⟩
          · split
            · split
              · exact sp_alone (by assumption)
              · refine WP.sp ?_ (sp_tell _ rfl)
                unfold aloneF
                split
                · exact wp_try _ _ _ _
                · exact ((wp_try s g (-1) _).sp (sp_tell _ rfl)).wp
            · split
              · exact sp_alone (recv_fine _ _ _ rfl)
              · split
                · split
                  · exact sp_closes hg (by assumption)
                  · exact (wp_closes _ _ _).sp (sp_tell _ rfl)
                · split
                  · split
                    · exact sp_choose (by assumption) hd h4
                    · refine WP.sp ?_ (sp_tell _ rfl)
                      unfold chooseF
                      split
                      · obtain ⟨l, hl⟩ := wp_try { s with d := Pk.dr s.d (Fk.rdyL (cas o) s.sts).length } g (nth (Fk.rdyL (cas o) s.sts) (Pk.dv s.d (Fk.rdyL (cas o) s.sts).length).toNat) (caseAt o (nth (Fk.rdyL (cas o) s.sts) (Pk.dv s.d (Fk.rdyL (cas o) s.sts).length).toNat))
                        exact ⟨l, hl⟩
                      · split
                        · exact ⟨[_], rfl⟩
                        · exact ⟨[_], rfl⟩
                  · omega
end Lo
end Go.Proofs.YtddchcekljndmaaGreat
/- What a loom's steps keep. -/
namespace Go.Proofs.YtddchcekljndmaaGreat
namespace Lo
open Ba

/-- bounds: m programs, K of places and the trace, n of counts, M of those that wait, C goroutines, D channels -/
structure B1 (m K n M C D : Nat) (s : Lm) : Prop where
  bw : Bw K s
  cp : ∀ x ∈ s.cr, 0 ≤ x.p ∧ x.p < m
  cl : s.cr.length ≤ C
  sb : SB n M s.sts
  sl : s.sts.length = 8
  nl : s.nm.length = 8
  md : 0 ≤ s.md ∧ s.md ≤ D
section
variable {m K n M C D : Nat} {s : Lm}
theorem B1.mono {K' n' M' C' D' : Nat} (h : B1 m K n M C D s) (h1 : K ≤ K') (h2 : n ≤ n') (h3 : M ≤ M') (h4 : C ≤ C') (h5 : D ≤ D') : B1 m K' n' M' C' D' s :=
  ⟨h.bw.mono h1, h.cp, Nat.le_trans h.cl h4, h.sb.mono h2 h3, h.sl, h.nl, by have := h.md; omega⟩
theorem ch_cp {l : List Mb} (h : ∀ x ∈ l, 0 ≤ x.p ∧ x.p < (m : Int)) (g a b d : Int) : ∀ x ∈ Cr.chL l g a b d, 0 ≤ x.p ∧ x.p < (m : Int) := by
  unfold Cr.chL
  split
  · exact h
  · rename_i y hy
    split
    · intro x hx
      obtain ⟨k, rfl, hk, hk2⟩ := Cr.gt_some hy
      rcases List.mem_or_eq_of_mem_set hx with q | q
      · exact h x q
      · rw [q]
        exact h y (List.mem_of_getElem? hk2)
    · exact h
theorem ch_len (l : List Mb) (g a b d : Int) : (Cr.chL l g a b d).length = l.length := by
  unfold Cr.chL
  split
  · rfl
  · split <;> simp
theorem B1.tell (h : B1 m K n M C D s) (e : Ev) : B1 m (K + 1) n M C D (tellS s e) :=
  ⟨⟨h.bw.cb.mono (by omega), by show (s.tr ++ [e]).length ≤ _; have := h.bw.tn; simp; omega⟩, h.cp, h.cl, h.sb, h.sl, h.nl, h.md⟩
theorem B1.ch (h : B1 m K n M C D s) (e : Ev) (a b d : Int) (hb : 0 ≤ b ∧ b ≤ 2) (hd : 0 ≤ d ∧ d ≤ 1) : B1 m (K + 1) n M C D (tellS { s with cr := Cr.chL s.cr e.g a b d } e) :=
  ⟨⟨Cr.Bn.ch h.bw.cb e.g a b d hb hd, by show (s.tr ++ [e]).length ≤ _; have := h.bw.tn; simp; omega⟩, ch_cp h.cp _ _ _ _, by show (Cr.chL s.cr e.g a b d).length ≤ _; rw [ch_len]; exact h.cl, h.sb, h.sl, h.nl, h.md⟩
theorem B1.sts {n' M' : Nat} {sts : List (Option St)} (h : B1 m K n M C D s) (hs : SB n' M' sts) (hl : sts.length = s.sts.length) : B1 m K n' M' C D { s with sts := sts } :=
  ⟨⟨h.bw.cb, h.bw.tn⟩, h.cp, h.cl, hs, hl.trans h.sl, h.nl, h.md⟩
theorem B1.go (h : B1 m K n M C D s) (e : Ev) : B1 m (K + 1) n M C D (goS s e) := h.ch e 0 0 1 (by omega) (by omega)
theorem B1.waits (h : B1 m K n M C D s) (e : Ev) : B1 m (K + 1) n M C D (waitsS s e) := h.ch e 0 1 0 (by omega) (by omega)
theorem B1.wakes (h : B1 m K n M C D s) (e : Ev) : B1 m (K + 1) n M C D (wakesS s e) :=
  (h.sts (h.sb.leave e.g) (by unfold Fk.leaveS; simp)).ch e 1 0 1 (by omega) (by omega)
theorem try_len (sts : List (Option St)) (c : Ca) : (Fk.tryS sts c).length = sts.length := by
  unfold Fk.tryS
  split <;> simp
theorem B1.try (h : B1 m K n M C D s) (g at_ : Int) (c : Ca) : B1 m (K + 2) (n + 1) M C D (tryF s g at_ c).s := by
  have h1 := h.sts (h.sb.try c) (try_len _ _)
  unfold tryF
  split
  · exact h1.mono (by omega) (by omega) (by omega) (by omega) (by omega)
  · split
    · exact (h1.go _).wakes _
    · exact (h1.go _).mono (by omega) (by omega) (by omega) (by omega) (by omega)
theorem wait_len (sts : List (Option St)) (c : Ca) (g : Int) : (waitN sts c g).length = sts.length := by
  unfold waitN
  split <;> simp
theorem B1.alone (h : B1 m K n M C D s) (g : Int) (c : Ca) : B1 m (K + 3) (n + 1) (M + 1) C D (aloneF s g c).s := by
  have h1 := h.try g (-1) c
  unfold aloneF
  split
  · exact h1.mono (by omega) (by omega) (by omega) (by omega) (by omega)
  · exact (h1.sts (h1.sb.wait1 c g) (wait_len _ _ _)).waits _
theorem pkS_len (g : Int) (l : List Ca) (sts : List (Option St)) : ∀ k, (Fk.pkS g l sts k).length = sts.length
  | 0 => rfl
  | k + 1 => by
    unfold Fk.pkS
    split
    · exact pkS_len g l sts k
    · unfold Fk.pk1
      split
      · exact pkS_len g l sts k
      · rw [List.length_set]
        exact pkS_len g l sts k
theorem pkA_len (g : Int) (l : List Ca) (sts : List (Option St)) : (Fk.pkA g l sts).length = sts.length := by
  unfold Fk.pkA
  split
  · rfl
  · split
    · rfl
    · exact pkS_len _ _ _ _
theorem B1.choose (h : B1 m K n M C D s) (g : Int) (o : OpD) (h4 : o.cases.length ≤ 4) : B1 m (K + 3) (n + 1) (M + 4) C D (chooseF s g o).s := by
  unfold chooseF
  split
  · have h1 : B1 m K n M C D { s with d := Pk.dr s.d (Fk.rdyL (cas o) s.sts).length } := ⟨⟨h.bw.cb, h.bw.tn⟩, h.cp, h.cl, h.sb, h.sl, h.nl, h.md⟩
    exact (h1.try _ _ _).mono (by omega) (by omega) (by omega) (by omega) (by omega)
  · split
    · exact (h.go _).mono (by omega) (by omega) (by omega) (by omega) (by omega)
    · exact ((h.sts (h.sb.pkA g (cas o) (by unfold cas; rw [List.length_map]; exact h4)) (pkA_len _ _ _)).waits _).mono (by omega) (by omega) (by omega) (by omega) (by omega)
theorem B1.all (g c : Int) : ∀ (l : List Wt) {K : Nat} {s : Lm}, B1 m K n M C D s → B1 m (K + l.length) n M C D (wakeAll g c s l)
  | [], K, s, h => h
  | x :: l, K, s, h => by
    show B1 m _ n M C D (wakeAll g c (if parked s x.g then _ else s) l)
    rw [List.length_cons, Nat.add_comm l.length 1, ← Nat.add_assoc]
    apply B1.all g c l
    split
    · exact h.wakes _
    · exact h.mono (by omega) (by omega) (by omega) (by omega) (by omega)
theorem B1.closes (h : B1 m K n M C D s) (g k : Int) : B1 m (K + 1 + M) n M C D (closesF s g k).s := by
  unfold closesF
  split
  · exact h.mono (by omega) (by omega) (by omega) (by omega) (by omega)
  · rename_i st e
    split
    · exact h.mono (by omega) (by omega) (by omega) (by omega) (by omega)
    · rename_i hc
      have hs := h.sb.nm e
      have h1 : B1 m K n M C D { s with sts := s.sts.set k.toNat (some (_root_.Go.Proofs.YtddchcekljndmaaGreat.Pi.closeS st)) } := h.sts (h.sb.set (by unfold _root_.Go.Proofs.YtddchcekljndmaaGreat.Pi.closeS; rw [if_neg hc]; simp; omega)) (by simp)
      exact (B1.all _ _ _ (h1.go _)).mono (by omega) (by omega) (by omega) (by omega) (by omega)
theorem B1.panic (h : B1 m K n M C D s) (g : Int) : B1 m (K + 1) n M C D (panicS s g) := by
  have h1 : B1 m K n M C D { s with pk := true } := ⟨⟨h.bw.cb, h.bw.tn⟩, h.cp, h.cl, h.sb, h.sl, h.nl, h.md⟩
  exact h1.tell _
theorem B1.do_ (h : B1 m K n M C D s) (g : Int) (o : OpD) (ho : De.chk o (m : Int) = 0) : B1 m (K + 4 + M) (n + 1) (M + 4) (C + 1) (D + 1) (doF s g o) := by
  obtain ⟨-, hk, h4, ha, hb, -, hcs⟩ := op_ok ho
  unfold doF
  split
  · rename_i h1
    rw [h1] at ha
    simp [De.mA] at ha
    have hsp : B1 m K n M (C + 1) D { s with cr := Cr.spL s.cr o.a } := by
      refine ⟨⟨Cr.Bn.sp h.bw.cb _, h.bw.tn⟩, ?_, ?_, h.sb, h.sl, h.nl, h.md⟩
      · show ∀ x ∈ Cr.spL s.cr o.a, _
        unfold Cr.spL
        rw [if_neg (by omega)]
        split
        · exact h.cp
        · intro x hx
          rw [List.mem_append] at hx
          rcases hx with q | q
          · exact h.cp x q
          · simp at q
            rw [q]
            simp
            omega
      · show (Cr.spL s.cr o.a).length ≤ _
        have := h.cl
        unfold Cr.spL
        split
        · omega
        · split
          · omega
          · simp; omega
    exact (hsp.go _).mono (by omega) (by omega) (by omega) (by omega) (by omega)
  · split
    · have hop : B1 m K n M C (D + 1) (opensS s o.a o.b) := by
        refine ⟨⟨h.bw.cb, h.bw.tn⟩, h.cp, h.cl, h.sb.set (by simp [_root_.Go.Proofs.YtddchcekljndmaaGreat.Pi.st0]), ?_, ?_, ?_⟩
        · show (s.sts.set _ _).length = 8
          rw [List.length_set]
          exact h.sl
        · show (s.nm.set _ _).length = 8
          rw [List.length_set]
          exact h.nl
        · show 0 ≤ s.md + 1 ∧ s.md + 1 ≤ ((D + 1 : Nat) : Int)
          have := h.md
          omega
      exact (hop.go _).mono (by omega) (by omega) (by omega) (by omega) (by omega)
    · split
      · exact (h.go _).mono (by omega) (by omega) (by omega) (by omega) (by omega)
      · split
        · exact (h.go _).mono (by omega) (by omega) (by omega) (by omega) (by omega)
        · split
          · exact (h.ch (bareE 11 g) 0 2 0 (by omega) (by omega)).mono (by omega) (by omega) (by omega) (by omega) (by omega)
          · split
            · split
              · exact (h.alone _ _).mono (by omega) (by omega) (by omega) (by omega) (by omega)
              · exact ((h.alone _ _).panic _).mono (by omega) (by omega) (by omega) (by omega) (by omega)
            · split
              · exact (h.alone _ _).mono (by omega) (by omega) (by omega) (by omega) (by omega)
              · split
                · split
                  · exact (h.closes _ _).mono (by omega) (by omega) (by omega) (by omega) (by omega)
                  · exact ((h.closes _ _).panic _).mono (by omega) (by omega) (by omega) (by omega) (by omega)
                · split
                  · split
                    · exact (h.choose _ _ h4).mono (by omega) (by omega) (by omega) (by omega) (by omega)
                    · exact ((h.choose _ _ h4).panic _).mono (by omega) (by omega) (by omega) (by omega) (by omega)
                  · exact h.mono (by omega) (by omega) (by omega) (by omega) (by omega)
end
end Lo
end Go.Proofs.YtddchcekljndmaaGreat
