import Derived.Test.YtblfimobiibmjabGreatZjAx9
import Derived.OwnWalk
import Derived.Deep.RegionHeld3
import Derived.Deep.AppendLies
import Derived.Deep.RegionLaw
import Derived.Deep.RegionWith
import Derived.Laws.EntriesVeiled
namespace Go.Proofs.YtblfimobiibmjabGreat
open Go.ChangeShapes Go.WideShapes Go.ChangeAt Go.RowKit
namespace Pi
open Ba Pe
end Pi
end Go.Proofs.YtblfimobiibmjabGreat
namespace Go.Proofs.YtblfimobiibmjabGreat
open Go.ChangeShapes Go.WideShapes Go.ChangeAt Go.RowKit
namespace Pi
open Ba Pe
end Pi
end Go.Proofs.YtblfimobiibmjabGreat
namespace Go.Proofs.YtblfimobiibmjabGreat
open Go.ChangeShapes Go.WideShapes Go.ChangeAt Go.RowKit
namespace Pi
open Ba Pe
theorem results_row1 {fn : Func} {p : Tmp} {ty : TypeId} (h : fn.results = #[.cell p ty]) (tmps : Array Value) (w : World) (g : Nat) (cs : Array Value)
 (hp : tmps.getD p undef = .pointer (some ⟨g, 0, none⟩)) (hl : (loadVar ty ⟨g, 0, none⟩).run Tryz.prog w = .ok (.agg cs) w) :
 (results fn tmps).run Tryz.prog w = .ok (.agg cs) w := by
 have hp' : tmps[p]?.getD undef = .pointer (some ⟨g, 0, none⟩) := by simpa using hp
 simp [results, h, hp', asAddr, hl]
end Pi
end Go.Proofs.YtblfimobiibmjabGreat
namespace Go.Proofs.YtblfimobiibmjabGreat
open Go.ChangeShapes Go.WideShapes Go.ChangeAt Go.RowKit
namespace Rp
open Ba Pe _root_.Go.Proofs.YtblfimobiibmjabGreat.Pi
theorem size_set (w : World) (a : Addr) (v : Value) : (w.setCell a v).heap.size = w.heap.size := by simp [World.setCell]
theorem own_wat {w : World} {base : Nat} {oa : Option Addr} {n c : Nat} {l : List Wt} (h : w.ownsRow base 123 3 (.slice oa n c) l.length (wc l)) : WAt w oa l := by
 obtain ⟨ob, d, e, hA, _⟩ := owns_wat h
 cases e
 exact hA
set_option maxRecDepth 100000 in
set_option maxHeartbeats 3200000 in
theorem rrecv_none (G : Nat) (F : Nat → Prop) (st : St) (w : World) (h : Rr w G F st) (hb : st.buf = []) (hr : st.snd = []) :
 Calls Tryz.prog 110 #[.pointer (some ⟨G, 0, none⟩)] w fun r w' => r = .returned (gv ⟨st.closed, false, false, 0, ⟨0, 0, 0⟩⟩) ∧ KF F w w' ∧ ∃ F', Nw F' F w ∧ Rr w' G F' st := by
 have hG := h.lt
 obtain ⟨vL, vS, vQ, h⟩ := h
 obtain ⟨ol, cl, os, cs, oq, cq, ⟨rfl, _, _⟩, ⟨rfl, _, _⟩, rfl, _, _⟩ := h.read
 have y2 : w.cell? ⟨G, 2, none⟩ = some (.slice os 0 cs) := (cell_of h.hp 2).trans (by rw [hr]; rfl)
 have y1 : w.cell? ⟨G, 1, none⟩ = some (.slice ol 0 cl) := (cell_of h.hp 1).trans (by rw [hb]; rfl)
 have y4 : w.cell? ⟨G, 4, none⟩ = some (.bool st.closed) := cell_of h.hp 4
 have H := hide h
 clear h hb hr
 unfold gv
 cases hc : st.closed
 ·rw [hc] at y4
  go_enter Tryz.func110, Tryz.ntmps110
  go_wp2_with fail
  exact bodyPost_ret (results_row1 Tryz.results110 _ _ _ _ rfl (loadVar_rgot (heap_below (heap_new _ _) (below_alloc _ _)) rfl)) rfl ⟨rfl, KF.of (btr (below_alloc _ _) (below_alloc _ _)), F, Nw.refl _ _, (H.out.below (btr (below_alloc _ _) (below_alloc _ _))).rr⟩
 ·rw [hc] at y4
  go_enter Tryz.func110, Tryz.ntmps110
  go_wp2_with fail
  exact bodyPost_ret (results_row1 Tryz.results110 _ _ _ _ rfl (loadVar_rgot (heap_below (heap_new _ _) (below_alloc _ _)) rfl)) rfl ⟨rfl, KF.of (btr (below_alloc _ _) (below_alloc _ _)), F, Nw.refl _ _, (H.out.below (btr (below_alloc _ _) (below_alloc _ _))).rr⟩
set_option maxRecDepth 100000 in
set_option maxHeartbeats 3200000 in
theorem rrecv_snd (G : Nat) (F : Nat → Prop) (st : St) (y : Wt) (t : List Wt) (w : World) (h : Rr w G F st) (hb : st.buf = []) (hr : st.snd = y :: t) (hs : st.sent < 1000000000) (hg : st.got < 1000000000) :
 Calls Tryz.prog 110 #[.pointer (some ⟨G, 0, none⟩)] w fun r w' => r = .returned (gv ⟨true, true, true, y.v, y⟩) ∧ KF F w w' ∧ ∃ F', Nw F' F w ∧ Rr w' G F' { st with snd := t, sent := st.sent + 1, got := st.got + 1 } := by
 have hG := h.lt
 have NF : Hid (¬ F w.heap.size) := fun e => Nat.lt_irrefl _ (h.bd _ e)
 obtain ⟨vL, vS, vQ, h⟩ := h
 have FG := hide h.fg
 have BDF := hide h.bd
 obtain ⟨ol, cl, os, cs, oq, cq, ⟨rfl, _, _⟩, ⟨rfl, hAS, hcs⟩, rfl, _, _⟩ := h.read
 have b1 := below_alloc (w.setCell ⟨G, 6, none⟩ (.int .i64 ((st.got : Int) + 1))) (.cells #[.bool false, .bool false, .bool false, .int .i64 0, .int .i64 0, .int .i64 0, .int .i64 0] 155)
 have b2 := below_alloc ((w.setCell ⟨G, 6, none⟩ (.int .i64 ((st.got : Int) + 1))).alloc (.cells #[.bool false, .bool false, .bool false, .int .i64 0, .int .i64 0, .int .i64 0, .int .i64 0] 155)) (.cells #[.bool true, .bool true, .bool true, .int .i64 y.v, .int .i64 y.g, .int .i64 y.c, .int .i64 y.v] 155)
 have hM1 : w.heap.size + 1 ≠ G := by omega
 have hM3 : G ≠ w.heap.size := by omega
 have sz0 : (w.setCell ⟨G, 6, none⟩ (.int .i64 ((st.got : Int) + 1))).heap.size = w.heap.size := size_set _ _ _
 have P3 := hide ((h.setGot (st.got + 1) ((st.got : Int) + 1) (by omega)).below (btr b1 b2))
 have K3 := hide (((KF.refl F w).set FG.out 6 (.int .i64 ((st.got : Int) + 1))).then (btr b1 b2))
 have hz := heap_below (heap_new (w.setCell ⟨G, 6, none⟩ (.int .i64 ((st.got : Int) + 1))) (.cells #[.bool false, .bool false, .bool false, .int .i64 0, .int .i64 0, .int .i64 0, .int .i64 0] 155)) b2
 rw [sz0] at hz
 have Z3 := hide hz
 have hm := heap_new ((w.setCell ⟨G, 6, none⟩ (.int .i64 ((st.got : Int) + 1))).alloc (.cells #[.bool false, .bool false, .bool false, .int .i64 0, .int .i64 0, .int .i64 0, .int .i64 0] 155)) (.cells #[.bool true, .bool true, .bool true, .int .i64 y.v, .int .i64 y.g, .int .i64 y.c, .int .i64 y.v] 155)
 rw [World.size_alloc, sz0] at hm
 have M3 := hide hm
 have hle := h.les
 have A3 := hide (own_wat P3.out.rs)
 simp only at A3
 rw [hr] at hAS hcs hle A3
 rw [List.length_cons] at hcs hle
 have y2 : w.cell? ⟨G, 2, none⟩ = some (.slice os (t.length + 1) cs) := (cell_of h.hp 2).trans (by rw [hr]; rfl)
 have y2' : (((w.setCell ⟨G, 6, none⟩ (.int .i64 ((st.got : Int) + 1))).alloc (.cells #[.bool false, .bool false, .bool false, .int .i64 0, .int .i64 0, .int .i64 0, .int .i64 0] 155)).alloc (.cells #[.bool true, .bool true, .bool true, .int .i64 y.v, .int .i64 y.g, .int .i64 y.c, .int .i64 y.v] 155)).cell? ⟨G, 2, none⟩ = some (.slice os (t.length + 1) cs) := (cell_of P3.out.hp 2).trans (by rw [hr]; rfl)
 have y1 : w.cell? ⟨G, 1, none⟩ = some (.slice ol 0 cl) := (cell_of h.hp 1).trans (by rw [hb]; rfl)
 have y6 : w.cell? ⟨G, 6, none⟩ = some (.int .i64 (st.got : Int)) := cell_of h.hp 6
 have f6 := frozen_of h.hp 6
 obtain ⟨b, off, rfl, q0, q1, q2⟩ := hAS 0 y rfl
 rw [Nat.zero_mul, Nat.add_zero] at q0 q1 q2
 have hbl := World.block_lt_of_cell? w _ q0
 simp only at hbl
 have BE := hide (rbehind_any _ y t cs _ A3.out hcs (by omega))
 have hpos : decide (0 < ((t.length : Int) + 1)) = true := decide_eq_true (by omega)
 have hS3 : (((w.setCell ⟨G, 6, none⟩ (.int .i64 ((st.got : Int) + 1))).alloc (.cells #[.bool false, .bool false, .bool false, .int .i64 0, .int .i64 0, .int .i64 0, .int .i64 0] 155)).alloc (.cells #[.bool true, .bool true, .bool true, .int .i64 y.v, .int .i64 y.g, .int .i64 y.c, .int .i64 y.v] 155)).heap.size = w.heap.size + 2 := by
  rw [World.size_alloc, World.size_alloc, sz0]
 clear h hb hr hAS b1 b2 hm hz A3
 unfold gv
 go_enter Tryz.func110, Tryz.ntmps110
 go_wp2_with fail
 generalize (((w.setCell ⟨G, 6, none⟩ (.int .i64 ((st.got : Int) + 1))).alloc (.cells #[.bool false, .bool false, .bool false, .int .i64 0, .int .i64 0, .int .i64 0, .int .i64 0] 155)).alloc (.cells #[.bool true, .bool true, .bool true, .int .i64 y.v, .int .i64 y.g, .int .i64 y.c, .int .i64 y.v] 155)) = W3 at P3 K3 Z3 M3 BE hS3 y2' ⊢
 refine BE.out.mono ?_
 rintro r w4 ⟨ob, d, rfl, o4, b4⟩
 have P4 := hide (P3.out.below b4)
 have Z4 := hide (heap_below Z3.out b4)
 have M4 := hide (heap_below M3.out b4)
 have K4 := hide (K3.out.then b4)
 have O4 := hide o4
 clear o4 b4 BE K3 Z3 M3 P3 y1 y2 y2' y6 f6 q0 q1 q2
 have m0 : w4.cell? ⟨w.heap.size + 1, 0, none⟩ = some (.bool true) := cell_of M4.out 0
 have m1 : w4.cell? ⟨w.heap.size + 1, 1, none⟩ = some (.bool true) := cell_of M4.out 1
 have m2 : w4.cell? ⟨w.heap.size + 1, 2, none⟩ = some (.bool true) := cell_of M4.out 2
 have m3 : w4.cell? ⟨w.heap.size + 1, 3, none⟩ = some (.int .i64 y.v) := cell_of M4.out 3
 have m4 : w4.cell? ⟨w.heap.size + 1, 4, none⟩ = some (.int .i64 y.g) := cell_of M4.out 4
 have m5 : w4.cell? ⟨w.heap.size + 1, 5, none⟩ = some (.int .i64 y.c) := cell_of M4.out 5
 have m6 : w4.cell? ⟨w.heap.size + 1, 6, none⟩ = some (.int .i64 y.v) := cell_of M4.out 6
 have g2 : w4.cell? ⟨G, 2, none⟩ = some (.slice (some ⟨b, off, none⟩) st.snd.length cs) := cell_of P4.out.hp 2
 have g5 : w4.cell? ⟨G, 5, none⟩ = some (.int .i64 (st.sent : Int)) := cell_of P4.out.hp 5
 have gf2 := frozen_of P4.out.hp 2
 have gf5 := frozen_of P4.out.hp 5
 have z0 : w4.cell? ⟨w.heap.size, 0, none⟩ = some (.bool false) := cell_of Z4.out 0
 have zf0 := frozen_of Z4.out 0
 have z1 : w4.cell? ⟨w.heap.size, 1, none⟩ = some (.bool false) := cell_of Z4.out 1
 have zf1 := frozen_of Z4.out 1
 have z2 : w4.cell? ⟨w.heap.size, 2, none⟩ = some (.bool false) := cell_of Z4.out 2
 have zf2 := frozen_of Z4.out 2
 have z3 : w4.cell? ⟨w.heap.size, 3, none⟩ = some (.int .i64 0) := cell_of Z4.out 3
 have zf3 := frozen_of Z4.out 3
 have z4 : w4.cell? ⟨w.heap.size, 4, none⟩ = some (.int .i64 0) := cell_of Z4.out 4
 have zf4 := frozen_of Z4.out 4
 have z5 : w4.cell? ⟨w.heap.size, 5, none⟩ = some (.int .i64 0) := cell_of Z4.out 5
 have zf5 := frozen_of Z4.out 5
 have z6 : w4.cell? ⟨w.heap.size, 6, none⟩ = some (.int .i64 0) := cell_of Z4.out 6
 have zf6 := frozen_of Z4.out 6
 go_wp2_with fail
 have R1 := (P4.out.newS O4.out (fun k hk => by have := BDF.out k hk; omega) (by omega)).setSent (st.sent + 1) ((st.sent : Int) + 1) (by omega)
 have NN : Nw (Fw F (.slice ob t.length d)) F w := Fw.nw O4.out (by omega)
 have NZ : ¬ Fw F (.slice ob t.length d) w.heap.size := by
  rintro (q | q)
  ·exact NF.out q
  ·have := (own_blk O4.out _ q).1
   omega
 exact bodyPost_ret (results_row1 Tryz.results110 _ _ _ _ rfl (loadVar_rgot (got_set ((Below.heap_setCell _ _ _ _ (Ne.symm hM3)).trans ((Below.heap_setCell _ _ _ _ (Ne.symm hM3)).trans Z4.out)) _ _ _ _ _ _ _) rfl)) rfl ⟨rfl, rfin7 ((K4.out.set FG.out 2 _).set FG.out 5 _) NN R1.rr (Nat.le_refl _) NZ _ _ _ _ _ _ _⟩
end Rp
end Go.Proofs.YtblfimobiibmjabGreat
namespace Go.Proofs.YtblfimobiibmjabGreat
open Go.ChangeShapes Go.WideShapes Go.ChangeAt Go.RowKit
namespace Rp
open Ba Pe _root_.Go.Proofs.YtblfimobiibmjabGreat.Pi
theorem tail_run {w : World} {b off c : Nat} {x : Int} {l : List Int} (hA : At w (some ⟨b, off, none⟩) (x :: l)) (hl : l.length ≤ 1024) (off' : Nat) (ho : 0 < l.length → off' = off + 1) :
 ∃ ob d W, (Builtin.append_ #[46, 46] 46 #[.slice none 0 0, .slice (some ⟨b, off', none⟩) l.length (c - 1)]).run Tryz.prog w = .ok (.slice ob l.length d) W ∧ W.ownsRow w.heap.size 3 1 (.slice ob l.length d) l.length (ic l) ∧ Below w.heap.size w W := by
 cases hi : Tryz.prog.info? 3 with
 | none => have := info_i; rw [hi] at this; cases this
 | some i0 =>
 have hx2 := info_i
 rw [hi] at hx2
 simp at hx2
 have A1 := hA.tail
 obtain ⟨v', W, hr, h2, h5, _⟩ := run_append_own (P := Tryz.prog) w w.heap.size 46 46 3 i0 (.int .i64 0) 1 8 Tryz.underlying46 hi hx2.1 hx2.2.1 hx2.2.2 rfl (by decide) (.slice none 0 0) 0 [] (World.ownsRow_nil _ _ _ _) ⟨b, off', none⟩ l.length (c - 1) (ic l) (by simp [ic]) (by
  intro j u hj
  have hjl : j < l.length := by
   have := (List.getElem?_eq_some_iff.1 hj).1
   rw [ic_len] at this
   exact this
  obtain rfl := ho (by omega)
  obtain ⟨b', o', e, hc⟩ := A1 j hjl
  simp at e
  obtain ⟨rfl, rfl⟩ := e
  rw [Addr.add_lit, hc, ← hj]
  simp [ic, nth, hjl]) (ic_one l) (by unfold maxLen; omega) (by omega) (Nat.le_refl _)
 rw [Nat.zero_add, List.nil_append] at h2
 obtain ⟨ob, d, rfl, _, _⟩ := own_at h2
 exact ⟨ob, d, W, hr, h2, (Below.refl _ _).grown h5 (Nat.le_refl _) (fun x hx => by cases hx)⟩
set_option maxRecDepth 100000 in
set_option maxHeartbeats 6400000 in
theorem rrecv_buf (G : Nat) (F : Nat → Prop) (st : St) (x : Int) (b : List Int) (w : World) (h : Rr w G F st) (hb : st.buf = x :: b) (hr : st.snd = []) (hg : st.got < 1000000000) :
 Calls Tryz.prog 110 #[.pointer (some ⟨G, 0, none⟩)] w fun r w' => r = .returned (gv ⟨true, true, false, x, ⟨0, 0, 0⟩⟩) ∧ KF F w w' ∧ ∃ F', Nw F' F w ∧ Rr w' G F' { st with buf := b, got := st.got + 1 } := by
 have hG := h.lt
 have NF : Hid (¬ F w.heap.size) := fun e => Nat.lt_irrefl _ (h.bd _ e)
 obtain ⟨vL, vS, vQ, h⟩ := h
 have FG := hide h.fg
 have BDF := hide h.bd
 obtain ⟨ol, cl, os, cs, oq, cq, ⟨rfl, hAL, hcl⟩, ⟨rfl, hAS, hcs⟩, rfl, _, _⟩ := h.read
 have hbl := h.bl
 have hsz := h.sz
 have b1 := below_alloc w (.cells #[.bool false, .bool false, .bool false, .int .i64 0, .int .i64 0, .int .i64 0, .int .i64 0] 155)
 have b2 := below_alloc (w.alloc (.cells #[.bool false, .bool false, .bool false, .int .i64 0, .int .i64 0, .int .i64 0, .int .i64 0] 155)) (.cells #[.bool true, .bool true, .bool false, .int .i64 x, .int .i64 0, .int .i64 0, .int .i64 0] 155)
 have P2 := hide (h.below (btr b1 b2))
 have BB := hide (btr b1 b2)
 have Z2 := hide (heap_below (heap_new w (.cells #[.bool false, .bool false, .bool false, .int .i64 0, .int .i64 0, .int .i64 0, .int .i64 0] 155)) b2)
 have hm := heap_new (w.alloc (.cells #[.bool false, .bool false, .bool false, .int .i64 0, .int .i64 0, .int .i64 0, .int .i64 0] 155)) (.cells #[.bool true, .bool true, .bool false, .int .i64 x, .int .i64 0, .int .i64 0, .int .i64 0] 155)
 rw [World.size_alloc] at hm
 have M2 := hide hm
 have hS2 : ((w.alloc (.cells #[.bool false, .bool false, .bool false, .int .i64 0, .int .i64 0, .int .i64 0, .int .i64 0] 155)).alloc (.cells #[.bool true, .bool true, .bool false, .int .i64 x, .int .i64 0, .int .i64 0, .int .i64 0] 155)).heap.size = w.heap.size + 2 := by rw [World.size_alloc, World.size_alloc]
 have hM1 : w.heap.size + 1 ≠ G := by omega
 have hM3 : G ≠ w.heap.size := by omega
 rw [hb] at hAL hcl hbl
 rw [List.length_cons] at hcl hbl
 obtain ⟨bb, off, rfl, hx⟩ := hAL.head
 have hbb := World.block_lt_of_cell? w _ hx
 simp only at hbb
 have y1 : w.cell? ⟨G, 1, none⟩ = some (.slice (some ⟨bb, off, none⟩) (b.length + 1) cl) := (cell_of h.hp 1).trans (by rw [hb]; rfl)
 have hposL : decide (0 < ((b.length : Int) + 1)) = true := decide_eq_true (by omega)
 have y2 : w.cell? ⟨G, 2, none⟩ = some (.slice os 0 cs) := (cell_of h.hp 2).trans (by rw [hr]; rfl)
 have TR := hide fun o ho => tail_run (w := ((w.alloc (.cells #[.bool false, .bool false, .bool false, .int .i64 0, .int .i64 0, .int .i64 0, .int .i64 0] 155)).alloc (.cells #[.bool true, .bool true, .bool false, .int .i64 x, .int .i64 0, .int .i64 0, .int .i64 0] 155))) (c := cl) (hAL.below (btr b1 b2)) (by omega) o ho
 clear h hb hr hAL b1 b2 hm
 unfold gv
 have main : ∀ (ob : Option Addr) (d : Nat) (W3 : World), W3.ownsRow (w.heap.size + 2) 3 1 (.slice ob b.length d) b.length (ic b) → Below (w.heap.size + 2) ((w.alloc (.cells #[.bool false, .bool false, .bool false, .int .i64 0, .int .i64 0, .int .i64 0, .int .i64 0] 155)).alloc (.cells #[.bool true, .bool true, .bool false, .int .i64 x, .int .i64 0, .int .i64 0, .int .i64 0] 155)) W3 → RO W3 G F (.slice (some ⟨bb, off, none⟩) st.buf.length cl) (.slice os st.snd.length cs) (.slice oq st.rcv.length cq) st ∧ W3.heap[w.heap.size]? = some (.cells #[.bool false, .bool false, .bool false, .int .i64 0, .int .i64 0, .int .i64 0, .int .i64 0] 155) ∧ W3.heap[w.heap.size + 1]? = some (.cells #[.bool true, .bool true, .bool false, .int .i64 x, .int .i64 0, .int .i64 0, .int .i64 0] 155) ∧ KF F w W3 := by
  intro ob d W3 _ hb3
  rw [← hS2] at hb3
  exact ⟨P2.out.below hb3, heap_below Z2.out hb3, heap_below M2.out hb3, KF.of (btr BB.out hb3)⟩
 have MAIN := hide main
 clear main
 by_cases hc1 : cl = 1
 ·obtain rfl := hc1
  obtain rfl : b = [] := List.eq_nil_of_length_eq_zero (by omega)
  obtain ⟨ob, d, W3, hr3, ho3, hb3⟩ := TR.out off (fun h => by simp at h)
  have HR : Hid ((Builtin.append_ #[46, 46] 46 #[.slice none 0 0, .slice (some ⟨bb, off, none⟩) 0 0]).run Tryz.prog ((w.alloc (.cells #[.bool false, .bool false, .bool false, .int .i64 0, .int .i64 0, .int .i64 0, .int .i64 0] 155)).alloc (.cells #[.bool true, .bool true, .bool false, .int .i64 x, .int .i64 0, .int .i64 0, .int .i64 0] 155)) = .ok (.slice ob 0 d) W3) := hr3
  rw [hS2] at ho3 hb3
  obtain ⟨p3, z3, m3, k3⟩ := MAIN.out ob d W3 ho3 hb3
  have P3 := hide p3
  have Z3 := hide z3
  have M3 := hide m3
  have K3 := hide k3
  have O3 := hide ho3
  have SZ3 := hb3.size
  rw [hS2] at SZ3
  clear hr3 ho3 hb3 p3 z3 m3 k3 TR MAIN P2 BB Z2 M2
  have g1 : W3.cell? ⟨G, 1, none⟩ = some (.slice (some ⟨bb, off, none⟩) st.buf.length 1) := cell_of P3.out.hp 1
  have g6 : W3.cell? ⟨G, 6, none⟩ = some (.int .i64 (st.got : Int)) := cell_of P3.out.hp 6
  have gf1 := frozen_of P3.out.hp 1
  have gf6 := frozen_of P3.out.hp 6
  have z0 : W3.cell? ⟨w.heap.size, 0, none⟩ = some (.bool false) := cell_of Z3.out 0
  have zf0 := frozen_of Z3.out 0
  have z1 : W3.cell? ⟨w.heap.size, 1, none⟩ = some (.bool false) := cell_of Z3.out 1
  have zf1 := frozen_of Z3.out 1
  have z2 : W3.cell? ⟨w.heap.size, 2, none⟩ = some (.bool false) := cell_of Z3.out 2
  have zf2 := frozen_of Z3.out 2
  have z3 : W3.cell? ⟨w.heap.size, 3, none⟩ = some (.int .i64 0) := cell_of Z3.out 3
  have zf3 := frozen_of Z3.out 3
  have z4 : W3.cell? ⟨w.heap.size, 4, none⟩ = some (.int .i64 0) := cell_of Z3.out 4
  have zf4 := frozen_of Z3.out 4
  have z5 : W3.cell? ⟨w.heap.size, 5, none⟩ = some (.int .i64 0) := cell_of Z3.out 5
  have zf5 := frozen_of Z3.out 5
  have z6 : W3.cell? ⟨w.heap.size, 6, none⟩ = some (.int .i64 0) := cell_of Z3.out 6
  have zf6 := frozen_of Z3.out 6
  have m0 : W3.cell? ⟨w.heap.size + 1, 0, none⟩ = some (.bool true) := cell_of M3.out 0
  have m1 : W3.cell? ⟨w.heap.size + 1, 1, none⟩ = some (.bool true) := cell_of M3.out 1
  have m2 : W3.cell? ⟨w.heap.size + 1, 2, none⟩ = some (.bool false) := cell_of M3.out 2
  have m3 : W3.cell? ⟨w.heap.size + 1, 3, none⟩ = some (.int .i64 x) := cell_of M3.out 3
  have m4 : W3.cell? ⟨w.heap.size + 1, 4, none⟩ = some (.int .i64 0) := cell_of M3.out 4
  have m5 : W3.cell? ⟨w.heap.size + 1, 5, none⟩ = some (.int .i64 0) := cell_of M3.out 5
  have m6 : W3.cell? ⟨w.heap.size + 1, 6, none⟩ = some (.int .i64 0) := cell_of M3.out 6
  go_enter Tryz.func110, Tryz.ntmps110
  go_wp2_with (at_builtin; refine Lib.wpList_append_run _ rfl _ _ 46 46 rfl _ _ rfl rfl _ _ HR.out ?_)
  have R1 := (P3.out.newL O3.out (by simp)).setGot (st.got + 1) ((st.got : Int) + 1) (by omega)
  have NN : Nw (Fw F (.slice ob 0 d)) F w := Fw.nw O3.out (by omega)
  have NZ : ¬ Fw F (.slice ob 0 d) w.heap.size := by
   rintro (q | q)
   ·exact NF.out q
   ·have := (own_blk O3.out _ q).1
    omega
  exact bodyPost_ret (results_row1 Tryz.results110 _ _ _ _ rfl (loadVar_rgot (got_set ((Below.heap_setCell _ _ _ _ (Ne.symm hM3)).trans ((Below.heap_setCell _ _ _ _ (Ne.symm hM3)).trans Z3.out)) _ _ _ _ _ _ _) rfl)) rfl ⟨rfl, rfin7 ((K3.out.set FG.out 1 _).set FG.out 6 _) NN R1.rr (Nat.le_refl _) NZ _ _ _ _ _ _ _⟩
 ·obtain ⟨ob, d, W3, hr3, ho3, hb3⟩ := TR.out (off + 1) (fun _ => rfl)
  have HR := hide hr3
  rw [hS2] at ho3 hb3
  obtain ⟨p3, z3, m3, k3⟩ := MAIN.out ob d W3 ho3 hb3
  have P3 := hide p3
  have Z3 := hide z3
  have M3 := hide m3
  have K3 := hide k3
  have O3 := hide ho3
  have SZ3 := hb3.size
  rw [hS2] at SZ3
  clear hr3 ho3 hb3 p3 z3 m3 k3 TR MAIN P2 BB Z2 M2
  have g1 : W3.cell? ⟨G, 1, none⟩ = some (.slice (some ⟨bb, off, none⟩) st.buf.length cl) := cell_of P3.out.hp 1
  have g6 : W3.cell? ⟨G, 6, none⟩ = some (.int .i64 (st.got : Int)) := cell_of P3.out.hp 6
  have gf1 := frozen_of P3.out.hp 1
  have gf6 := frozen_of P3.out.hp 6
  have z0 : W3.cell? ⟨w.heap.size, 0, none⟩ = some (.bool false) := cell_of Z3.out 0
  have zf0 := frozen_of Z3.out 0
  have z1 : W3.cell? ⟨w.heap.size, 1, none⟩ = some (.bool false) := cell_of Z3.out 1
  have zf1 := frozen_of Z3.out 1
  have z2 : W3.cell? ⟨w.heap.size, 2, none⟩ = some (.bool false) := cell_of Z3.out 2
  have zf2 := frozen_of Z3.out 2
  have z3 : W3.cell? ⟨w.heap.size, 3, none⟩ = some (.int .i64 0) := cell_of Z3.out 3
  have zf3 := frozen_of Z3.out 3
  have z4 : W3.cell? ⟨w.heap.size, 4, none⟩ = some (.int .i64 0) := cell_of Z3.out 4
  have zf4 := frozen_of Z3.out 4
  have z5 : W3.cell? ⟨w.heap.size, 5, none⟩ = some (.int .i64 0) := cell_of Z3.out 5
  have zf5 := frozen_of Z3.out 5
  have z6 : W3.cell? ⟨w.heap.size, 6, none⟩ = some (.int .i64 0) := cell_of Z3.out 6
  have zf6 := frozen_of Z3.out 6
  have m0 : W3.cell? ⟨w.heap.size + 1, 0, none⟩ = some (.bool true) := cell_of M3.out 0
  have m1 : W3.cell? ⟨w.heap.size + 1, 1, none⟩ = some (.bool true) := cell_of M3.out 1
  have m2 : W3.cell? ⟨w.heap.size + 1, 2, none⟩ = some (.bool false) := cell_of M3.out 2
  have m3 : W3.cell? ⟨w.heap.size + 1, 3, none⟩ = some (.int .i64 x) := cell_of M3.out 3
  have m4 : W3.cell? ⟨w.heap.size + 1, 4, none⟩ = some (.int .i64 0) := cell_of M3.out 4
  have m5 : W3.cell? ⟨w.heap.size + 1, 5, none⟩ = some (.int .i64 0) := cell_of M3.out 5
  have m6 : W3.cell? ⟨w.heap.size + 1, 6, none⟩ = some (.int .i64 0) := cell_of M3.out 6
  go_enter Tryz.func110, Tryz.ntmps110
  go_wp2_with (at_builtin; refine Lib.wpList_append_run _ rfl _ _ 46 46 rfl _ _ rfl rfl _ _ HR.out ?_)
  have R1 := (P3.out.newL O3.out (by omega)).setGot (st.got + 1) ((st.got : Int) + 1) (by omega)
  have NN : Nw (Fw F (.slice ob b.length d)) F w := Fw.nw O3.out (by omega)
  have NZ : ¬ Fw F (.slice ob b.length d) w.heap.size := by
   rintro (q | q)
   ·exact NF.out q
   ·have := (own_blk O3.out _ q).1
    omega
  exact bodyPost_ret (results_row1 Tryz.results110 _ _ _ _ rfl (loadVar_rgot (got_set ((Below.heap_setCell _ _ _ _ (Ne.symm hM3)).trans ((Below.heap_setCell _ _ _ _ (Ne.symm hM3)).trans Z3.out)) _ _ _ _ _ _ _) rfl)) rfl ⟨rfl, rfin7 ((K3.out.set FG.out 1 _).set FG.out 6 _) NN R1.rr (Nat.le_refl _) NZ _ _ _ _ _ _ _⟩
end Rp
end Go.Proofs.YtblfimobiibmjabGreat
namespace Go.Proofs.YtblfimobiibmjabGreat
open Go.ChangeShapes Go.WideShapes Go.ChangeAt Go.RowKit
namespace Rp
open Ba Pe _root_.Go.Proofs.YtblfimobiibmjabGreat.Pi
set_option maxRecDepth 100000 in
set_option maxHeartbeats 6400000 in
theorem rrecv_both (G : Nat) (F : Nat → Prop) (st : St) (x : Int) (b : List Int) (y : Wt) (t : List Wt) (w : World) (h : Rr w G F st) (hb : st.buf = x :: b) (hr : st.snd = y :: t) (hs : st.sent < 1000000000) (hg : st.got < 1000000000) :
 Calls Tryz.prog 110 #[.pointer (some ⟨G, 0, none⟩)] w fun r w' => r = .returned (gv ⟨true, true, true, x, y⟩) ∧ KF F w w' ∧ ∃ F', Nw F' F w ∧ Rr w' G F' { st with buf := b ++ [y.v], snd := t, sent := st.sent + 1, got := st.got + 1 } := by
 have hG := h.lt
 have NF : Hid (¬ F w.heap.size) := fun e => Nat.lt_irrefl _ (h.bd _ e)
 obtain ⟨vL, vS, vQ, h⟩ := h
 have FG := hide h.fg
 have BDF := hide h.bd
 obtain ⟨ol, cl, os, cs, oq, cq, ⟨rfl, hAL, hcl⟩, ⟨rfl, hAS, hcs⟩, rfl, _, _⟩ := h.read
 have hbl := h.bl
 have hsz := h.sz
 have b1 := below_alloc w (.cells #[.bool false, .bool false, .bool false, .int .i64 0, .int .i64 0, .int .i64 0, .int .i64 0] 155)
 have b2 := below_alloc (w.alloc (.cells #[.bool false, .bool false, .bool false, .int .i64 0, .int .i64 0, .int .i64 0, .int .i64 0] 155)) (.cells #[.bool true, .bool true, .bool true, .int .i64 x, .int .i64 y.g, .int .i64 y.c, .int .i64 y.v] 155)
 have P2 := hide (h.below (btr b1 b2))
 have BB := hide (btr b1 b2)
 have Z2 := hide (heap_below (heap_new w (.cells #[.bool false, .bool false, .bool false, .int .i64 0, .int .i64 0, .int .i64 0, .int .i64 0] 155)) b2)
 have hm := heap_new (w.alloc (.cells #[.bool false, .bool false, .bool false, .int .i64 0, .int .i64 0, .int .i64 0, .int .i64 0] 155)) (.cells #[.bool true, .bool true, .bool true, .int .i64 x, .int .i64 y.g, .int .i64 y.c, .int .i64 y.v] 155)
 rw [World.size_alloc] at hm
 have M2 := hide hm
 have hS2 : ((w.alloc (.cells #[.bool false, .bool false, .bool false, .int .i64 0, .int .i64 0, .int .i64 0, .int .i64 0] 155)).alloc (.cells #[.bool true, .bool true, .bool true, .int .i64 x, .int .i64 y.g, .int .i64 y.c, .int .i64 y.v] 155)).heap.size = w.heap.size + 2 := by rw [World.size_alloc, World.size_alloc]
 have hM1 : w.heap.size + 1 ≠ G := by omega
 have hM3 : G ≠ w.heap.size := by omega
 rw [hb] at hAL hcl hbl
 rw [List.length_cons] at hcl hbl
 obtain ⟨bb, off, rfl, hx⟩ := hAL.head
 have hbb := World.block_lt_of_cell? w _ hx
 simp only at hbb
 have y1 : w.cell? ⟨G, 1, none⟩ = some (.slice (some ⟨bb, off, none⟩) (b.length + 1) cl) := (cell_of h.hp 1).trans (by rw [hb]; rfl)
 have hposL : decide (0 < ((b.length : Int) + 1)) = true := decide_eq_true (by omega)
 have hle := h.les
 rw [hr] at hAS hcs hle
 rw [List.length_cons] at hcs hle
 have y2 : w.cell? ⟨G, 2, none⟩ = some (.slice os (t.length + 1) cs) := (cell_of h.hp 2).trans (by rw [hr]; rfl)
 obtain ⟨b', off2, rfl, q0, q1, q2⟩ := hAS 0 y rfl
 rw [Nat.zero_mul, Nat.add_zero] at q0 q1 q2
 have hbl2 := World.block_lt_of_cell? w _ q0
 simp only at hbl2
 have hpos : decide (0 < ((t.length : Int) + 1)) = true := decide_eq_true (by omega)
 have HSR := hide hr
 cases hi : Tryz.prog.info? 3 with
 | none => have := info_i; rw [hi] at this; cases this
 | some i0 =>
 have hx2 := info_i
 rw [hi] at hx2
 simp at hx2
 have INF := hide (And.intro hi hx2)
 clear hx2 hi
 have TR := hide fun o ho => tail_run (w := ((w.alloc (.cells #[.bool false, .bool false, .bool false, .int .i64 0, .int .i64 0, .int .i64 0, .int .i64 0] 155)).alloc (.cells #[.bool true, .bool true, .bool true, .int .i64 x, .int .i64 y.g, .int .i64 y.c, .int .i64 y.v] 155))) (c := cl) (hAL.below (btr b1 b2)) (by omega) o ho
 clear h hb hr hAL hAS b1 b2 hm
 unfold gv
 have main : ∀ (ob : Option Addr) (d : Nat) (W3 : World), W3.ownsRow (w.heap.size + 2) 3 1 (.slice ob b.length d) b.length (ic b) → Below (w.heap.size + 2) ((w.alloc (.cells #[.bool false, .bool false, .bool false, .int .i64 0, .int .i64 0, .int .i64 0, .int .i64 0] 155)).alloc (.cells #[.bool true, .bool true, .bool true, .int .i64 x, .int .i64 y.g, .int .i64 y.c, .int .i64 y.v] 155)) W3 → RO W3 G F (.slice (some ⟨bb, off, none⟩) st.buf.length cl) (.slice (some ⟨b', off2, none⟩) st.snd.length cs) (.slice oq st.rcv.length cq) st ∧ W3.heap[w.heap.size]? = some (.cells #[.bool false, .bool false, .bool false, .int .i64 0, .int .i64 0, .int .i64 0, .int .i64 0] 155) ∧ W3.heap[w.heap.size + 1]? = some (.cells #[.bool true, .bool true, .bool true, .int .i64 x, .int .i64 y.g, .int .i64 y.c, .int .i64 y.v] 155) ∧ KF F w W3 := by
  intro ob d W3 _ hb3
  rw [← hS2] at hb3
  exact ⟨P2.out.below hb3, heap_below Z2.out hb3, heap_below M2.out hb3, KF.of (btr BB.out hb3)⟩
 have MAIN := hide main
 clear main
 by_cases hc1 : cl = 1
 ·obtain rfl := hc1
  obtain rfl : b = [] := List.eq_nil_of_length_eq_zero (by omega)
  obtain ⟨ob, d, W3, hr3, ho3, hb3⟩ := TR.out off (fun h => by simp at h)
  have HR : Hid ((Builtin.append_ #[46, 46] 46 #[.slice none 0 0, .slice (some ⟨bb, off, none⟩) 0 0]).run Tryz.prog ((w.alloc (.cells #[.bool false, .bool false, .bool false, .int .i64 0, .int .i64 0, .int .i64 0, .int .i64 0] 155)).alloc (.cells #[.bool true, .bool true, .bool true, .int .i64 x, .int .i64 y.g, .int .i64 y.c, .int .i64 y.v] 155)) = .ok (.slice ob 0 d) W3) := hr3
  rw [hS2] at ho3 hb3
  obtain ⟨p3, z3, m3, k3⟩ := MAIN.out ob d W3 ho3 hb3
  have P3 := hide p3
  have Z3 := hide z3
  have M3 := hide m3
  have K3 := hide k3
  have O3 := hide ho3
  have SZ3 := hb3.size
  rw [hS2] at SZ3
  clear hr3 ho3 hb3 p3 z3 m3 k3 TR MAIN P2 BB Z2 M2
  have n2 : W3.cell? ⟨w.heap.size + 1, 2, none⟩ = some (.bool true) := cell_of M3.out 2
  have n6 : W3.cell? ⟨w.heap.size + 1, 6, none⟩ = some (.int .i64 y.v) := cell_of M3.out 6
  have hn1 : w.heap.size + 1 < W3.heap.size := by omega
  have BX := below_alloc W3 (.cells #[.int .i64 y.v] 3)
  have OW := hide (own_below O3.out BX)
  have SRC := hide (cell_one_new W3 (.int .i64 y.v) 3)
  have P4 := hide (P3.out.below BX)
  have Z4 := hide (heap_below Z3.out BX)
  have M4 := hide (heap_below M3.out BX)
  have K4 := hide (K3.out.then BX)
  have SX : (W3.alloc (.cells #[.int .i64 y.v] 3)).heap.size = W3.heap.size + 1 := World.size_alloc _ _
  clear BX
  go_enter Tryz.func110, Tryz.ntmps110
  go_wp2_with (first | (at_builtin; refine Lib.wpList_append_run _ rfl _ _ 46 46 rfl _ _ rfl rfl _ _ HR.out ?_) | (at_builtin; refine wpList_append_own _ rfl _ _ 46 rfl (w.heap.size + 2) 3 i0 (.int .i64 0) 1 8 Tryz.underlying46 INF.out.1 INF.out.2.1 INF.out.2.2.1 INF.out.2.2.2 rfl (by decide) _ _ _ rfl OW.out ⟨W3.heap.size, 0, none⟩ 1 1 [.int .i64 y.v] rfl rfl ?c1 ?c2 ?c3 ?c4 ?c5 ?_))
  case c1 => exact SRC.out
  case c2 => exact ic_one [y.v]
  case c3 => unfold maxLen; omega
  case c4 => omega
  case c5 => first | omega | (rw [SX]; omega)
  intro v5 w5 hown5 hg5 _
  have O5 : Hid (w5.ownsRow (w.heap.size + 2) 3 1 v5 ([] ++ [y.v]).length (ic ([] ++ [y.v]))) := by
   show World.ownsRow _ _ _ _ _ _ _
   rw [ic_app, List.length_append]
   exact hown5
  have NOB : ∀ k, (Value.slice ob 0 d).ownBlock = some k → w.heap.size + 2 ≤ k := fun k e => (own_blk OW.out k e).1
  have KB5 : Sm (fun k => k < w.heap.size + 2) (W3.alloc (.cells #[.int .i64 y.v] 3)) w5 := fun k (hk : k < w.heap.size + 2) => hg5.block k (by omega) (fun e => by have := NOB k e.symm; omega)
  have P5 := hide (P4.out.sm (KB5.sub (fun k hk => by have := BDF.out k hk; show k < _; omega)))
  have Z5 := hide ((KB5 w.heap.size (by show _ < _; omega)).trans Z4.out)
  have M5 := hide ((KB5 (w.heap.size + 1) (by show _ < _; omega)).trans M4.out)
  have K5 := hide (KF.grown K4.out hg5 (fun k e => .inr (by have := NOB k e; omega)))
  obtain ⟨o5, c5, rfl, _, _⟩ := own_at O5.out
  have SZ5 : W3.heap.size + 1 ≤ w5.heap.size := by
   have := hg5.size
   rw [SX] at this
   exact this
  clear hown5 hg5 NOB KB5 OW SRC
  have hlen : ([] ++ [y.v]).length = 0 + 1 := by simp
  have R6 := hide ((P5.out.newL O5.out (by rw [hlen]; omega)).setGot (st.got + 1) ((st.got : Int) + 1) (by omega))
  have K6 := hide ((K5.out.set FG.out 1 (.slice o5 ([] ++ [y.v]).length c5)).set FG.out 6 (.int .i64 ((st.got : Int) + 1)))
  have Z6 := hide ((Below.heap_setCell (w5.setCell ⟨G, 1, none⟩ (.slice o5 ([] ++ [y.v]).length c5)) ⟨G, 6, none⟩ (.int .i64 ((st.got : Int) + 1)) _ (Ne.symm hM3)).trans ((Below.heap_setCell w5 ⟨G, 1, none⟩ (.slice o5 ([] ++ [y.v]).length c5) _ (Ne.symm hM3)).trans Z5.out))
  have M6 := hide ((Below.heap_setCell (w5.setCell ⟨G, 1, none⟩ (.slice o5 ([] ++ [y.v]).length c5)) ⟨G, 6, none⟩ (.int .i64 ((st.got : Int) + 1)) _ hM1).trans ((Below.heap_setCell w5 ⟨G, 1, none⟩ (.slice o5 ([] ++ [y.v]).length c5) _ hM1).trans M5.out))
  have N6 : Hid (Nw (Fw F (.slice o5 ([] ++ [y.v]).length c5)) F w) := Fw.nw O5.out (by omega)
  have BF6 : Hid (∀ k, Fw F (.slice o5 ([] ++ [y.v]).length c5) k → k < w5.heap.size ∧ (k < w.heap.size ∨ w.heap.size + 2 ≤ k)) := by
   intro k hk
   have hkb := (Fw.bd (P5.out.bd) O5.out) k hk
   rcases hk with q | q
   ·exact ⟨hkb, .inl (BDF.out k q)⟩
   ·exact ⟨hkb, .inr (own_blk O5.out k q).1⟩
  have sz6 : ((w5.setCell ⟨G, 1, none⟩ (.slice o5 ([] ++ [y.v]).length c5)).setCell ⟨G, 6, none⟩ (.int .i64 ((st.got : Int) + 1))).heap.size = w5.heap.size := by rw [size_set, size_set]
  have AS6 := hide (own_wat R6.out.rs)
  simp only at AS6
  rw [HSR.out] at AS6
  have BE := hide (rbehind_any _ y t cs _ AS6.out hcs (by omega))
  have g1 : w5.cell? ⟨G, 1, none⟩ = some (.slice (some ⟨bb, off, none⟩) st.buf.length 1) := cell_of P5.out.hp 1
  have g6 : w5.cell? ⟨G, 6, none⟩ = some (.int .i64 (st.got : Int)) := cell_of P5.out.hp 6
  have g2 : w5.cell? ⟨G, 2, none⟩ = some (.slice (some ⟨b', off2, none⟩) (t.length + 1) cs) := (cell_of P5.out.hp 2).trans (by rw [HSR.out]; rfl)
  have gf1 := frozen_of P5.out.hp 1
  have gf6 := frozen_of P5.out.hp 6
  have e2 : w5.cell? ⟨w.heap.size + 1, 2, none⟩ = some (.bool true) := cell_of M5.out 2
  rw [hlen] at R6 K6 Z6 M6 N6 BF6 sz6 BE
  clear AS6 P5 K5 Z5 M5 O5
  go_wp2_with fail
  generalize (w5.setCell ⟨G, 1, none⟩ (.slice o5 (0 + 1) c5)).setCell ⟨G, 6, none⟩ (.int .i64 ((st.got : Int) + 1)) = W6 at R6 K6 Z6 M6 BE sz6 ⊢
  generalize Fw F (.slice o5 (0 + 1) c5) = F6 at R6 N6 BF6
  refine BE.out.mono ?_
  rintro r w7 ⟨o7, d7, rfl, ho7, hb7⟩
  have P7 := hide (R6.out.below hb7)
  have Z7 := hide (heap_below Z6.out hb7)
  have M7 := hide (heap_below M6.out hb7)
  have K7 := hide (K6.out.then hb7)
  have O7 := hide ho7
  have K7S := K6.out.size
  clear ho7 hb7 BE R6 K6 Z6 M6 g1 g2 g6 gf1 gf6 e2
  have g2 : w7.cell? ⟨G, 2, none⟩ = some (.slice (some ⟨b', off2, none⟩) st.snd.length cs) := cell_of P7.out.hp 2
  have g5 : w7.cell? ⟨G, 5, none⟩ = some (.int .i64 (st.sent : Int)) := cell_of P7.out.hp 5
  have gf2 := frozen_of P7.out.hp 2
  have gf5 := frozen_of P7.out.hp 5
  have z0 : w7.cell? ⟨w.heap.size, 0, none⟩ = some (.bool false) := cell_of Z7.out 0
  have zf0 := frozen_of Z7.out 0
  have z1 : w7.cell? ⟨w.heap.size, 1, none⟩ = some (.bool false) := cell_of Z7.out 1
  have zf1 := frozen_of Z7.out 1
  have z2 : w7.cell? ⟨w.heap.size, 2, none⟩ = some (.bool false) := cell_of Z7.out 2
  have zf2 := frozen_of Z7.out 2
  have z3 : w7.cell? ⟨w.heap.size, 3, none⟩ = some (.int .i64 0) := cell_of Z7.out 3
  have zf3 := frozen_of Z7.out 3
  have z4 : w7.cell? ⟨w.heap.size, 4, none⟩ = some (.int .i64 0) := cell_of Z7.out 4
  have zf4 := frozen_of Z7.out 4
  have z5 : w7.cell? ⟨w.heap.size, 5, none⟩ = some (.int .i64 0) := cell_of Z7.out 5
  have zf5 := frozen_of Z7.out 5
  have z6 : w7.cell? ⟨w.heap.size, 6, none⟩ = some (.int .i64 0) := cell_of Z7.out 6
  have zf6 := frozen_of Z7.out 6
  have m0 : w7.cell? ⟨w.heap.size + 1, 0, none⟩ = some (.bool true) := cell_of M7.out 0
  have m1 : w7.cell? ⟨w.heap.size + 1, 1, none⟩ = some (.bool true) := cell_of M7.out 1
  have m2 : w7.cell? ⟨w.heap.size + 1, 2, none⟩ = some (.bool true) := cell_of M7.out 2
  have m3 : w7.cell? ⟨w.heap.size + 1, 3, none⟩ = some (.int .i64 x) := cell_of M7.out 3
  have m4 : w7.cell? ⟨w.heap.size + 1, 4, none⟩ = some (.int .i64 y.g) := cell_of M7.out 4
  have m5 : w7.cell? ⟨w.heap.size + 1, 5, none⟩ = some (.int .i64 y.c) := cell_of M7.out 5
  have m6 : w7.cell? ⟨w.heap.size + 1, 6, none⟩ = some (.int .i64 y.v) := cell_of M7.out 6
  go_wp2_with fail
  have NB6 : ∀ k, F6 k → k < W6.heap.size := fun k hk => by have := (BF6.out k hk).1; omega
  have R8 := (P7.out.newS O7.out NB6 (by omega)).setSent (st.sent + 1) ((st.sent : Int) + 1) (by omega)
  have NN : Nw (Fw F6 (.slice o7 t.length d7)) F w := N6.out.trans (Fw.nw O7.out (Nat.le_refl _)) K7S
  have NZ : ¬ Fw F6 (.slice o7 t.length d7) w.heap.size := by
   rintro (q | q)
   ·have := (BF6.out _ q).2
    omega
   ·have := (own_blk O7.out _ q).1
    omega
  exact bodyPost_ret (results_row1 Tryz.results110 _ _ _ _ rfl (loadVar_rgot (got_set ((Below.heap_setCell _ _ _ _ (Ne.symm hM3)).trans ((Below.heap_setCell _ _ _ _ (Ne.symm hM3)).trans Z7.out)) _ _ _ _ _ _ _) rfl)) rfl ⟨rfl, rfin7 ((K7.out.set FG.out 2 _).set FG.out 5 _) NN R8.rr (Nat.le_refl _) NZ _ _ _ _ _ _ _⟩
 ·obtain ⟨ob, d, W3, hr3, ho3, hb3⟩ := TR.out (off + 1) (fun _ => rfl)
  have HR := hide hr3
  rw [hS2] at ho3 hb3
  obtain ⟨p3, z3, m3, k3⟩ := MAIN.out ob d W3 ho3 hb3
  have P3 := hide p3
  have Z3 := hide z3
  have M3 := hide m3
  have K3 := hide k3
  have O3 := hide ho3
  have SZ3 := hb3.size
  rw [hS2] at SZ3
  clear hr3 ho3 hb3 p3 z3 m3 k3 TR MAIN P2 BB Z2 M2
  have n2 : W3.cell? ⟨w.heap.size + 1, 2, none⟩ = some (.bool true) := cell_of M3.out 2
  have n6 : W3.cell? ⟨w.heap.size + 1, 6, none⟩ = some (.int .i64 y.v) := cell_of M3.out 6
  have hn1 : w.heap.size + 1 < W3.heap.size := by omega
  have BX := below_alloc W3 (.cells #[.int .i64 y.v] 3)
  have OW := hide (own_below O3.out BX)
  have SRC := hide (cell_one_new W3 (.int .i64 y.v) 3)
  have P4 := hide (P3.out.below BX)
  have Z4 := hide (heap_below Z3.out BX)
  have M4 := hide (heap_below M3.out BX)
  have K4 := hide (K3.out.then BX)
  have SX : (W3.alloc (.cells #[.int .i64 y.v] 3)).heap.size = W3.heap.size + 1 := World.size_alloc _ _
  clear BX
  go_enter Tryz.func110, Tryz.ntmps110
  go_wp2_with (first | (at_builtin; refine Lib.wpList_append_run _ rfl _ _ 46 46 rfl _ _ rfl rfl _ _ HR.out ?_) | (at_builtin; refine wpList_append_own _ rfl _ _ 46 rfl (w.heap.size + 2) 3 i0 (.int .i64 0) 1 8 Tryz.underlying46 INF.out.1 INF.out.2.1 INF.out.2.2.1 INF.out.2.2.2 rfl (by decide) _ _ _ rfl OW.out ⟨W3.heap.size, 0, none⟩ 1 1 [.int .i64 y.v] rfl rfl ?c1 ?c2 ?c3 ?c4 ?c5 ?_))
  case c1 => exact SRC.out
  case c2 => exact ic_one [y.v]
  case c3 => unfold maxLen; omega
  case c4 => omega
  case c5 => first | omega | (rw [SX]; omega)
  intro v5 w5 hown5 hg5 _
  have O5 : Hid (w5.ownsRow (w.heap.size + 2) 3 1 v5 (b ++ [y.v]).length (ic (b ++ [y.v]))) := by
   show World.ownsRow _ _ _ _ _ _ _
   rw [ic_app, List.length_append]
   exact hown5
  have NOB : ∀ k, (Value.slice ob b.length d).ownBlock = some k → w.heap.size + 2 ≤ k := fun k e => (own_blk OW.out k e).1
  have KB5 : Sm (fun k => k < w.heap.size + 2) (W3.alloc (.cells #[.int .i64 y.v] 3)) w5 := fun k (hk : k < w.heap.size + 2) => hg5.block k (by omega) (fun e => by have := NOB k e.symm; omega)
  have P5 := hide (P4.out.sm (KB5.sub (fun k hk => by have := BDF.out k hk; show k < _; omega)))
  have Z5 := hide ((KB5 w.heap.size (by show _ < _; omega)).trans Z4.out)
  have M5 := hide ((KB5 (w.heap.size + 1) (by show _ < _; omega)).trans M4.out)
  have K5 := hide (KF.grown K4.out hg5 (fun k e => .inr (by have := NOB k e; omega)))
  obtain ⟨o5, c5, rfl, _, _⟩ := own_at O5.out
  have SZ5 : W3.heap.size + 1 ≤ w5.heap.size := by
   have := hg5.size
   rw [SX] at this
   exact this
  clear hown5 hg5 NOB KB5 OW SRC
  have hlen : (b ++ [y.v]).length = b.length + 1 := by simp
  have R6 := hide ((P5.out.newL O5.out (by rw [hlen]; omega)).setGot (st.got + 1) ((st.got : Int) + 1) (by omega))
  have K6 := hide ((K5.out.set FG.out 1 (.slice o5 (b ++ [y.v]).length c5)).set FG.out 6 (.int .i64 ((st.got : Int) + 1)))
  have Z6 := hide ((Below.heap_setCell (w5.setCell ⟨G, 1, none⟩ (.slice o5 (b ++ [y.v]).length c5)) ⟨G, 6, none⟩ (.int .i64 ((st.got : Int) + 1)) _ (Ne.symm hM3)).trans ((Below.heap_setCell w5 ⟨G, 1, none⟩ (.slice o5 (b ++ [y.v]).length c5) _ (Ne.symm hM3)).trans Z5.out))
  have M6 := hide ((Below.heap_setCell (w5.setCell ⟨G, 1, none⟩ (.slice o5 (b ++ [y.v]).length c5)) ⟨G, 6, none⟩ (.int .i64 ((st.got : Int) + 1)) _ hM1).trans ((Below.heap_setCell w5 ⟨G, 1, none⟩ (.slice o5 (b ++ [y.v]).length c5) _ hM1).trans M5.out))
  have N6 : Hid (Nw (Fw F (.slice o5 (b ++ [y.v]).length c5)) F w) := Fw.nw O5.out (by omega)
  have BF6 : Hid (∀ k, Fw F (.slice o5 (b ++ [y.v]).length c5) k → k < w5.heap.size ∧ (k < w.heap.size ∨ w.heap.size + 2 ≤ k)) := by
   intro k hk
   have hkb := (Fw.bd (P5.out.bd) O5.out) k hk
   rcases hk with q | q
   ·exact ⟨hkb, .inl (BDF.out k q)⟩
   ·exact ⟨hkb, .inr (own_blk O5.out k q).1⟩
  have sz6 : ((w5.setCell ⟨G, 1, none⟩ (.slice o5 (b ++ [y.v]).length c5)).setCell ⟨G, 6, none⟩ (.int .i64 ((st.got : Int) + 1))).heap.size = w5.heap.size := by rw [size_set, size_set]
  have AS6 := hide (own_wat R6.out.rs)
  simp only at AS6
  rw [HSR.out] at AS6
  have BE := hide (rbehind_any _ y t cs _ AS6.out hcs (by omega))
  have g1 : w5.cell? ⟨G, 1, none⟩ = some (.slice (some ⟨bb, off, none⟩) st.buf.length cl) := cell_of P5.out.hp 1
  have g6 : w5.cell? ⟨G, 6, none⟩ = some (.int .i64 (st.got : Int)) := cell_of P5.out.hp 6
  have g2 : w5.cell? ⟨G, 2, none⟩ = some (.slice (some ⟨b', off2, none⟩) (t.length + 1) cs) := (cell_of P5.out.hp 2).trans (by rw [HSR.out]; rfl)
  have gf1 := frozen_of P5.out.hp 1
  have gf6 := frozen_of P5.out.hp 6
  have e2 : w5.cell? ⟨w.heap.size + 1, 2, none⟩ = some (.bool true) := cell_of M5.out 2
  rw [hlen] at R6 K6 Z6 M6 N6 BF6 sz6 BE
  clear AS6 P5 K5 Z5 M5 O5
  go_wp2_with fail
  generalize (w5.setCell ⟨G, 1, none⟩ (.slice o5 (b.length + 1) c5)).setCell ⟨G, 6, none⟩ (.int .i64 ((st.got : Int) + 1)) = W6 at R6 K6 Z6 M6 BE sz6 ⊢
  generalize Fw F (.slice o5 (b.length + 1) c5) = F6 at R6 N6 BF6
  refine BE.out.mono ?_
  rintro r w7 ⟨o7, d7, rfl, ho7, hb7⟩
  have P7 := hide (R6.out.below hb7)
  have Z7 := hide (heap_below Z6.out hb7)
  have M7 := hide (heap_below M6.out hb7)
  have K7 := hide (K6.out.then hb7)
  have O7 := hide ho7
  have K7S := K6.out.size
  clear ho7 hb7 BE R6 K6 Z6 M6 g1 g2 g6 gf1 gf6 e2
  have g2 : w7.cell? ⟨G, 2, none⟩ = some (.slice (some ⟨b', off2, none⟩) st.snd.length cs) := cell_of P7.out.hp 2
  have g5 : w7.cell? ⟨G, 5, none⟩ = some (.int .i64 (st.sent : Int)) := cell_of P7.out.hp 5
  have gf2 := frozen_of P7.out.hp 2
  have gf5 := frozen_of P7.out.hp 5
  have z0 : w7.cell? ⟨w.heap.size, 0, none⟩ = some (.bool false) := cell_of Z7.out 0
  have zf0 := frozen_of Z7.out 0
  have z1 : w7.cell? ⟨w.heap.size, 1, none⟩ = some (.bool false) := cell_of Z7.out 1
  have zf1 := frozen_of Z7.out 1
  have z2 : w7.cell? ⟨w.heap.size, 2, none⟩ = some (.bool false) := cell_of Z7.out 2
  have zf2 := frozen_of Z7.out 2
  have z3 : w7.cell? ⟨w.heap.size, 3, none⟩ = some (.int .i64 0) := cell_of Z7.out 3
  have zf3 := frozen_of Z7.out 3
  have z4 : w7.cell? ⟨w.heap.size, 4, none⟩ = some (.int .i64 0) := cell_of Z7.out 4
  have zf4 := frozen_of Z7.out 4
  have z5 : w7.cell? ⟨w.heap.size, 5, none⟩ = some (.int .i64 0) := cell_of Z7.out 5
  have zf5 := frozen_of Z7.out 5
  have z6 : w7.cell? ⟨w.heap.size, 6, none⟩ = some (.int .i64 0) := cell_of Z7.out 6
  have zf6 := frozen_of Z7.out 6
  have m0 : w7.cell? ⟨w.heap.size + 1, 0, none⟩ = some (.bool true) := cell_of M7.out 0
  have m1 : w7.cell? ⟨w.heap.size + 1, 1, none⟩ = some (.bool true) := cell_of M7.out 1
  have m2 : w7.cell? ⟨w.heap.size + 1, 2, none⟩ = some (.bool true) := cell_of M7.out 2
  have m3 : w7.cell? ⟨w.heap.size + 1, 3, none⟩ = some (.int .i64 x) := cell_of M7.out 3
  have m4 : w7.cell? ⟨w.heap.size + 1, 4, none⟩ = some (.int .i64 y.g) := cell_of M7.out 4
  have m5 : w7.cell? ⟨w.heap.size + 1, 5, none⟩ = some (.int .i64 y.c) := cell_of M7.out 5
  have m6 : w7.cell? ⟨w.heap.size + 1, 6, none⟩ = some (.int .i64 y.v) := cell_of M7.out 6
  go_wp2_with fail
  have NB6 : ∀ k, F6 k → k < W6.heap.size := fun k hk => by have := (BF6.out k hk).1; omega
  have R8 := (P7.out.newS O7.out NB6 (by omega)).setSent (st.sent + 1) ((st.sent : Int) + 1) (by omega)
  have NN : Nw (Fw F6 (.slice o7 t.length d7)) F w := N6.out.trans (Fw.nw O7.out (Nat.le_refl _)) K7S
  have NZ : ¬ Fw F6 (.slice o7 t.length d7) w.heap.size := by
   rintro (q | q)
   ·have := (BF6.out _ q).2
    omega
   ·have := (own_blk O7.out _ q).1
    omega
  exact bodyPost_ret (results_row1 Tryz.results110 _ _ _ _ rfl (loadVar_rgot (got_set ((Below.heap_setCell _ _ _ _ (Ne.symm hM3)).trans ((Below.heap_setCell _ _ _ _ (Ne.symm hM3)).trans Z7.out)) _ _ _ _ _ _ _) rfl)) rfl ⟨rfl, rfin7 ((K7.out.set FG.out 2 _).set FG.out 5 _) NN R8.rr (Nat.le_refl _) NZ _ _ _ _ _ _ _⟩
end Rp
end Go.Proofs.YtblfimobiibmjabGreat
namespace Go.Proofs.YtblfimobiibmjabGreat
open Go.ChangeShapes Go.WideShapes Go.ChangeAt Go.RowKit
namespace Rp
open Ba Pe _root_.Go.Proofs.YtblfimobiibmjabGreat.Pi
set_option maxRecDepth 100000 in
set_option maxHeartbeats 3200000 in
theorem rsend_full (G : Nat) (F : Nat → Prop) (st : St) (x : Int) (w : World) (h : Rr w G F st) (hc : st.closed = false) (hr : st.rcv = []) (hl : ¬ st.buf.length < st.size) :
 Calls Tryz.prog 109 #[.pointer (some ⟨G, 0, none⟩), .int .i64 x] w fun r w' => r = .returned (.tuple #[gv gz, .int .i64 0]) ∧ KF F w w' ∧ ∃ F', Nw F' F w ∧ Rr w' G F' st := by
 have hG := h.lt
 have NF : Hid (¬ F w.heap.size) := fun e => Nat.lt_irrefl _ (h.bd _ e)
 obtain ⟨vL, vS, vQ, h⟩ := h
 have P1 := hide (h.below (below_alloc w (.cells #[.bool false, .bool false, .bool false, .int .i64 0, .int .i64 0, .int .i64 0, .int .i64 0] 155)))
 have Z1 := hide (heap_new w (.cells #[.bool false, .bool false, .bool false, .int .i64 0, .int .i64 0, .int .i64 0, .int .i64 0] 155))
 obtain ⟨ol, cl, os, cs, oq, cq, ⟨rfl, _, _⟩, ⟨rfl, _, _⟩, rfl, _, _⟩ := h.read
 have y4 : (w.alloc (.cells #[.bool false, .bool false, .bool false, .int .i64 0, .int .i64 0, .int .i64 0, .int .i64 0] 155)).cell? ⟨G, 4, none⟩ = some (.bool false) := (cell_of P1.out.hp 4).trans (by rw [hc]; rfl)
 have y3 : (w.alloc (.cells #[.bool false, .bool false, .bool false, .int .i64 0, .int .i64 0, .int .i64 0, .int .i64 0] 155)).cell? ⟨G, 3, none⟩ = some (.slice oq 0 cq) := (cell_of P1.out.hp 3).trans (by rw [hr]; rfl)
 have y1 : (w.alloc (.cells #[.bool false, .bool false, .bool false, .int .i64 0, .int .i64 0, .int .i64 0, .int .i64 0] 155)).cell? ⟨G, 1, none⟩ = some (.slice ol st.buf.length cl) := cell_of P1.out.hp 1
 have y0 : (w.alloc (.cells #[.bool false, .bool false, .bool false, .int .i64 0, .int .i64 0, .int .i64 0, .int .i64 0] 155)).cell? ⟨G, 0, none⟩ = some (.int .i64 (st.size : Int)) := cell_of P1.out.hp 0
 have d1 : decide ((st.buf.length : Int) < (st.size : Int)) = false := decide_eq_false (by omega)
 clear h hc hr
 unfold gv gz
 have z0 : (w.alloc (.cells #[.bool false, .bool false, .bool false, .int .i64 0, .int .i64 0, .int .i64 0, .int .i64 0] 155)).cell? ⟨w.heap.size, 0, none⟩ = some (.bool false) := cell_of Z1.out 0
 have zf0 := frozen_of Z1.out 0
 have z1 : (w.alloc (.cells #[.bool false, .bool false, .bool false, .int .i64 0, .int .i64 0, .int .i64 0, .int .i64 0] 155)).cell? ⟨w.heap.size, 1, none⟩ = some (.bool false) := cell_of Z1.out 1
 have zf1 := frozen_of Z1.out 1
 have z2 : (w.alloc (.cells #[.bool false, .bool false, .bool false, .int .i64 0, .int .i64 0, .int .i64 0, .int .i64 0] 155)).cell? ⟨w.heap.size, 2, none⟩ = some (.bool false) := cell_of Z1.out 2
 have zf2 := frozen_of Z1.out 2
 have z3 : (w.alloc (.cells #[.bool false, .bool false, .bool false, .int .i64 0, .int .i64 0, .int .i64 0, .int .i64 0] 155)).cell? ⟨w.heap.size, 3, none⟩ = some (.int .i64 0) := cell_of Z1.out 3
 have zf3 := frozen_of Z1.out 3
 have z4 : (w.alloc (.cells #[.bool false, .bool false, .bool false, .int .i64 0, .int .i64 0, .int .i64 0, .int .i64 0] 155)).cell? ⟨w.heap.size, 4, none⟩ = some (.int .i64 0) := cell_of Z1.out 4
 have zf4 := frozen_of Z1.out 4
 have z5 : (w.alloc (.cells #[.bool false, .bool false, .bool false, .int .i64 0, .int .i64 0, .int .i64 0, .int .i64 0] 155)).cell? ⟨w.heap.size, 5, none⟩ = some (.int .i64 0) := cell_of Z1.out 5
 have zf5 := frozen_of Z1.out 5
 have z6 : (w.alloc (.cells #[.bool false, .bool false, .bool false, .int .i64 0, .int .i64 0, .int .i64 0, .int .i64 0] 155)).cell? ⟨w.heap.size, 6, none⟩ = some (.int .i64 0) := cell_of Z1.out 6
 have zf6 := frozen_of Z1.out 6
 go_enter Tryz.func109, Tryz.ntmps109
 go_wp2_with fail
 go_quiet (fail)
 go_wp2_with fail
 exact bodyPost_ret (results_row2 Tryz.results109 _ _ _ _ _ rfl rfl (loadVar_rgot (got_set (heap_below Z1.out (bdrew _ _)) _ _ _ _ _ _ _) rfl)) rfl ⟨rfl, rfin7 (KF.of (btr (below_alloc _ _) (bdrew _ _))) (Nw.refl _ _) (P1.out.below (bdrew _ _)).rr (Nat.le_refl _) NF.out _ _ _ _ _ _ _⟩
set_option maxRecDepth 100000 in
set_option maxHeartbeats 3200000 in
theorem rsend_room (G : Nat) (F : Nat → Prop) (st : St) (x : Int) (w : World) (h : Rr w G F st) (hc : st.closed = false) (hr : st.rcv = []) (hl : st.buf.length < st.size) (hs : st.sent < 1000000000) :
 Calls Tryz.prog 109 #[.pointer (some ⟨G, 0, none⟩), .int .i64 x] w fun r w' => r = .returned (.tuple #[gv ⟨true, false, false, 0, ⟨0, 0, 0⟩⟩, .int .i64 0]) ∧ KF F w w' ∧ ∃ F', Nw F' F w ∧ Rr w' G F' { st with buf := st.buf ++ [x], sent := st.sent + 1 } := by
 have hG := h.lt
 have NF : Hid (¬ F w.heap.size) := fun e => Nat.lt_irrefl _ (h.bd _ e)
 obtain ⟨vL, vS, vQ, h⟩ := h
 have FG := hide h.fg
 have BDF := hide h.bd
 have P1 := hide (h.below (below_alloc w (.cells #[.bool false, .bool false, .bool false, .int .i64 0, .int .i64 0, .int .i64 0, .int .i64 0] 155)))
 have Z1 := hide (heap_new w (.cells #[.bool false, .bool false, .bool false, .int .i64 0, .int .i64 0, .int .i64 0, .int .i64 0] 155))
 obtain ⟨ol, cl, os, cs, oq, cq, ⟨rfl, _, _⟩, ⟨rfl, _, _⟩, rfl, _, _⟩ := h.read
 have y4 : (w.alloc (.cells #[.bool false, .bool false, .bool false, .int .i64 0, .int .i64 0, .int .i64 0, .int .i64 0] 155)).cell? ⟨G, 4, none⟩ = some (.bool false) := (cell_of P1.out.hp 4).trans (by rw [hc]; rfl)
 have y3 : (w.alloc (.cells #[.bool false, .bool false, .bool false, .int .i64 0, .int .i64 0, .int .i64 0, .int .i64 0] 155)).cell? ⟨G, 3, none⟩ = some (.slice oq 0 cq) := (cell_of P1.out.hp 3).trans (by rw [hr]; rfl)
 have y1 : (w.alloc (.cells #[.bool false, .bool false, .bool false, .int .i64 0, .int .i64 0, .int .i64 0, .int .i64 0] 155)).cell? ⟨G, 1, none⟩ = some (.slice ol st.buf.length cl) := cell_of P1.out.hp 1
 have y0 : (w.alloc (.cells #[.bool false, .bool false, .bool false, .int .i64 0, .int .i64 0, .int .i64 0, .int .i64 0] 155)).cell? ⟨G, 0, none⟩ = some (.int .i64 (st.size : Int)) := cell_of P1.out.hp 0
 have d1 : decide ((st.buf.length : Int) < (st.size : Int)) = true := decide_eq_true (by omega)
 have sz := h.sz
 have bl := h.bl
 clear h hc hr
 unfold gv
 cases hi : Tryz.prog.info? 3 with
 | none => have := info_i; rw [hi] at this; cases this
 | some i0 =>
 have hx2 := info_i
 rw [hi] at hx2
 simp at hx2
 have INF := hide (And.intro hi hx2)
 clear hx2 hi
 have hW1 : (w.alloc (.cells #[.bool false, .bool false, .bool false, .int .i64 0, .int .i64 0, .int .i64 0, .int .i64 0] 155)).heap.size = w.heap.size + 1 := World.size_alloc _ _
 go_enter Tryz.func109, Tryz.ntmps109
 go_wp2_with fail
 go_quiet (fail)
 have BX := below_alloc ((w.alloc (.cells #[.bool false, .bool false, .bool false, .int .i64 0, .int .i64 0, .int .i64 0, .int .i64 0] 155)).drewN nq) (.cells #[.int .i64 x] 3)
 have B4 := hide (btr (btr (below_alloc w (.cells #[.bool false, .bool false, .bool false, .int .i64 0, .int .i64 0, .int .i64 0, .int .i64 0] 155)) (bdrew (w.alloc (.cells #[.bool false, .bool false, .bool false, .int .i64 0, .int .i64 0, .int .i64 0, .int .i64 0] 155)) nq)) BX)
 have P4 := hide (P1.out.below (btr (bdrew (w.alloc (.cells #[.bool false, .bool false, .bool false, .int .i64 0, .int .i64 0, .int .i64 0, .int .i64 0] 155)) nq) BX))
 have Z4 := hide (heap_below Z1.out (btr (bdrew (w.alloc (.cells #[.bool false, .bool false, .bool false, .int .i64 0, .int .i64 0, .int .i64 0, .int .i64 0] 155)) nq) BX))
 have src : ∀ j u, [Value.int .i64 x][j]? = some u → (((w.alloc (.cells #[.bool false, .bool false, .bool false, .int .i64 0, .int .i64 0, .int .i64 0, .int .i64 0] 155)).drewN nq).alloc (.cells #[.int .i64 x] 3)).cell? ((⟨(w.alloc (.cells #[.bool false, .bool false, .bool false, .int .i64 0, .int .i64 0, .int .i64 0, .int .i64 0] 155)).heap.size, 0, none⟩ : Addr).add j) = some u := cell_one_new ((w.alloc (.cells #[.bool false, .bool false, .bool false, .int .i64 0, .int .i64 0, .int .i64 0, .int .i64 0] 155)).drewN nq) (.int .i64 x) 3
 rw [hW1] at src
 have SRC := hide src
 clear BX src
 go_wp2_with (at_builtin; refine wpList_append_own_at _ rfl _ _ 46 rfl 0 3 i0 (.int .i64 0) 1 8 Tryz.underlying46 INF.out.1 INF.out.2.1 INF.out.2.2.1 INF.out.2.2.2 rfl (by decide) _ _ _ rfl P4.out.rl ⟨w.heap.size + 1, 0, none⟩ 1 1 [.int .i64 x] rfl rfl ?c1 ?c2 ?c3 ?c4 ?c5 ?_)
 case c1 => exact SRC.out
 case c2 => exact ic_one [x]
 case c3 => unfold maxLen; omega
 case c4 => omega
 case c5 => exact Nat.zero_le _
 intro v' w5 hown' hgrow _ hat
 have O5 : Hid (w5.ownsRow 0 3 1 v' (st.buf ++ [x]).length (ic (st.buf ++ [x]))) := by
  show World.ownsRow _ _ _ _ _ _ _
  rw [ic_app, List.length_append]
  exact hown'
 obtain ⟨ol', cl', rfl, _, _⟩ := own_at O5.out
 have hlen : (st.buf ++ [x]).length = st.buf.length + 1 := by simp
 have R5 := hide (P4.out.appL hgrow O5.out (by rw [hlen]; omega))
 have K5 := hide (KF.grown (KF.of (F := F) B4.out) hgrow (fun k e => .inl (P4.out.fl k e)))
 have N5 := hide (Fw.at (F := F) (w := w) hat P4.out.fl (by omega))
 have NZ : Hid (¬ Fw F (.slice ol' (st.buf ++ [x]).length cl') w.heap.size) := by
  rintro (q | q)
  ·exact NF.out q
  ·rcases hat with e | e
   ·exact NF.out (P4.out.fl _ (e ▸ q))
   ·rw [e, Option.some.injEq] at q
    omega
 have G5 := hide (heap_grown hgrow P4.out.hp (fun e => own_ty P4.out.rl P4.out.hp (by decide) e.symm))
 have Z5 := hide (heap_grown hgrow Z4.out (fun e => NF.out (P4.out.fl _ e)))
 clear hown' hgrow hat
 have g1 : w5.cell? ⟨G, 1, none⟩ = some (.slice ol st.buf.length cl) := cell_of G5.out 1
 have g5 : w5.cell? ⟨G, 5, none⟩ = some (.int .i64 (st.sent : Int)) := cell_of G5.out 5
 have gf1 := frozen_of G5.out 1
 have gf5 := frozen_of G5.out 5
 have hM3 : G ≠ w.heap.size := by omega
 have z0 : w5.cell? ⟨w.heap.size, 0, none⟩ = some (.bool false) := cell_of Z5.out 0
 have zf0 := frozen_of Z5.out 0
 have z1 : w5.cell? ⟨w.heap.size, 1, none⟩ = some (.bool false) := cell_of Z5.out 1
 have zf1 := frozen_of Z5.out 1
 have z2 : w5.cell? ⟨w.heap.size, 2, none⟩ = some (.bool false) := cell_of Z5.out 2
 have zf2 := frozen_of Z5.out 2
 have z3 : w5.cell? ⟨w.heap.size, 3, none⟩ = some (.int .i64 0) := cell_of Z5.out 3
 have zf3 := frozen_of Z5.out 3
 have z4 : w5.cell? ⟨w.heap.size, 4, none⟩ = some (.int .i64 0) := cell_of Z5.out 4
 have zf4 := frozen_of Z5.out 4
 have z5 : w5.cell? ⟨w.heap.size, 5, none⟩ = some (.int .i64 0) := cell_of Z5.out 5
 have zf5 := frozen_of Z5.out 5
 have z6 : w5.cell? ⟨w.heap.size, 6, none⟩ = some (.int .i64 0) := cell_of Z5.out 6
 have zf6 := frozen_of Z5.out 6
 go_wp2_with fail
 have R6 := R5.out.setSent (st.sent + 1) ((st.sent : Int) + 1) (by omega)
 rw [hlen] at R6
 have N6 := N5.out
 have NZ6 := NZ.out
 rw [hlen] at N6 NZ6
 exact bodyPost_ret (results_row2 Tryz.results109 _ _ _ _ _ rfl rfl (loadVar_rgot (got_set ((Below.heap_setCell _ _ _ _ (Ne.symm hM3)).trans ((Below.heap_setCell _ _ _ _ (Ne.symm hM3)).trans Z5.out)) _ _ _ _ _ _ _) rfl)) rfl ⟨rfl, rfin7 ((K5.out.set FG.out 1 _).set FG.out 5 _) N6 R6.rr (Nat.le_refl _) NZ6 _ _ _ _ _ _ _⟩
theorem rsend_any (G : Nat) (F : Nat → Prop) (st : St) (x : Int) (w : World) (h : Rr w G F st) (hs : st.sent < 1000000000) (hg : st.got < 1000000000) :
 Calls Tryz.prog 109 #[.pointer (some ⟨G, 0, none⟩), .int .i64 x] w fun r w' => r = .returned (.tuple #[gv (sendG st), .int .i64 (sendE st)]) ∧ KF F w w' ∧ ∃ F', Nw F' F w ∧ Rr w' G F' (sendS st x) := by
 rcases Bool.eq_false_or_eq_true st.closed with hc | hc
 ·rw [show sendG st = gz by simp [sendG, hc], show sendE st = 90 by simp [sendE, hc], show sendS st x = st by simp [sendS, hc]]
  exact rsend_closed G F st x w h hc
 ·rw [show sendE st = 0 by simp [sendE, hc]]
  cases hr : st.rcv with
  | cons y t =>
    rw [show sendG st = ⟨true, false, true, 0, y⟩ by simp [sendG, hc, hr], show sendS st x = { st with rcv := t, sent := st.sent + 1, got := st.got + 1 } by simp [sendS, hc, hr]]
    exact rsend_woke G F st x y t w h hc hr hs hg
  | nil =>
    by_cases hl : st.buf.length < st.size
    ·rw [show sendG st = ⟨true, false, false, 0, ⟨0, 0, 0⟩⟩ by simp [sendG, hc, hr, hl], show sendS st x = { st with buf := st.buf ++ [x], sent := st.sent + 1 } by simp [sendS, hc, hr, hl]]
     exact rsend_room G F st x w h hc hr hl hs
    ·rw [show sendG st = gz by simp [sendG, hc, hr, hl], show sendS st x = st by simp [sendS, hc, hr, hl]]
     exact rsend_full G F st x w h hc hr hl
end Rp
end Go.Proofs.YtblfimobiibmjabGreat
namespace Go.Proofs.YtblfimobiibmjabGreat
open Go.ChangeShapes Go.WideShapes Go.ChangeAt Go.RowKit
namespace Rp
open Ba Pe _root_.Go.Proofs.YtblfimobiibmjabGreat.Pi
theorem own_wat' {w : World} {base : Nat} {oa : Option Addr} {n c : Nat} {l : List Wt} (h : w.ownsRow base 123 3 (.slice oa n c) l.length (wc l)) : WAt w oa l := by
 obtain ⟨ob, d, e, hA, _⟩ := owns_wat h
 cases e
 exact hA
set_option maxRecDepth 100000 in
set_option maxHeartbeats 3200000 in
theorem rdrop_any (G : Nat) (F : Nat → Prop) (st : St) (g : Int) (w : World) (h : Rr w G F st) :
 Calls Tryz.prog 111 #[.pointer (some ⟨G, 0, none⟩), .int .i64 g] w fun r w' => r = .returned (.int .i64 (dropN st g)) ∧ KF F w w' ∧ ∃ F', Nw F' F w ∧ Rr w' G F' (dropS st g) := by
 have hG := h.lt
 obtain ⟨vL, vS, vQ, h⟩ := h
 have FG := hide h.fg
 have BDF := hide h.bd
 obtain ⟨ol, cl, os, cs, oq, cq, ⟨rfl, _, _⟩, ⟨rfl, _, _⟩, rfl, _, _⟩ := h.read
 have y2 : w.cell? ⟨G, 2, none⟩ = some (.slice os st.snd.length cs) := cell_of h.hp 2
 have y3 : w.cell? ⟨G, 3, none⟩ = some (.slice oq st.rcv.length cq) := cell_of h.hp 3
 have l1 := h.les
 have l2 := h.leq
 have d1 := dr_len g st.snd
 have d2 := dr_len g st.rcv
 have P0 := hide h
 clear h
 unfold dropN dropS
 go_enter Tryz.func111, Tryz.ntmps111
 go_wp2_with fail
 go_quiet (fail)
 have P1 := hide (P0.out.below (bdrew w nq))
 have WO := hide (rwithout_any os st.snd cs g (w.drewN nq) (own_wat' P1.out.rs) l1)
 go_wp2_with fail
 refine WO.out.mono ?_
 rintro r w2 ⟨ob, d, rfl, o2, b2⟩
 have P2 := hide (P1.out.below b2)
 have O2 := hide o2
 have K2 := hide (KF.of (F := F) (btr (bdrew w nq) b2))
 have SZ2 : w.heap.size ≤ w2.heap.size := b2.size
 clear o2 b2 y2 y3 P1 WO
 have S3 := hide (P2.out.newS (N := w.heap.size) O2.out (fun k hk => BDF.out k hk) (by omega))
 have K3 := hide (K2.out.set FG.out 2 (.slice ob (dr g st.snd).length d))
 have NW3 : Hid (Nw (Fw F (.slice ob (dr g st.snd).length d)) F w) := Fw.nw (N := w.heap.size) O2.out (Nat.le_refl _)
 have e2 : w2.cell? ⟨G, 2, none⟩ = some (.slice os st.snd.length cs) := cell_of P2.out.hp 2
 have e3 : w2.cell? ⟨G, 3, none⟩ = some (.slice oq st.rcv.length cq) := cell_of P2.out.hp 3
 have f2 := frozen_of P2.out.hp 2
 have WO2 := hide (rwithout_any oq st.rcv cq g _ (own_wat' S3.out.rq) l2)
 generalize hX : dr g st.snd = X at O2 S3 K3 NW3 WO2 d1
 clear P2 O2
 go_wp2_with fail
 generalize w2.setCell ⟨G, 2, none⟩ (.slice ob X.length d) = W3 at S3 K3 WO2 ⊢
 generalize hFF : Fw F (.slice ob X.length d) = F3 at S3 NW3
 refine WO2.out.mono ?_
 rintro r w4 ⟨ob4, d4, rfl, o4, b4⟩
 have P4 := hide (S3.out.below b4)
 have O4 := hide o4
 have K4 := hide (K3.out.then b4)
 clear o4 b4 WO2 e2 e3 f2
 have S5 := hide (P4.out.newQ (N := W3.heap.size) O4.out (fun k hk => S3.out.bd k hk) (by omega))
 have NW5 : Hid (Nw (Fw F3 (.slice ob4 (dr g st.rcv).length d4)) F w) := NW3.out.trans (Fw.nw (N := W3.heap.size) O4.out (Nat.le_refl _)) K3.out.size
 have e2 : w4.cell? ⟨G, 2, none⟩ = some (.slice ob X.length d) := cell_of P4.out.hp 2
 have e3 : w4.cell? ⟨G, 3, none⟩ = some (.slice oq st.rcv.length cq) := cell_of P4.out.hp 3
 have f3 := frozen_of P4.out.hp 3
 generalize hY : dr g st.rcv = Y at O4 S5 NW5 d2
 go_wp2_with fail
 go_quiet (fail)
 go_wp2_with fail
 go_ret
 refine ⟨ret_int (by rw [hX, hY]; omega), (K4.out.set FG.out 3 _).then (bdrew _ _), _, NW5.out, ?_⟩
 rw [hX, hY]
 exact (S5.out.below (bdrew _ _)).rr
end Rp
end Go.Proofs.YtblfimobiibmjabGreat
namespace Go.Proofs.YtblfimobiibmjabGreat
open Go.ChangeShapes Go.WideShapes Go.ChangeAt Go.RowKit
namespace Pi
open Ba Pe
end Pi
end Go.Proofs.YtblfimobiibmjabGreat
namespace Go.Proofs.YtblfimobiibmjabGreat
open Go.ChangeShapes Go.WideShapes Go.ChangeAt Go.RowKit
namespace Rp
open Ba Pe _root_.Go.Proofs.YtblfimobiibmjabGreat.Pi
theorem step_append_run {ops : Array Oper} (w : World) {o : Oper} {a : Act} {K : Act → World → Prop} {Q : Exit → Act → World → Prop} {E : Prop} (hgd : o.guard = none) (s x : Operand) (t tn : TypeId)
 (ho : o.op = .call { callee := .builtin .append, args := #[s, x], argTypes := #[t, tn] }) (vs vx : Value) (hs : a.eval s = vs) (hx : a.eval x = vx)
 (v' : Value) (w' : World) (hr : (Builtin.append_ #[t, tn] o.type #[vs, vx]).run Tryz.prog w = .ok v' w') (h : K (a.put o.dst v') w') :
 if Region.wanted o (yielded ops a.tmps) = true then Oper.wp Tryz.prog o a w K Q else E := by
 have hw : Region.wanted o (yielded ops a.tmps) = true := by simp [Region.wanted, hgd]
 rw [if_pos hw]
 exact Lib.wp_append_run w s x t tn ho vs vx hs hx v' w' hr h
set_option maxRecDepth 100000 in
set_option maxHeartbeats 1600000 in
theorem rwait_false_ready (G : Nat) (F : Nat → Prop) (st : St) (x : Wt) (w : World) (h : Rr w G F st) (hc : (st.closed || decide (0 < st.buf.length)) = true) :
 Calls Tryz.prog 63 #[.pointer (some ⟨G, 0, none⟩), .bool false, wv x] w fun r w' => r = .returned (.int .i64 7) ∧ Below w.heap.size w w' := by
 have hG := h.lt
 obtain ⟨vL, vS, vQ, h⟩ := h
 obtain ⟨ol, cl, os, cs, oq, cq, ⟨rfl, _, _⟩, ⟨rfl, _, _⟩, rfl, _, _⟩ := h.read
 have y0 : w.cell? ⟨G, 0, none⟩ = some (.int .i64 (st.size : Int)) := cell_of h.hp 0
 have y1 : w.cell? ⟨G, 1, none⟩ = some (.slice ol st.buf.length cl) := cell_of h.hp 1
 have y2 : w.cell? ⟨G, 2, none⟩ = some (.slice os st.snd.length cs) := cell_of h.hp 2
 have y3 : w.cell? ⟨G, 3, none⟩ = some (.slice oq st.rcv.length cq) := cell_of h.hp 3
 have y4 : w.cell? ⟨G, 4, none⟩ = some (.bool st.closed) := cell_of h.hp 4
 have BA := hide (below_alloc w (.cells #[.int .i64 x.g, .int .i64 x.c, .int .i64 x.v] 123))
 clear h
 unfold wv
 generalize st.buf.length = nb at y1 hc
 have e0 : decide (0 < (nb : Int)) = decide (0 < nb) := by simp
 generalize decide (0 < nb) = rm at e0 hc
 cases hcl : st.closed
 ·rw [hcl] at y4 hc
  simp only [Bool.false_or] at hc
  subst hc
  have e1 : decide (0 < nb) = true := by rw [← e0]; simp
  go_enter Tryz.func63, Tryz.ntmps63
  go_wp2_with fail
  go_ret
  exact ⟨rfl, BA.out⟩
 ·rw [hcl] at y4
  go_enter Tryz.func63, Tryz.ntmps63
  go_wp2_with fail
  go_ret
  exact ⟨rfl, BA.out⟩
set_option maxRecDepth 100000 in
set_option maxHeartbeats 1600000 in
theorem rwait_false_others (G : Nat) (F : Nat → Prop) (st : St) (x : Wt) (w : World) (h : Rr w G F st) (hcl : st.closed = false) (hrm : decide (0 < st.buf.length) = false) (ho : 0 < (dr x.g st.snd).length) :
 Calls Tryz.prog 63 #[.pointer (some ⟨G, 0, none⟩), .bool false, wv x] w fun r w' => r = .returned (.int .i64 7) ∧ Below w.heap.size w w' := by
 have hG := h.lt
 obtain ⟨vL, vS, vQ, h⟩ := h
 obtain ⟨ol, cl, os, cs, oq, cq, ⟨rfl, _, _⟩, ⟨rfl, _, _⟩, rfl, _, _⟩ := h.read
 have y0 : w.cell? ⟨G, 0, none⟩ = some (.int .i64 (st.size : Int)) := cell_of h.hp 0
 have y1 : w.cell? ⟨G, 1, none⟩ = some (.slice ol st.buf.length cl) := cell_of h.hp 1
 have y2 : w.cell? ⟨G, 2, none⟩ = some (.slice os st.snd.length cs) := cell_of h.hp 2
 have y3 : w.cell? ⟨G, 3, none⟩ = some (.slice oq st.rcv.length cq) := cell_of h.hp 3
 have y4 : w.cell? ⟨G, 4, none⟩ = some (.bool st.closed) := cell_of h.hp 4
 have BA := hide (below_alloc w (.cells #[.int .i64 x.g, .int .i64 x.c, .int .i64 x.v] 123))
 have e0 : decide (0 < (st.buf.length : Int)) = false := by simpa using hrm
 have l1 := h.les
 have l2 := h.leq
 rw [hcl] at y4
 have P0 := hide h
 have WO := hide fun u (hb : Below w.heap.size w u) => rwithout_any os st.snd cs x.g u (own_wat' (P0.out.below hb).rs) l1
 clear h
 generalize hN : (dr x.g st.snd).length = N at ho WO
 clear hN
 have dN : decide (0 < (N : Int)) = true := decide_eq_true (by omega)
 unfold wv
 go_enter Tryz.func63, Tryz.ntmps63
 go_wp2_with fail
 refine (WO.out _ (BA.out)).mono ?_
 rintro r w3 ⟨ob, d, rfl, -, b3⟩
 have B3 := hide (btr (BA.out) b3)
 clear b3 WO
 go_wp2_with fail
 go_ret
 exact ⟨rfl, B3.out⟩
set_option maxRecDepth 100000 in
set_option maxHeartbeats 1600000 in
theorem rwait_false_arg (G : Nat) (F : Nat → Prop) (st : St) (x : Wt) (w : World) (h : Rr w G F st) (hcl : st.closed = false) (hrm : decide (0 < st.buf.length) = false) (ho : (dr x.g st.snd).length = 0) (hx : okb x = false) :
 Calls Tryz.prog 63 #[.pointer (some ⟨G, 0, none⟩), .bool false, wv x] w fun r w' => r = .returned (.int .i64 1) ∧ Below w.heap.size w w' := by
 have hx' := (okb_not x).1 hx
 have hG := h.lt
 obtain ⟨vL, vS, vQ, h⟩ := h
 obtain ⟨ol, cl, os, cs, oq, cq, ⟨rfl, _, _⟩, ⟨rfl, _, _⟩, rfl, _, _⟩ := h.read
 have y0 : w.cell? ⟨G, 0, none⟩ = some (.int .i64 (st.size : Int)) := cell_of h.hp 0
 have y1 : w.cell? ⟨G, 1, none⟩ = some (.slice ol st.buf.length cl) := cell_of h.hp 1
 have y2 : w.cell? ⟨G, 2, none⟩ = some (.slice os st.snd.length cs) := cell_of h.hp 2
 have y3 : w.cell? ⟨G, 3, none⟩ = some (.slice oq st.rcv.length cq) := cell_of h.hp 3
 have y4 : w.cell? ⟨G, 4, none⟩ = some (.bool st.closed) := cell_of h.hp 4
 have BA := hide (below_alloc w (.cells #[.int .i64 x.g, .int .i64 x.c, .int .i64 x.v] 123))
 have e0 : decide (0 < (st.buf.length : Int)) = false := by simpa using hrm
 have l1 := h.les
 have l2 := h.leq
 rw [hcl] at y4
 have P0 := hide h
 have WO := hide fun u (hb : Below w.heap.size w u) => rwithout_any os st.snd cs x.g u (own_wat' (P0.out.below hb).rs) l1
 clear h
 generalize hN : (dr x.g st.snd).length = N at ho WO
 clear hN
 subst ho
 clear hx
 by_cases h1 : x.g < 0
 ·have d1 : decide (x.g < 0) = true := decide_eq_true h1
  clear hx'
  unfold wv
  go_enter Tryz.func63, Tryz.ntmps63
  go_wp2_with fail
  refine (WO.out _ (BA.out)).mono ?_
  rintro r w3 ⟨ob, d, rfl, -, b3⟩
  have B3 := hide (btr (BA.out) b3)
  have Y3 := hide (heap_below (heap_new w (.cells #[.int .i64 x.g, .int .i64 x.c, .int .i64 x.v] 123)) (b3))
  clear b3 WO
  have a0 : w3.cell? ⟨w.heap.size, 0, none⟩ = some (.int .i64 x.g) := cell_of Y3.out 0
  have a1 : w3.cell? ⟨w.heap.size, 1, none⟩ = some (.int .i64 x.c) := cell_of Y3.out 1
  have a2 : w3.cell? ⟨w.heap.size, 2, none⟩ = some (.int .i64 x.v) := cell_of Y3.out 2
  go_wp2_with fail
  go_ret
  exact ⟨rfl, B3.out⟩
 ·have d1 : decide (x.g < 0) = false := decide_eq_false h1
  have d2 : decide (x.c < -1) = true := decide_eq_true (by omega)
  clear hx'
  unfold wv
  go_enter Tryz.func63, Tryz.ntmps63
  go_wp2_with fail
  refine (WO.out _ (BA.out)).mono ?_
  rintro r w3 ⟨ob, d, rfl, -, b3⟩
  have B3 := hide (btr (BA.out) b3)
  have Y3 := hide (heap_below (heap_new w (.cells #[.int .i64 x.g, .int .i64 x.c, .int .i64 x.v] 123)) (b3))
  clear b3 WO
  have a0 : w3.cell? ⟨w.heap.size, 0, none⟩ = some (.int .i64 x.g) := cell_of Y3.out 0
  have a1 : w3.cell? ⟨w.heap.size, 1, none⟩ = some (.int .i64 x.c) := cell_of Y3.out 1
  have a2 : w3.cell? ⟨w.heap.size, 2, none⟩ = some (.int .i64 x.v) := cell_of Y3.out 2
  go_wp2_with fail
  go_ret
  exact ⟨rfl, B3.out⟩
set_option maxRecDepth 100000 in
set_option maxHeartbeats 1600000 in
theorem rwait_false_full (G : Nat) (F : Nat → Prop) (st : St) (x : Wt) (w : World) (h : Rr w G F st) (hcl : st.closed = false) (hrm : decide (0 < st.buf.length) = false) (ho : (dr x.g st.snd).length = 0) (hx : okb x = true) (hl : st.rcv.length = 1024) :
 Calls Tryz.prog 63 #[.pointer (some ⟨G, 0, none⟩), .bool false, wv x] w fun r w' => r = .returned (.int .i64 5) ∧ Below w.heap.size w w' := by
 have hx' := (okb_iff x).1 hx
 have d1 : decide (x.g < 0) = false := decide_eq_false (by omega)
 have d2 : decide (x.c < -1) = false := decide_eq_false (by omega)
 have hG := h.lt
 obtain ⟨vL, vS, vQ, h⟩ := h
 obtain ⟨ol, cl, os, cs, oq, cq, ⟨rfl, _, _⟩, ⟨rfl, _, _⟩, rfl, _, _⟩ := h.read
 have y0 : w.cell? ⟨G, 0, none⟩ = some (.int .i64 (st.size : Int)) := cell_of h.hp 0
 have y1 : w.cell? ⟨G, 1, none⟩ = some (.slice ol st.buf.length cl) := cell_of h.hp 1
 have y2 : w.cell? ⟨G, 2, none⟩ = some (.slice os st.snd.length cs) := cell_of h.hp 2
 have y3 : w.cell? ⟨G, 3, none⟩ = some (.slice oq st.rcv.length cq) := cell_of h.hp 3
 have y4 : w.cell? ⟨G, 4, none⟩ = some (.bool st.closed) := cell_of h.hp 4
 have BA := hide (below_alloc w (.cells #[.int .i64 x.g, .int .i64 x.c, .int .i64 x.v] 123))
 have e0 : decide (0 < (st.buf.length : Int)) = false := by simpa using hrm
 have l1 := h.les
 have l2 := h.leq
 rw [hcl] at y4
 have P0 := hide h
 have WO := hide fun u (hb : Below w.heap.size w u) => rwithout_any os st.snd cs x.g u (own_wat' (P0.out.below hb).rs) l1
 clear h
 generalize hN : (dr x.g st.snd).length = N at ho WO
 clear hN
 subst ho
 clear hx hx'
 unfold wv
 go_enter Tryz.func63, Tryz.ntmps63
 go_wp2_with fail
 refine (WO.out _ (BA.out)).mono ?_
 rintro r w3 ⟨ob, d, rfl, -, b3⟩
 have B3 := hide (btr (BA.out) b3)
 have Y3 := hide (heap_below (heap_new w (.cells #[.int .i64 x.g, .int .i64 x.c, .int .i64 x.v] 123)) (b3))
 clear b3 WO
 have a0 : w3.cell? ⟨w.heap.size, 0, none⟩ = some (.int .i64 x.g) := cell_of Y3.out 0
 have a1 : w3.cell? ⟨w.heap.size, 1, none⟩ = some (.int .i64 x.c) := cell_of Y3.out 1
 have a2 : w3.cell? ⟨w.heap.size, 2, none⟩ = some (.int .i64 x.v) := cell_of Y3.out 2
 have g1 : w3.cell? ⟨G, 3, none⟩ = some (.slice oq 1024 cq) := (cell_of (P0.out.below B3.out).hp 3).trans (by rw [hl]; rfl)
 go_wp2_with fail
 go_ret
 exact ⟨rfl, B3.out⟩
set_option maxRecDepth 100000 in
set_option maxHeartbeats 3200000 in
theorem rwait_false_ok (G : Nat) (F : Nat → Prop) (st : St) (x : Wt) (w : World) (h : Rr w G F st) (hcl : st.closed = false) (hrm : decide (0 < st.buf.length) = false) (ho : (dr x.g st.snd).length = 0) (hx : okb x = true) (hl : st.rcv.length < 1024) :
 Calls Tryz.prog 63 #[.pointer (some ⟨G, 0, none⟩), .bool false, wv x] w fun r w' => r = .returned (.int .i64 0) ∧ KF F w w' ∧ ∃ F', Nw F' F w ∧ Rr w' G F' { st with rcv := st.rcv ++ [x] } := by
 have hx' := (okb_iff x).1 hx
 have d1 : decide (x.g < 0) = false := decide_eq_false (by omega)
 have d2 : decide (x.c < -1) = false := decide_eq_false (by omega)
 have hG := h.lt
 obtain ⟨vL, vS, vQ, h⟩ := h
 obtain ⟨ol, cl, os, cs, oq, cq, ⟨rfl, _, _⟩, ⟨rfl, _, _⟩, rfl, _, _⟩ := h.read
 have y0 : w.cell? ⟨G, 0, none⟩ = some (.int .i64 (st.size : Int)) := cell_of h.hp 0
 have y1 : w.cell? ⟨G, 1, none⟩ = some (.slice ol st.buf.length cl) := cell_of h.hp 1
 have y2 : w.cell? ⟨G, 2, none⟩ = some (.slice os st.snd.length cs) := cell_of h.hp 2
 have y3 : w.cell? ⟨G, 3, none⟩ = some (.slice oq st.rcv.length cq) := cell_of h.hp 3
 have y4 : w.cell? ⟨G, 4, none⟩ = some (.bool st.closed) := cell_of h.hp 4
 have BA := hide (below_alloc w (.cells #[.int .i64 x.g, .int .i64 x.c, .int .i64 x.v] 123))
 have e0 : decide (0 < (st.buf.length : Int)) = false := by simpa using hrm
 have l1 := h.les
 have l2 := h.leq
 rw [hcl] at y4
 have P0 := hide h
 have WO := hide fun u (hb : Below w.heap.size w u) => rwithout_any os st.snd cs x.g u (own_wat' (P0.out.below hb).rs) l1
 clear h
 generalize hN : (dr x.g st.snd).length = N at ho WO
 clear hN
 subst ho
 clear hx hx'
 cases hi : Tryz.prog.info? 123 with
 | none => have := info_rw; rw [hi] at this; cases this
 | some i0 =>
 have hx2 := info_rw
 rw [hi] at hx2
 simp at hx2
 have INF := hide (And.intro hi hx2)
 clear hx2 hi
 have d3 : decide (1024 ≤ (st.rcv.length : Int)) = false := decide_eq_false (by omega)
 unfold wv
 go_enter Tryz.func63, Tryz.ntmps63
 go_wp2_with fail
 refine (WO.out _ (BA.out)).mono ?_
 rintro r w3 ⟨ob, d, rfl, -, b3⟩
 have B3 := hide (btr (BA.out) b3)
 have Y3 := hide (heap_below (heap_new w (.cells #[.int .i64 x.g, .int .i64 x.c, .int .i64 x.v] 123)) (b3))
 clear b3 WO
 have a0 : w3.cell? ⟨w.heap.size, 0, none⟩ = some (.int .i64 x.g) := cell_of Y3.out 0
 have a1 : w3.cell? ⟨w.heap.size, 1, none⟩ = some (.int .i64 x.c) := cell_of Y3.out 1
 have a2 : w3.cell? ⟨w.heap.size, 2, none⟩ = some (.int .i64 x.v) := cell_of Y3.out 2
 have P3 := hide (P0.out.below B3.out)
 have g1 : w3.cell? ⟨G, 3, none⟩ = some (.slice oq st.rcv.length cq) := cell_of P3.out.hp 3
 have gf1 := frozen_of P3.out.hp 3
 have SZ3 := B3.out.size
 have hG3 : G < w3.heap.size := by omega
 have hY3 := heap_lt Y3.out
 go_wp2_with fail
 have BD := hide (btr (below_alloc w3 (.cells #[.int .i64 x.g, .int .i64 x.c, .int .i64 x.v] 123)) (bdrew1 _))
 have P4 := hide (P3.out.below BD.out)
 have hS4 : (w3.alloc (.cells #[.int .i64 x.g, .int .i64 x.c, .int .i64 x.v] 123)).drew.heap.size = w3.heap.size + 1 := World.size_alloc _ _
 obtain ⟨v', w6, hr, hown, hgrow, _, hat⟩ := run_append_own_at (P := Tryz.prog) ((w3.alloc (.cells #[.int .i64 x.g, .int .i64 x.c, .int .i64 x.v] 123)).drew) 0 125 125 123 i0 (wv ⟨0, 0, 0⟩) 3 24 Tryz.underlying125 INF.out.1 INF.out.2.1 INF.out.2.2.1 INF.out.2.2.2 rfl (by decide) _ _ _ P4.out.rq ⟨w3.heap.size, 0, none⟩ 1 1 (wc [x]) rfl (src3 w3 x _) (wc_one _) (by unfold maxLen; omega) (by omega) (Nat.zero_le _)
 rw [← wc_app] at hown
 have hown2 : w6.ownsRow 0 123 3 v' (st.rcv ++ [x]).length (wc (st.rcv ++ [x])) := by rw [List.length_append]; exact hown
 obtain ⟨oa', c', rfl, _, _⟩ := owns_wat hown2
 have hlen : (st.rcv ++ [x]).length = st.rcv.length + 1 := by simp
 have R6 := hide (P4.out.appQ hgrow hown2 hat (by rw [hlen]; omega))
 have G6 := hide (heap_grown hgrow P4.out.hp (fun e => own_ty P4.out.rq P4.out.hp (by decide) e.symm))
 have K6 := hide (KF.grown (KF.of (F := F) (btr B3.out BD.out)) hgrow (fun k e => .inl (P4.out.fq k e)))
 have N6 : Hid (Nw (Fw F (.slice oa' (st.rcv ++ [x]).length c')) F w) := Fw.at hat P4.out.fq (by rw [hS4]; omega)
 have g6 : w6.cell? ⟨G, 3, none⟩ = some (.slice oq st.rcv.length cq) := cell_of G6.out 3
 have gf6 := frozen_of G6.out 3
 have FG := hide P3.out.fg
 have HR := hide hr
 clear hown hown2 hgrow hat BD hr
 rw [hlen] at R6 N6
 go_region_law (refine step_append_run _ (by rfl) _ _ _ _ (by rfl) _ _ (by rfl) (by rfl) _ _ HR.out ?_)
 all_goals
  go_wp2_with fail
  go_ret
  exact ⟨rfl, K6.out.set FG.out 3 _, _, N6.out, R6.out.rr⟩
end Rp
end Go.Proofs.YtblfimobiibmjabGreat
namespace Go.Proofs.YtblfimobiibmjabGreat
open Go.ChangeShapes Go.WideShapes Go.ChangeAt Go.RowKit
namespace Rp
open Ba Pe _root_.Go.Proofs.YtblfimobiibmjabGreat.Pi
set_option maxRecDepth 100000 in
set_option maxHeartbeats 1600000 in
theorem rwait_true_ready (G : Nat) (F : Nat → Prop) (st : St) (x : Wt) (w : World) (h : Rr w G F st) (hc : (st.closed || decide (st.buf.length < st.size)) = true) :
 Calls Tryz.prog 63 #[.pointer (some ⟨G, 0, none⟩), .bool true, wv x] w fun r w' => r = .returned (.int .i64 7) ∧ Below w.heap.size w w' := by
 have hG := h.lt
 obtain ⟨vL, vS, vQ, h⟩ := h
 obtain ⟨ol, cl, os, cs, oq, cq, ⟨rfl, _, _⟩, ⟨rfl, _, _⟩, rfl, _, _⟩ := h.read
 have y0 : w.cell? ⟨G, 0, none⟩ = some (.int .i64 (st.size : Int)) := cell_of h.hp 0
 have y1 : w.cell? ⟨G, 1, none⟩ = some (.slice ol st.buf.length cl) := cell_of h.hp 1
 have y2 : w.cell? ⟨G, 2, none⟩ = some (.slice os st.snd.length cs) := cell_of h.hp 2
 have y3 : w.cell? ⟨G, 3, none⟩ = some (.slice oq st.rcv.length cq) := cell_of h.hp 3
 have y4 : w.cell? ⟨G, 4, none⟩ = some (.bool st.closed) := cell_of h.hp 4
 have BA := hide (below_alloc w (.cells #[.int .i64 x.g, .int .i64 x.c, .int .i64 x.v] 123))
 clear h
 unfold wv
 generalize st.buf.length = nb at y1 hc
 generalize st.size = ns at y0 hc
 have e0 : decide ((nb : Int) < (ns : Int)) = decide (nb < ns) := by simp
 generalize decide (nb < ns) = rm at e0 hc
 cases hcl : st.closed
 ·rw [hcl] at y4 hc
  simp only [Bool.false_or] at hc
  subst hc
  have e1 : decide (nb < ns) = true := by rw [← e0]; simp
  go_enter Tryz.func63, Tryz.ntmps63
  go_wp2_with fail
  go_quiet (fail)
  go_wp2_with fail
  go_ret
  exact ⟨rfl, btr BA.out (bdrew _ _)⟩
 ·rw [hcl] at y4
  go_enter Tryz.func63, Tryz.ntmps63
  go_wp2_with fail
  go_quiet (fail)
  go_wp2_with fail
  go_ret
  exact ⟨rfl, btr BA.out (bdrew _ _)⟩
set_option maxRecDepth 100000 in
set_option maxHeartbeats 1600000 in
theorem rwait_true_others (G : Nat) (F : Nat → Prop) (st : St) (x : Wt) (w : World) (h : Rr w G F st) (hcl : st.closed = false) (hrm : decide (st.buf.length < st.size) = false) (ho : 0 < (dr x.g st.rcv).length) :
 Calls Tryz.prog 63 #[.pointer (some ⟨G, 0, none⟩), .bool true, wv x] w fun r w' => r = .returned (.int .i64 7) ∧ Below w.heap.size w w' := by
 have hG := h.lt
 obtain ⟨vL, vS, vQ, h⟩ := h
 obtain ⟨ol, cl, os, cs, oq, cq, ⟨rfl, _, _⟩, ⟨rfl, _, _⟩, rfl, _, _⟩ := h.read
 have y0 : w.cell? ⟨G, 0, none⟩ = some (.int .i64 (st.size : Int)) := cell_of h.hp 0
 have y1 : w.cell? ⟨G, 1, none⟩ = some (.slice ol st.buf.length cl) := cell_of h.hp 1
 have y2 : w.cell? ⟨G, 2, none⟩ = some (.slice os st.snd.length cs) := cell_of h.hp 2
 have y3 : w.cell? ⟨G, 3, none⟩ = some (.slice oq st.rcv.length cq) := cell_of h.hp 3
 have y4 : w.cell? ⟨G, 4, none⟩ = some (.bool st.closed) := cell_of h.hp 4
 have BA := hide (below_alloc w (.cells #[.int .i64 x.g, .int .i64 x.c, .int .i64 x.v] 123))
 have e0 : decide ((st.buf.length : Int) < (st.size : Int)) = false := by simpa using hrm
 have l1 := h.leq
 have l2 := h.les
 rw [hcl] at y4
 have P0 := hide h
 have WO := hide fun u (hb : Below w.heap.size w u) => rwithout_any oq st.rcv cq x.g u (own_wat' (P0.out.below hb).rq) l1
 clear h
 generalize hN : (dr x.g st.rcv).length = N at ho WO
 clear hN
 have dN : decide (0 < (N : Int)) = true := decide_eq_true (by omega)
 unfold wv
 go_enter Tryz.func63, Tryz.ntmps63
 go_wp2_with fail
 go_quiet (fail)
 go_wp2_with fail
 refine (WO.out _ (btr BA.out (bdrew _ _))).mono ?_
 rintro r w3 ⟨ob, d, rfl, -, b3⟩
 have B3 := hide (btr (btr BA.out (bdrew _ _)) b3)
 clear b3 WO
 go_wp2_with fail
 go_ret
 exact ⟨rfl, B3.out⟩
set_option maxRecDepth 100000 in
set_option maxHeartbeats 1600000 in
theorem rwait_true_arg (G : Nat) (F : Nat → Prop) (st : St) (x : Wt) (w : World) (h : Rr w G F st) (hcl : st.closed = false) (hrm : decide (st.buf.length < st.size) = false) (ho : (dr x.g st.rcv).length = 0) (hx : okb x = false) :
 Calls Tryz.prog 63 #[.pointer (some ⟨G, 0, none⟩), .bool true, wv x] w fun r w' => r = .returned (.int .i64 1) ∧ Below w.heap.size w w' := by
 have hx' := (okb_not x).1 hx
 have hG := h.lt
 obtain ⟨vL, vS, vQ, h⟩ := h
 obtain ⟨ol, cl, os, cs, oq, cq, ⟨rfl, _, _⟩, ⟨rfl, _, _⟩, rfl, _, _⟩ := h.read
 have y0 : w.cell? ⟨G, 0, none⟩ = some (.int .i64 (st.size : Int)) := cell_of h.hp 0
 have y1 : w.cell? ⟨G, 1, none⟩ = some (.slice ol st.buf.length cl) := cell_of h.hp 1
 have y2 : w.cell? ⟨G, 2, none⟩ = some (.slice os st.snd.length cs) := cell_of h.hp 2
 have y3 : w.cell? ⟨G, 3, none⟩ = some (.slice oq st.rcv.length cq) := cell_of h.hp 3
 have y4 : w.cell? ⟨G, 4, none⟩ = some (.bool st.closed) := cell_of h.hp 4
 have BA := hide (below_alloc w (.cells #[.int .i64 x.g, .int .i64 x.c, .int .i64 x.v] 123))
 have e0 : decide ((st.buf.length : Int) < (st.size : Int)) = false := by simpa using hrm
 have l1 := h.leq
 have l2 := h.les
 rw [hcl] at y4
 have P0 := hide h
 have WO := hide fun u (hb : Below w.heap.size w u) => rwithout_any oq st.rcv cq x.g u (own_wat' (P0.out.below hb).rq) l1
 clear h
 generalize hN : (dr x.g st.rcv).length = N at ho WO
 clear hN
 subst ho
 clear hx
 by_cases h1 : x.g < 0
 ·have d1 : decide (x.g < 0) = true := decide_eq_true h1
  clear hx'
  unfold wv
  go_enter Tryz.func63, Tryz.ntmps63
  go_wp2_with fail
  go_quiet (fail)
  go_wp2_with fail
  refine (WO.out _ (btr BA.out (bdrew _ _))).mono ?_
  rintro r w3 ⟨ob, d, rfl, -, b3⟩
  have B3 := hide (btr (btr BA.out (bdrew _ _)) b3)
  have Y3 := hide (heap_below (heap_new w (.cells #[.int .i64 x.g, .int .i64 x.c, .int .i64 x.v] 123)) (btr (bdrew _ _) b3))
  clear b3 WO
  have a0 : w3.cell? ⟨w.heap.size, 0, none⟩ = some (.int .i64 x.g) := cell_of Y3.out 0
  have a1 : w3.cell? ⟨w.heap.size, 1, none⟩ = some (.int .i64 x.c) := cell_of Y3.out 1
  have a2 : w3.cell? ⟨w.heap.size, 2, none⟩ = some (.int .i64 x.v) := cell_of Y3.out 2
  go_wp2_with fail
  go_ret
  exact ⟨rfl, B3.out⟩
 ·have d1 : decide (x.g < 0) = false := decide_eq_false h1
  have d2 : decide (x.c < -1) = true := decide_eq_true (by omega)
  clear hx'
  unfold wv
  go_enter Tryz.func63, Tryz.ntmps63
  go_wp2_with fail
  go_quiet (fail)
  go_wp2_with fail
  refine (WO.out _ (btr BA.out (bdrew _ _))).mono ?_
  rintro r w3 ⟨ob, d, rfl, -, b3⟩
  have B3 := hide (btr (btr BA.out (bdrew _ _)) b3)
  have Y3 := hide (heap_below (heap_new w (.cells #[.int .i64 x.g, .int .i64 x.c, .int .i64 x.v] 123)) (btr (bdrew _ _) b3))
  clear b3 WO
  have a0 : w3.cell? ⟨w.heap.size, 0, none⟩ = some (.int .i64 x.g) := cell_of Y3.out 0
  have a1 : w3.cell? ⟨w.heap.size, 1, none⟩ = some (.int .i64 x.c) := cell_of Y3.out 1
  have a2 : w3.cell? ⟨w.heap.size, 2, none⟩ = some (.int .i64 x.v) := cell_of Y3.out 2
  go_wp2_with fail
  go_ret
  exact ⟨rfl, B3.out⟩
set_option maxRecDepth 100000 in
set_option maxHeartbeats 1600000 in
theorem rwait_true_full (G : Nat) (F : Nat → Prop) (st : St) (x : Wt) (w : World) (h : Rr w G F st) (hcl : st.closed = false) (hrm : decide (st.buf.length < st.size) = false) (ho : (dr x.g st.rcv).length = 0) (hx : okb x = true) (hl : st.snd.length = 1024) :
 Calls Tryz.prog 63 #[.pointer (some ⟨G, 0, none⟩), .bool true, wv x] w fun r w' => r = .returned (.int .i64 5) ∧ Below w.heap.size w w' := by
 have hx' := (okb_iff x).1 hx
 have d1 : decide (x.g < 0) = false := decide_eq_false (by omega)
 have d2 : decide (x.c < -1) = false := decide_eq_false (by omega)
 have hG := h.lt
 obtain ⟨vL, vS, vQ, h⟩ := h
 obtain ⟨ol, cl, os, cs, oq, cq, ⟨rfl, _, _⟩, ⟨rfl, _, _⟩, rfl, _, _⟩ := h.read
 have y0 : w.cell? ⟨G, 0, none⟩ = some (.int .i64 (st.size : Int)) := cell_of h.hp 0
 have y1 : w.cell? ⟨G, 1, none⟩ = some (.slice ol st.buf.length cl) := cell_of h.hp 1
 have y2 : w.cell? ⟨G, 2, none⟩ = some (.slice os st.snd.length cs) := cell_of h.hp 2
 have y3 : w.cell? ⟨G, 3, none⟩ = some (.slice oq st.rcv.length cq) := cell_of h.hp 3
 have y4 : w.cell? ⟨G, 4, none⟩ = some (.bool st.closed) := cell_of h.hp 4
 have BA := hide (below_alloc w (.cells #[.int .i64 x.g, .int .i64 x.c, .int .i64 x.v] 123))
 have e0 : decide ((st.buf.length : Int) < (st.size : Int)) = false := by simpa using hrm
 have l1 := h.leq
 have l2 := h.les
 rw [hcl] at y4
 have P0 := hide h
 have WO := hide fun u (hb : Below w.heap.size w u) => rwithout_any oq st.rcv cq x.g u (own_wat' (P0.out.below hb).rq) l1
 clear h
 generalize hN : (dr x.g st.rcv).length = N at ho WO
 clear hN
 subst ho
 clear hx hx'
 unfold wv
 go_enter Tryz.func63, Tryz.ntmps63
 go_wp2_with fail
 go_quiet (fail)
 go_wp2_with fail
 refine (WO.out _ (btr BA.out (bdrew _ _))).mono ?_
 rintro r w3 ⟨ob, d, rfl, -, b3⟩
 have B3 := hide (btr (btr BA.out (bdrew _ _)) b3)
 have Y3 := hide (heap_below (heap_new w (.cells #[.int .i64 x.g, .int .i64 x.c, .int .i64 x.v] 123)) (btr (bdrew _ _) b3))
 clear b3 WO
 have a0 : w3.cell? ⟨w.heap.size, 0, none⟩ = some (.int .i64 x.g) := cell_of Y3.out 0
 have a1 : w3.cell? ⟨w.heap.size, 1, none⟩ = some (.int .i64 x.c) := cell_of Y3.out 1
 have a2 : w3.cell? ⟨w.heap.size, 2, none⟩ = some (.int .i64 x.v) := cell_of Y3.out 2
 have g1 : w3.cell? ⟨G, 2, none⟩ = some (.slice os 1024 cs) := (cell_of (P0.out.below B3.out).hp 2).trans (by rw [hl]; rfl)
 go_wp2_with fail
 go_ret
 exact ⟨rfl, B3.out⟩
set_option maxRecDepth 100000 in
set_option maxHeartbeats 3200000 in
theorem rwait_true_ok (G : Nat) (F : Nat → Prop) (st : St) (x : Wt) (w : World) (h : Rr w G F st) (hcl : st.closed = false) (hrm : decide (st.buf.length < st.size) = false) (ho : (dr x.g st.rcv).length = 0) (hx : okb x = true) (hl : st.snd.length < 1024) :
 Calls Tryz.prog 63 #[.pointer (some ⟨G, 0, none⟩), .bool true, wv x] w fun r w' => r = .returned (.int .i64 0) ∧ KF F w w' ∧ ∃ F', Nw F' F w ∧ Rr w' G F' { st with snd := st.snd ++ [x] } := by
 have hx' := (okb_iff x).1 hx
 have d1 : decide (x.g < 0) = false := decide_eq_false (by omega)
 have d2 : decide (x.c < -1) = false := decide_eq_false (by omega)
 have hG := h.lt
 obtain ⟨vL, vS, vQ, h⟩ := h
 obtain ⟨ol, cl, os, cs, oq, cq, ⟨rfl, _, _⟩, ⟨rfl, _, _⟩, rfl, _, _⟩ := h.read
 have y0 : w.cell? ⟨G, 0, none⟩ = some (.int .i64 (st.size : Int)) := cell_of h.hp 0
 have y1 : w.cell? ⟨G, 1, none⟩ = some (.slice ol st.buf.length cl) := cell_of h.hp 1
 have y2 : w.cell? ⟨G, 2, none⟩ = some (.slice os st.snd.length cs) := cell_of h.hp 2
 have y3 : w.cell? ⟨G, 3, none⟩ = some (.slice oq st.rcv.length cq) := cell_of h.hp 3
 have y4 : w.cell? ⟨G, 4, none⟩ = some (.bool st.closed) := cell_of h.hp 4
 have BA := hide (below_alloc w (.cells #[.int .i64 x.g, .int .i64 x.c, .int .i64 x.v] 123))
 have e0 : decide ((st.buf.length : Int) < (st.size : Int)) = false := by simpa using hrm
 have l1 := h.leq
 have l2 := h.les
 rw [hcl] at y4
 have P0 := hide h
 have WO := hide fun u (hb : Below w.heap.size w u) => rwithout_any oq st.rcv cq x.g u (own_wat' (P0.out.below hb).rq) l1
 clear h
 generalize hN : (dr x.g st.rcv).length = N at ho WO
 clear hN
 subst ho
 clear hx hx'
 cases hi : Tryz.prog.info? 123 with
 | none => have := info_rw; rw [hi] at this; cases this
 | some i0 =>
 have hx2 := info_rw
 rw [hi] at hx2
 simp at hx2
 have INF := hide (And.intro hi hx2)
 clear hx2 hi
 have d3 : decide (1024 ≤ (st.snd.length : Int)) = false := decide_eq_false (by omega)
 unfold wv
 go_enter Tryz.func63, Tryz.ntmps63
 go_wp2_with fail
 go_quiet (fail)
 go_wp2_with fail
 refine (WO.out _ (btr BA.out (bdrew _ _))).mono ?_
 rintro r w3 ⟨ob, d, rfl, -, b3⟩
 have B3 := hide (btr (btr BA.out (bdrew _ _)) b3)
 have Y3 := hide (heap_below (heap_new w (.cells #[.int .i64 x.g, .int .i64 x.c, .int .i64 x.v] 123)) (btr (bdrew _ _) b3))
 clear b3 WO
 have a0 : w3.cell? ⟨w.heap.size, 0, none⟩ = some (.int .i64 x.g) := cell_of Y3.out 0
 have a1 : w3.cell? ⟨w.heap.size, 1, none⟩ = some (.int .i64 x.c) := cell_of Y3.out 1
 have a2 : w3.cell? ⟨w.heap.size, 2, none⟩ = some (.int .i64 x.v) := cell_of Y3.out 2
 have P3 := hide (P0.out.below B3.out)
 have g1 : w3.cell? ⟨G, 2, none⟩ = some (.slice os st.snd.length cs) := cell_of P3.out.hp 2
 have gf1 := frozen_of P3.out.hp 2
 have SZ3 := B3.out.size
 have hG3 : G < w3.heap.size := by omega
 have hY3 := heap_lt Y3.out
 go_wp2_with fail
 have BD := hide (btr (below_alloc w3 (.cells #[.int .i64 x.g, .int .i64 x.c, .int .i64 x.v] 123)) (bdrew1 _))
 have P4 := hide (P3.out.below BD.out)
 have hS4 : (w3.alloc (.cells #[.int .i64 x.g, .int .i64 x.c, .int .i64 x.v] 123)).drew.heap.size = w3.heap.size + 1 := World.size_alloc _ _
 obtain ⟨v', w6, hr, hown, hgrow, _, hat⟩ := run_append_own_at (P := Tryz.prog) ((w3.alloc (.cells #[.int .i64 x.g, .int .i64 x.c, .int .i64 x.v] 123)).drew) 0 125 125 123 i0 (wv ⟨0, 0, 0⟩) 3 24 Tryz.underlying125 INF.out.1 INF.out.2.1 INF.out.2.2.1 INF.out.2.2.2 rfl (by decide) _ _ _ P4.out.rs ⟨w3.heap.size, 0, none⟩ 1 1 (wc [x]) rfl (src3 w3 x _) (wc_one _) (by unfold maxLen; omega) (by omega) (Nat.zero_le _)
 rw [← wc_app] at hown
 have hown2 : w6.ownsRow 0 123 3 v' (st.snd ++ [x]).length (wc (st.snd ++ [x])) := by rw [List.length_append]; exact hown
 obtain ⟨oa', c', rfl, _, _⟩ := owns_wat hown2
 have hlen : (st.snd ++ [x]).length = st.snd.length + 1 := by simp
 have R6 := hide (P4.out.appS hgrow hown2 hat (by rw [hlen]; omega))
 have G6 := hide (heap_grown hgrow P4.out.hp (fun e => own_ty P4.out.rs P4.out.hp (by decide) e.symm))
 have K6 := hide (KF.grown (KF.of (F := F) (btr B3.out BD.out)) hgrow (fun k e => .inl (P4.out.fs k e)))
 have N6 : Hid (Nw (Fw F (.slice oa' (st.snd ++ [x]).length c')) F w) := Fw.at hat P4.out.fs (by rw [hS4]; omega)
 have g6 : w6.cell? ⟨G, 2, none⟩ = some (.slice os st.snd.length cs) := cell_of G6.out 2
 have gf6 := frozen_of G6.out 2
 have FG := hide P3.out.fg
 have HR := hide hr
 clear hown hown2 hgrow hat BD hr
 rw [hlen] at R6 N6
 go_region_law (refine step_append_run _ (by rfl) _ _ _ _ (by rfl) _ _ (by rfl) (by rfl) _ _ HR.out ?_)
 all_goals
  go_wp2_with fail
  go_ret
  exact ⟨rfl, K6.out.set FG.out 2 _, _, N6.out, R6.out.rr⟩
theorem rwait_any (G : Nat) (F : Nat → Prop) (st : St) (send : Bool) (x : Wt) (w : World) (h : Rr w G F st) :
 Calls Tryz.prog 63 #[.pointer (some ⟨G, 0, none⟩), .bool send, wv x] w fun r w' => r = .returned (.int .i64 (waitE st send x)) ∧ KF F w w' ∧ ∃ F', Nw F' F w ∧ Rr w' G F' (waitS st send x) := by
 have bel : ∀ {r : Ending} {w' : World} {n : Int}, r = .returned (.int .i64 n) ∧ Below w.heap.size w w' → r = .returned (.int .i64 n) ∧ KF F w w' ∧ ∃ F', Nw F' F w ∧ Rr w' G F' st := fun {r w' n} ⟨e, b⟩ => ⟨e, KF.of b, F, Nw.refl _ _, h.below b⟩
 cases send
 ·cases hc : (st.closed || decide (0 < st.buf.length))
  ·have hcl : st.closed = false := by
    cases e : st.closed
    ·rfl
    ·rw [e] at hc; simp at hc
   have hrm : decide (0 < st.buf.length) = false := by rw [hcl] at hc; simpa using hc
   by_cases ho : 0 < (dr x.g st.snd).length
   ·have hq : rdyBut st false x.g = true := by simp [rdyBut, room, Pi.own, hcl, hrm, ho]
    rw [show waitE st false x = 7 by simp [waitE, hq], show waitS st false x = st by simp [waitS, hq]]
    exact (rwait_false_others G F st x w h hcl hrm ho).mono fun r w' q => bel q
   ·have ho0 : (dr x.g st.snd).length = 0 := by omega
    have hq : rdyBut st false x.g = false := by unfold rdyBut room Pi.own; simp only [Bool.false_eq_true, if_false, Bool.not_false, if_true, hcl, hrm, ho0, Bool.false_or]; rfl
    rw [show waitE st false x = ae st.rcv x by simp [waitE, hq, Pi.own], show waitS st false x = { st with rcv := al st.rcv x } by simp [waitS, hq]]
    cases hx : okb x
    ·rw [show ae st.rcv x = 1 by simp [ae, hx], show al st.rcv x = st.rcv by simp [al, hx]]
     exact (rwait_false_arg G F st x w h hcl hrm ho0 hx).mono fun r w' q => bel q
    ·by_cases hl : st.rcv.length = 1024
     ·rw [show ae st.rcv x = 5 by simp [ae, hx, hl], show al st.rcv x = st.rcv by simp [al, hx, hl]]
      exact (rwait_false_full G F st x w h hcl hrm ho0 hx hl).mono fun r w' q => bel q
     ·rw [show ae st.rcv x = 0 by simp [ae, hx, hl], show al st.rcv x = st.rcv ++ [x] by simp [al, hx, hl]]
      exact rwait_false_ok G F st x w h hcl hrm ho0 hx (by obtain ⟨_, _, _, h'⟩ := h; have := h'.leq; omega)
  ·have hq : rdyBut st false x.g = true := by unfold rdyBut room; simp only [Bool.false_eq_true, if_false, hc, Bool.true_or]
   rw [show waitE st false x = 7 by simp [waitE, hq], show waitS st false x = st by simp [waitS, hq]]
   exact (rwait_false_ready G F st x w h hc).mono fun r w' q => bel q
 ·cases hc : (st.closed || decide (st.buf.length < st.size))
  ·have hcl : st.closed = false := by
    cases e : st.closed
    ·rfl
    ·rw [e] at hc; simp at hc
   have hrm : decide (st.buf.length < st.size) = false := by rw [hcl] at hc; simpa using hc
   by_cases ho : 0 < (dr x.g st.rcv).length
   ·have hq : rdyBut st true x.g = true := by simp [rdyBut, room, Pi.own, hcl, hrm, ho]
    rw [show waitE st true x = 7 by simp [waitE, hq], show waitS st true x = st by simp [waitS, hq]]
    exact (rwait_true_others G F st x w h hcl hrm ho).mono fun r w' q => bel q
   ·have ho0 : (dr x.g st.rcv).length = 0 := by omega
    have hq : rdyBut st true x.g = false := by unfold rdyBut room Pi.own; simp only [if_true, Bool.not_true, Bool.false_eq_true, if_false, hcl, hrm, ho0, Bool.false_or]; rfl
    rw [show waitE st true x = ae st.snd x by simp [waitE, hq, Pi.own], show waitS st true x = { st with snd := al st.snd x } by simp [waitS, hq]]
    cases hx : okb x
    ·rw [show ae st.snd x = 1 by simp [ae, hx], show al st.snd x = st.snd by simp [al, hx]]
     exact (rwait_true_arg G F st x w h hcl hrm ho0 hx).mono fun r w' q => bel q
    ·by_cases hl : st.snd.length = 1024
     ·rw [show ae st.snd x = 5 by simp [ae, hx, hl], show al st.snd x = st.snd by simp [al, hx, hl]]
      exact (rwait_true_full G F st x w h hcl hrm ho0 hx hl).mono fun r w' q => bel q
     ·rw [show ae st.snd x = 0 by simp [ae, hx, hl], show al st.snd x = st.snd ++ [x] by simp [al, hx, hl]]
      exact rwait_true_ok G F st x w h hcl hrm ho0 hx (by obtain ⟨_, _, _, h'⟩ := h; have := h'.les; omega)
  ·have hq : rdyBut st true x.g = true := by unfold rdyBut room; simp only [if_true, hc, Bool.true_or]
   rw [show waitE st true x = 7 by simp [waitE, hq], show waitS st true x = st by simp [waitS, hq]]
   exact (rwait_true_ready G F st x w h hc).mono fun r w' q => bel q
end Rp
end Go.Proofs.YtblfimobiibmjabGreat
namespace Go.Proofs.YtblfimobiibmjabGreat
open Go.ChangeShapes Go.WideShapes Go.ChangeAt Go.RowKit
namespace Rp
open Ba Pe _root_.Go.Proofs.YtblfimobiibmjabGreat.Pi
theorem rrecv_any (G : Nat) (F : Nat → Prop) (st : St) (w : World) (h : Rr w G F st) (hs : st.sent < 1000000000) (hg : st.got < 1000000000) :
 Calls Tryz.prog 110 #[.pointer (some ⟨G, 0, none⟩)] w fun r w' => r = .returned (gv (recvG st)) ∧ KF F w w' ∧ ∃ F', Nw F' F w ∧ Rr w' G F' (recvS st) := by
 cases hb : st.buf with
 | nil =>
   cases hr : st.snd with
   | nil =>
     rw [show recvG st = ⟨st.closed, false, false, 0, ⟨0, 0, 0⟩⟩ by simp [recvG, hb, hr], show recvS st = st by simp [recvS, hb, hr]]
     exact rrecv_none G F st w h hb hr
   | cons y t =>
     rw [show recvG st = ⟨true, true, true, y.v, y⟩ by simp [recvG, hb, hr], show recvS st = { st with snd := t, sent := st.sent + 1, got := st.got + 1 } by simp [recvS, hb, hr]]
     exact rrecv_snd G F st y t w h hb hr hs hg
 | cons x b =>
   cases hr : st.snd with
   | nil =>
     rw [show recvG st = ⟨true, true, false, x, ⟨0, 0, 0⟩⟩ by simp [recvG, hb, hr], show recvS st = { st with buf := b, got := st.got + 1 } by simp [recvS, hb, hr]]
     exact rrecv_buf G F st x b w h hb hr hg
   | cons y t =>
     rw [show recvG st = ⟨true, true, true, x, y⟩ by simp [recvG, hb, hr], show recvS st = { st with buf := b ++ [y.v], snd := t, sent := st.sent + 1, got := st.got + 1 } by simp [recvS, hb, hr]]
     exact rrecv_both G F st x b y t w h hb hr hs hg
end Rp
end Go.Proofs.YtblfimobiibmjabGreat
namespace Go.Proofs.YtblfimobiibmjabGreat
open Go.ChangeShapes Go.WideShapes Go.ChangeAt Go.RowKit
namespace Pi
open Ba Pe
end Pi
end Go.Proofs.YtblfimobiibmjabGreat
namespace Go.Proofs.YtblfimobiibmjabGreat
open Go.ChangeShapes Go.WideShapes Go.ChangeAt Go.RowKit
namespace Pi
open Ba Pe
end Pi
end Go.Proofs.YtblfimobiibmjabGreat
namespace Go.Proofs.YtblfimobiibmjabGreat
open Go.ChangeShapes Go.WideShapes Go.ChangeAt Go.RowKit
namespace Fk
open Ba Pe _root_.Go.Proofs.YtblfimobiibmjabGreat.Pi Rp
def PR (w : World) (oa : Option Addr) (bs : List (Option Nat)) : Prop := ∀ (i : Nat) (o : Option Nat), bs[i]? = some o → ∃ b off, oa = some ⟨b, off, none⟩ ∧ w.cell? ⟨b, off + i, none⟩ = some (pt o)
theorem PR.keep {w w' : World} {oa : Option Addr} {bs : List (Option Nat)} (h : PR w oa bs) (hk : ∀ a, oa = some a → a.block < w.heap.size → w'.heap[a.block]? = w.heap[a.block]?) : PR w' oa bs := by
 intro i o hi
 obtain ⟨b, off, e, hc⟩ := h i o hi
 refine ⟨b, off, e, ?_⟩
 have := hk _ e (World.block_lt_of_cell? w ⟨b, off + i, none⟩ hc)
 rw [← hc]
 simp only at this
 simp only [World.cell?, this]
theorem PR.below {w w' : World} {oa : Option Addr} {bs : List (Option Nat)} (h : PR w oa bs) (hb : Below w.heap.size w w') : PR w' oa bs := h.keep fun _ _ hl => hb.block _ hl
structure Fr (Q : World → Nat → (Nat → Prop) → St → Prop) : Prop where
 sm : ∀ {w w' : World} {B : Nat} {F : Nat → Prop} {st : St}, Q w B F st → Sm F w w' → Q w' B F st
 bd : ∀ {w : World} {B : Nat} {F : Nat → Prop} {st : St}, Q w B F st → Bd F w
theorem frR : Fr Rr := ⟨fun h s => h.sm s, fun h => h.bd⟩
structure Qs (Q : World → Nat → (Nat → Prop) → St → Prop) (w : World) (oa : Option Addr) (bs : List (Option Nat)) (Fs : Nat → Nat → Prop) (sts : List (Option St)) : Prop where
 row : PR w oa bs
 len : bs.length = sts.length
 one : ∀ (i B : Nat), bs[i]? = some (some B) → ∃ st, sts[i]? = some (some st) ∧ Q w B (Fs i) st
 non : ∀ (i : Nat), bs[i]? = some none → sts[i]? = some none
 ap : ∀ i j, i ≠ j → ∀ x, Fs i x → ¬ Fs j x
 nr : ∀ a, oa = some a → ∀ i, ¬ Fs i a.block
 bd : ∀ i, Bd (Fs i) w
theorem Qs.keep {Q : World → Nat → (Nat → Prop) → St → Prop} (fr : Fr Q) {w w' : World} {oa : Option Addr} {bs : List (Option Nat)} {Fs : Nat → Nat → Prop} {sts : List (Option St)} (h : Qs Q w oa bs Fs sts) (hs : ∀ i, Sm (Fs i) w w') (hr : ∀ a, oa = some a → a.block < w.heap.size → w'.heap[a.block]? = w.heap[a.block]?) : Qs Q w' oa bs Fs sts :=
 ⟨h.row.keep hr, h.len, fun i B hi => by
   obtain ⟨st, e, q⟩ := h.one i B hi
   exact ⟨st, e, fr.sm q (hs i)⟩, h.non, h.ap, h.nr, fun i => (h.bd i).sm (hs i)⟩
theorem Qs.below {Q : World → Nat → (Nat → Prop) → St → Prop} (fr : Fr Q) {w w' : World} {oa : Option Addr} {bs : List (Option Nat)} {Fs : Nat → Nat → Prop} {sts : List (Option St)} (h : Qs Q w oa bs Fs sts) (hb : Below w.heap.size w w') : Qs Q w' oa bs Fs sts :=
 h.keep fr (fun i => Sm.below hb (h.bd i)) (fun _ _ hl => hb.block _ hl)
def up (Fs : Nat → Nat → Prop) (i : Nat) (F : Nat → Prop) : Nat → Nat → Prop := fun j => if j = i then F else Fs j
theorem up_same (Fs : Nat → Nat → Prop) (i : Nat) (F : Nat → Prop) : up Fs i F i = F := by simp [up]
theorem up_other (Fs : Nat → Nat → Prop) (i j : Nat) (F : Nat → Prop) (h : j ≠ i) : up Fs i F j = Fs j := by simp [up, h]
theorem Qs.step {Q : World → Nat → (Nat → Prop) → St → Prop} (fr : Fr Q) {w w' : World} {oa : Option Addr} {bs : List (Option Nat)} {Fs : Nat → Nat → Prop} {sts : List (Option St)} (h : Qs Q w oa bs Fs sts) {i B : Nat} {F' : Nat → Prop} {st' : St} (hi : bs[i]? = some (some B)) (k : KF (Fs i) w w') (n : Nw F' (Fs i) w) (q : Q w' B F' st') (hrl : ∀ a, oa = some a → a.block < w.heap.size) : Qs Q w' oa bs (up Fs i F') (sts.set i (some st')) := by
 have hil : i < bs.length := (List.getElem?_eq_some_iff.1 hi).1
 refine ⟨h.row.keep fun a e hl => k.block _ hl (h.nr a e i), by rw [List.length_set]; exact h.len, fun j C hj => ?_, fun j hj => ?_, fun j l hjl x hx => ?_, fun a e j hf => ?_, fun j => ?_⟩
 ·by_cases e : j = i
  ·subst e
   rw [hi] at hj
   cases hj
   exact ⟨st', by rw [List.getElem?_set]; simp; rw [← h.len]; exact hil, by rw [up_same]; exact q⟩
  ·obtain ⟨st, e1, q1⟩ := h.one j C hj
   exact ⟨st, by rw [List.getElem?_set_ne (Ne.symm e)]; exact e1, by rw [up_other _ _ _ _ e]; exact fr.sm q1 (Sm.kf k (h.bd j) (h.ap j i e))⟩
 ·by_cases e : j = i
  ·subst e
   rw [hi] at hj
   cases hj
  ·rw [List.getElem?_set_ne (Ne.symm e)]
   exact h.non j hj
 ·by_cases e1 : j = i
  ·subst e1
   rw [up_same] at hx
   rw [up_other _ _ _ _ (Ne.symm hjl)]
   intro hl
   rcases n x hx with z | z
   ·exact h.ap j l hjl x z hl
   ·have := h.bd l x hl
    omega
  ·rw [up_other _ _ _ _ e1] at hx
   by_cases e2 : l = i
   ·subst e2
    rw [up_same]
    exact n.apart (h.bd j) (h.ap j l e1) x hx
   ·rw [up_other _ _ _ _ e2]
    exact h.ap j l hjl x hx
 ·by_cases e1 : j = i
  ·subst e1
   rw [up_same] at hf
   rcases n _ hf with z | z
   ·exact h.nr a e j z
   ·have := hrl a e
    omega
  ·rw [up_other _ _ _ _ e1] at hf
   exact h.nr a e j hf
 ·by_cases e1 : j = i
  ·subst e1
   rw [up_same]
   exact fr.bd q
  ·rw [up_other _ _ _ _ e1]
   exact (h.bd j).mono k.size
def nmB {α : Type} (bs : List (Option α)) (c : Int) : Option α := if c < 0 ∨ (bs.length : Int) ≤ c then none else (bs[c.toNat]?).join
theorem Qs.nm {Q : World → Nat → (Nat → Prop) → St → Prop} {w : World} {oa : Option Addr} {bs : List (Option Nat)} {Fs : Nat → Nat → Prop} {sts : List (Option St)} (h : Qs Q w oa bs Fs sts) (c : Int) : (nmB bs c = none ∧ nmB sts c = none) ∨ ∃ B st, nmB bs c = some B ∧ nmB sts c = some st ∧ 0 ≤ c ∧ c.toNat < bs.length ∧ bs[c.toNat]? = some (some B) ∧ sts[c.toNat]? = some (some st) ∧ Q w B (Fs c.toNat) st := by
 unfold nmB
 rw [← h.len]
 by_cases e : c < 0 ∨ (bs.length : Int) ≤ c
 ·exact .inl ⟨by rw [if_pos e], by rw [if_pos e]⟩
 ·rw [if_neg e, if_neg e]
  have hl : c.toNat < bs.length := by omega
  cases hb : bs[c.toNat]? with
  | none => rw [List.getElem?_eq_none_iff] at hb; omega
  | some o =>
    cases o with
    | none => exact .inl ⟨rfl, by rw [h.non _ hb]; rfl⟩
    | some B =>
      obtain ⟨st, e1, q⟩ := h.one _ _ hb
      exact .inr ⟨B, st, rfl, by rw [e1]; rfl, by omega, hl, rfl, e1, q⟩
structure Ca where
 sd : Bool
 ch : Int
 v : Int
def cv (c : Ca) : Value := .agg #[.bool c.sd, .int .i64 c.ch, .int .i64 c.v]
def CaAt (w : World) (oa : Option Addr) (l : List Ca) : Prop :=
 ∀ k x, l[k]? = some x → ∃ b off, oa = some ⟨b, off, none⟩ ∧ w.cell? ⟨b, off + k * 3, none⟩ = some (.bool x.sd) ∧ w.cell? ⟨b, off + k * 3 + 1, none⟩ = some (.int .i64 x.ch) ∧ w.cell? ⟨b, off + k * 3 + 2, none⟩ = some (.int .i64 x.v)
theorem CaAt.below {w w' : World} {oa : Option Addr} {l : List Ca} (h : CaAt w oa l) (hb : Below w.heap.size w w') : CaAt w' oa l := by
 intro k x hk
 obtain ⟨b, off, e, h0, h1, h2⟩ := h k x hk
 exact ⟨b, off, e, (hb.cell (World.block_lt_of_cell? w _ h0)).trans h0, (hb.cell (World.block_lt_of_cell? w _ h1)).trans h1, (hb.cell (World.block_lt_of_cell? w _ h2)).trans h2⟩
theorem rnamed_any (oa : Option Addr) (bs : List (Option Nat)) (c : Int) (cp : Nat) (w : World) (h : PR w oa bs) :
 Calls Tryz.prog 59 #[.slice oa bs.length cp, .int .i64 c] w fun r w' => r = .returned (pt (nmB bs c)) ∧ w' = w := by
 unfold nmB
 by_cases h1 : c < 0
 ·have d1 : decide (c < 0) = true := decide_eq_true h1
  rw [if_pos (.inl h1)]
  clear h
  go_enter Tryz.func59, Tryz.ntmps59
  go_wp2_with fail
  go_ret
  exact ⟨rfl, rfl⟩
 ·have d1 : decide (c < 0) = false := decide_eq_false h1
  obtain ⟨n, rfl⟩ := Int.eq_ofNat_of_zero_le (show 0 ≤ c by omega)
  by_cases h2 : bs.length ≤ n
  ·have d2 : decide ((bs.length : Int) ≤ (n : Int)) = true := decide_eq_true (by omega)
   rw [if_pos (.inr (by omega))]
   clear h
   go_enter Tryz.func59, Tryz.ntmps59
   go_wp2_with fail
   go_ret
   exact ⟨rfl, rfl⟩
  ·have d2 : decide ((bs.length : Int) ≤ (n : Int)) = false := decide_eq_false (by omega)
   have hlt : (n : Int) < (bs.length : Int) := by omega
   rw [if_neg (by omega), Int.toNat_natCast]
   obtain ⟨o, ho⟩ : ∃ o, bs[n]? = some o := ⟨_, List.getElem?_eq_getElem (by omega)⟩
   obtain ⟨b, off, rfl, hc⟩ := h n o ho
   rw [ho, show (some o).join = o by cases o <;> rfl]
   unfold pt at hc ⊢
   generalize o.map (fun b => (⟨b, 0, none⟩ : Addr)) = q at hc ⊢
   clear h ho
   go_enter Tryz.func59, Tryz.ntmps59
   go_wp2_with fail
   go_ret
   exact ⟨rfl, rfl⟩
end Fk
end Go.Proofs.YtblfimobiibmjabGreat
namespace Go.Proofs.YtblfimobiibmjabGreat
open Go.ChangeShapes Go.WideShapes Go.ChangeAt Go.RowKit
namespace Fk
open Ba Pe _root_.Go.Proofs.YtblfimobiibmjabGreat.Pi Rp
def ps (P : Nat → Bool) (n : Nat) : List Int := ((List.range n).filter P).map fun (i : Nat) => (i : Int)
theorem ps_succ (P : Nat → Bool) (n : Nat) : ps P (n + 1) = if P n = true then ps P n ++ [(n : Int)] else ps P n := by
 unfold ps
 rw [List.range_succ, List.filter_append]
 cases h : P n <;> simp [h]
theorem ps_len (P : Nat → Bool) (n : Nat) : (ps P n).length ≤ n := by
 unfold ps
 rw [List.length_map]
 have := List.length_filter_le P (List.range n)
 rw [List.length_range] at this
 exact this
def crdy (sts : List (Option St)) (c : Ca) : Bool := match nmB sts c.ch with | none => false | some st => rdy st c.sd
def rdyL (l : List Ca) (sts : List (Option St)) : List Int := ps (fun i => match l[i]? with | none => false | some c => crdy sts c) l.length
end Fk
end Go.Proofs.YtblfimobiibmjabGreat
namespace Go.Proofs.YtblfimobiibmjabGreat
open Go.ChangeShapes Go.WideShapes Go.ChangeAt Go.RowKit
namespace Fk
open Ba Pe _root_.Go.Proofs.YtblfimobiibmjabGreat.Pi Rp
end Fk
end Go.Proofs.YtblfimobiibmjabGreat
