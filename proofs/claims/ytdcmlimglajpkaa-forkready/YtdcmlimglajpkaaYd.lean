/- The reference's channel: Recv where no value is in the buffer, over this seat's program. -/
import Derived.Test.YtdcmlimglajpkaaYc
import Derived.Test.YtdcmlimglajpkaaXg
namespace Go.Proofs.Ytdcmlimglajpkaa
open Go.ChangeShapes Go.WideShapes Go.ChangeAt Go.RowKit
namespace Rp
open Ba Pe _root_.Go.Proofs.Ytdcmlimglajpkaa.Pi

theorem size_set (w : World) (a : Addr) (v : Value) : (w.setCell a v).heap.size = w.heap.size := by simp [World.setCell]
theorem own_wat {w : World} {base : Nat} {oa : Option Addr} {n c : Nat} {l : List Wt} (h : w.ownsRow base 62 3 (.slice oa n c) l.length (wc l)) : WAt w oa l := by
  obtain ⟨ob, d, e, hA, _⟩ := owns_wat h
  cases e
  exact hA
set_option maxRecDepth 100000 in
set_option maxHeartbeats 3200000 in
theorem rrecv_none (G : Nat) (F : Nat → Prop) (st : St) (w : World) (h : Rr w G F st) (hb : st.buf = []) (hr : st.snd = []) :
    Calls Try.prog 48 #[.pointer (some ⟨G, 0, none⟩)] w fun r w' => r = .returned (gv ⟨st.closed, false, false, 0, ⟨0, 0, 0⟩⟩) ∧ KF F w w' ∧ ∃ F', Nw F' F w ∧ Rr w' G F' st := by
  have hG := h.lt
  obtain ⟨vL, vS, vQ, h⟩ := h
  obtain ⟨ol, cl, os, cs, oq, cq, ⟨rfl, _, _⟩, ⟨rfl, _, _⟩, rfl, _, _⟩ := h.read
  have y2 : w.cell? ⟨G, 2, none⟩ = some (.slice os 0 cs) := (cell_of h.hp 2).trans (by rw [hr]; rfl)
  have y1 : w.cell? ⟨G, 1, none⟩ = some (.slice ol 0 cl) := (cell_of h.hp 1).trans (by rw [hb]; rfl)
  have y4 : w.cell? ⟨G, 4, none⟩ = some (.bool st.closed) := cell_of h.hp 4
  have H := hide h
  clear h hb hr
  unfold gv
  cases hc : st.closed
  · rw [hc] at y4
    go_enter Try.func48, Try.ntmps48
    go_wp2_with fail
    exact bodyPost_ret (results_row1 Try.results48 _ _ _ _ rfl (loadVar_rgot (heap_below (heap_new _ _) (below_alloc _ _)) rfl)) rfl ⟨rfl, KF.of (btr (below_alloc _ _) (below_alloc _ _)), F, Nw.refl _ _, (H.out.below (btr (below_alloc _ _) (below_alloc _ _))).rr⟩
  · rw [hc] at y4
    go_enter Try.func48, Try.ntmps48
    go_wp2_with fail
    exact bodyPost_ret (results_row1 Try.results48 _ _ _ _ rfl (loadVar_rgot (heap_below (heap_new _ _) (below_alloc _ _)) rfl)) rfl ⟨rfl, KF.of (btr (below_alloc _ _) (below_alloc _ _)), F, Nw.refl _ _, (H.out.below (btr (below_alloc _ _) (below_alloc _ _))).rr⟩
set_option maxRecDepth 100000 in
set_option maxHeartbeats 3200000 in
theorem rrecv_snd (G : Nat) (F : Nat → Prop) (st : St) (y : Wt) (t : List Wt) (w : World) (h : Rr w G F st) (hb : st.buf = []) (hr : st.snd = y :: t) (hs : st.sent < 1000000000) (hg : st.got < 1000000000) :
    Calls Try.prog 48 #[.pointer (some ⟨G, 0, none⟩)] w fun r w' => r = .returned (gv ⟨true, true, true, y.v, y⟩) ∧ KF F w w' ∧ ∃ F', Nw F' F w ∧ Rr w' G F' { st with snd := t, sent := st.sent + 1, got := st.got + 1 } := by
  have hG := h.lt
  have NF : Hid (¬ F w.heap.size) := fun e => Nat.lt_irrefl _ (h.bd _ e)
  obtain ⟨vL, vS, vQ, h⟩ := h
  have FG := hide h.fg
  have BDF := hide h.bd
  obtain ⟨ol, cl, os, cs, oq, cq, ⟨rfl, _, _⟩, ⟨rfl, hAS, hcs⟩, rfl, _, _⟩ := h.read
  have b1 := below_alloc (w.setCell ⟨G, 6, none⟩ (.int .i64 ((st.got : Int) + 1))) (.cells #[.bool false, .bool false, .bool false, .int .i64 0, .int .i64 0, .int .i64 0, .int .i64 0] 64)
  have b2 := below_alloc ((w.setCell ⟨G, 6, none⟩ (.int .i64 ((st.got : Int) + 1))).alloc (.cells #[.bool false, .bool false, .bool false, .int .i64 0, .int .i64 0, .int .i64 0, .int .i64 0] 64)) (.cells #[.bool true, .bool true, .bool true, .int .i64 y.v, .int .i64 y.g, .int .i64 y.c, .int .i64 y.v] 64)
  have hM1 : w.heap.size + 1 ≠ G := by omega
  have hM3 : G ≠ w.heap.size := by omega
  have sz0 : (w.setCell ⟨G, 6, none⟩ (.int .i64 ((st.got : Int) + 1))).heap.size = w.heap.size := size_set _ _ _
  have P3 := hide ((h.setGot (st.got + 1) ((st.got : Int) + 1) (by omega)).below (btr b1 b2))
  have K3 := hide (((KF.refl F w).set FG.out 6 (.int .i64 ((st.got : Int) + 1))).then (btr b1 b2))
  have hz := heap_below (heap_new (w.setCell ⟨G, 6, none⟩ (.int .i64 ((st.got : Int) + 1))) (.cells #[.bool false, .bool false, .bool false, .int .i64 0, .int .i64 0, .int .i64 0, .int .i64 0] 64)) b2
  rw [sz0] at hz
  have Z3 := hide hz
  have hm := heap_new ((w.setCell ⟨G, 6, none⟩ (.int .i64 ((st.got : Int) + 1))).alloc (.cells #[.bool false, .bool false, .bool false, .int .i64 0, .int .i64 0, .int .i64 0, .int .i64 0] 64)) (.cells #[.bool true, .bool true, .bool true, .int .i64 y.v, .int .i64 y.g, .int .i64 y.c, .int .i64 y.v] 64)
  rw [World.size_alloc, sz0] at hm
  have M3 := hide hm
  have hle := h.les
  have A3 := hide (own_wat P3.out.rs)
  simp only at A3
  rw [hr] at hAS hcs hle A3
  rw [List.length_cons] at hcs hle
  have y2 : w.cell? ⟨G, 2, none⟩ = some (.slice os (t.length + 1) cs) := (cell_of h.hp 2).trans (by rw [hr]; rfl)
  have y2' : (((w.setCell ⟨G, 6, none⟩ (.int .i64 ((st.got : Int) + 1))).alloc (.cells #[.bool false, .bool false, .bool false, .int .i64 0, .int .i64 0, .int .i64 0, .int .i64 0] 64)).alloc (.cells #[.bool true, .bool true, .bool true, .int .i64 y.v, .int .i64 y.g, .int .i64 y.c, .int .i64 y.v] 64)).cell? ⟨G, 2, none⟩ = some (.slice os (t.length + 1) cs) := (cell_of P3.out.hp 2).trans (by rw [hr]; rfl)
  have y1 : w.cell? ⟨G, 1, none⟩ = some (.slice ol 0 cl) := (cell_of h.hp 1).trans (by rw [hb]; rfl)
  have y6 : w.cell? ⟨G, 6, none⟩ = some (.int .i64 (st.got : Int)) := cell_of h.hp 6
  have f6 := frozen_of h.hp 6
  obtain ⟨b, off, rfl, q0, q1, q2⟩ := hAS 0 y rfl
  rw [Nat.zero_mul, Nat.add_zero] at q0 q1 q2
  have hbl := World.block_lt_of_cell? w _ q0
  simp only at hbl
  have BE := hide (rbehind_any _ y t cs _ A3.out hcs (by omega))
  have hpos : decide (0 < ((t.length : Int) + 1)) = true := decide_eq_true (by omega)
  have hS3 : (((w.setCell ⟨G, 6, none⟩ (.int .i64 ((st.got : Int) + 1))).alloc (.cells #[.bool false, .bool false, .bool false, .int .i64 0, .int .i64 0, .int .i64 0, .int .i64 0] 64)).alloc (.cells #[.bool true, .bool true, .bool true, .int .i64 y.v, .int .i64 y.g, .int .i64 y.c, .int .i64 y.v] 64)).heap.size = w.heap.size + 2 := by
    rw [World.size_alloc, World.size_alloc, sz0]
  clear h hb hr hAS b1 b2 hm hz A3
  unfold gv
  go_enter Try.func48, Try.ntmps48
  go_wp2_with fail
  generalize (((w.setCell ⟨G, 6, none⟩ (.int .i64 ((st.got : Int) + 1))).alloc (.cells #[.bool false, .bool false, .bool false, .int .i64 0, .int .i64 0, .int .i64 0, .int .i64 0] 64)).alloc (.cells #[.bool true, .bool true, .bool true, .int .i64 y.v, .int .i64 y.g, .int .i64 y.c, .int .i64 y.v] 64)) = W3 at P3 K3 Z3 M3 BE hS3 y2' ⊢
  refine BE.out.mono ?_
  rintro r w4 ⟨ob, d, rfl, o4, b4⟩
  have P4 := hide (P3.out.below b4)
  have Z4 := hide (heap_below Z3.out b4)
  have M4 := hide (heap_below M3.out b4)
  have K4 := hide (K3.out.then b4)
  have O4 := hide o4
  clear o4 b4 BE K3 Z3 M3 P3 y1 y2 y2' y6 f6 q0 q1 q2
  have m0 : w4.cell? ⟨w.heap.size + 1, 0, none⟩ = some (.bool true) := cell_of M4.out 0
  have m1 : w4.cell? ⟨w.heap.size + 1, 1, none⟩ = some (.bool true) := cell_of M4.out 1
  have m2 : w4.cell? ⟨w.heap.size + 1, 2, none⟩ = some (.bool true) := cell_of M4.out 2
  have m3 : w4.cell? ⟨w.heap.size + 1, 3, none⟩ = some (.int .i64 y.v) := cell_of M4.out 3
  have m4 : w4.cell? ⟨w.heap.size + 1, 4, none⟩ = some (.int .i64 y.g) := cell_of M4.out 4
  have m5 : w4.cell? ⟨w.heap.size + 1, 5, none⟩ = some (.int .i64 y.c) := cell_of M4.out 5
  have m6 : w4.cell? ⟨w.heap.size + 1, 6, none⟩ = some (.int .i64 y.v) := cell_of M4.out 6
  have g2 : w4.cell? ⟨G, 2, none⟩ = some (.slice (some ⟨b, off, none⟩) st.snd.length cs) := cell_of P4.out.hp 2
  have g5 : w4.cell? ⟨G, 5, none⟩ = some (.int .i64 (st.sent : Int)) := cell_of P4.out.hp 5
  have gf2 := frozen_of P4.out.hp 2
  have gf5 := frozen_of P4.out.hp 5
  have z0 : w4.cell? ⟨w.heap.size, 0, none⟩ = some (.bool false) := cell_of Z4.out 0
  have zf0 := frozen_of Z4.out 0
  have z1 : w4.cell? ⟨w.heap.size, 1, none⟩ = some (.bool false) := cell_of Z4.out 1
  have zf1 := frozen_of Z4.out 1
  have z2 : w4.cell? ⟨w.heap.size, 2, none⟩ = some (.bool false) := cell_of Z4.out 2
  have zf2 := frozen_of Z4.out 2
  have z3 : w4.cell? ⟨w.heap.size, 3, none⟩ = some (.int .i64 0) := cell_of Z4.out 3
  have zf3 := frozen_of Z4.out 3
  have z4 : w4.cell? ⟨w.heap.size, 4, none⟩ = some (.int .i64 0) := cell_of Z4.out 4
  have zf4 := frozen_of Z4.out 4
  have z5 : w4.cell? ⟨w.heap.size, 5, none⟩ = some (.int .i64 0) := cell_of Z4.out 5
  have zf5 := frozen_of Z4.out 5
  have z6 : w4.cell? ⟨w.heap.size, 6, none⟩ = some (.int .i64 0) := cell_of Z4.out 6
  have zf6 := frozen_of Z4.out 6
  go_wp2_with fail
  have R1 := (P4.out.newS O4.out (fun k hk => by have := BDF.out k hk; omega) (by omega)).setSent (st.sent + 1) ((st.sent : Int) + 1) (by omega)
  have NN : Nw (Fw F (.slice ob t.length d)) F w := Fw.nw O4.out (by omega)
  have NZ : ¬ Fw F (.slice ob t.length d) w.heap.size := by
    rintro (q | q)
    · exact NF.out q
    · have := (own_blk O4.out _ q).1
      omega
  exact bodyPost_ret (results_row1 Try.results48 _ _ _ _ rfl (loadVar_rgot (got_set ((Below.heap_setCell _ _ _ _ (Ne.symm hM3)).trans ((Below.heap_setCell _ _ _ _ (Ne.symm hM3)).trans Z4.out)) _ _ _ _ _ _ _) rfl)) rfl ⟨rfl, rfin7 ((K4.out.set FG.out 2 _).set FG.out 5 _) NN R1.rr (Nat.le_refl _) NZ _ _ _ _ _ _ _⟩
end Rp
end Go.Proofs.Ytdcmlimglajpkaa
