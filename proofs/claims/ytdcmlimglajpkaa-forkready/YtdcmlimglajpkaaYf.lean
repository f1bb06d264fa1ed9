/- The reference's channel: Recv where a value is in the buffer and a sender waits, over this seat's program. -/
import Derived.Test.YtdcmlimglajpkaaYe
namespace Go.Proofs.Ytdcmlimglajpkaa
open Go.ChangeShapes Go.WideShapes Go.ChangeAt Go.RowKit
namespace Rp
open Ba Pe _root_.Go.Proofs.Ytdcmlimglajpkaa.Pi

set_option maxRecDepth 100000 in
set_option maxHeartbeats 6400000 in
theorem rrecv_both (G : Nat) (F : Nat → Prop) (st : St) (x : Int) (b : List Int) (y : Wt) (t : List Wt) (w : World) (h : Rr w G F st) (hb : st.buf = x :: b) (hr : st.snd = y :: t) (hs : st.sent < 1000000000) (hg : st.got < 1000000000) :
    Calls Try.prog 48 #[.pointer (some ⟨G, 0, none⟩)] w fun r w' => r = .returned (gv ⟨true, true, true, x, y⟩) ∧ KF F w w' ∧ ∃ F', Nw F' F w ∧ Rr w' G F' { st with buf := b ++ [y.v], snd := t, sent := st.sent + 1, got := st.got + 1 } := by
  have hG := h.lt
  have NF : Hid (¬ F w.heap.size) := fun e => Nat.lt_irrefl _ (h.bd _ e)
  obtain ⟨vL, vS, vQ, h⟩ := h
  have FG := hide h.fg
  have BDF := hide h.bd
  obtain ⟨ol, cl, os, cs, oq, cq, ⟨rfl, hAL, hcl⟩, ⟨rfl, hAS, hcs⟩, rfl, _, _⟩ := h.read
  have hbl := h.bl
  have hsz := h.sz
  have b1 := below_alloc w (.cells #[.bool false, .bool false, .bool false, .int .i64 0, .int .i64 0, .int .i64 0, .int .i64 0] 64)
  have b2 := below_alloc (w.alloc (.cells #[.bool false, .bool false, .bool false, .int .i64 0, .int .i64 0, .int .i64 0, .int .i64 0] 64)) (.cells #[.bool true, .bool true, .bool true, .int .i64 x, .int .i64 y.g, .int .i64 y.c, .int .i64 y.v] 64)
  have P2 := hide (h.below (btr b1 b2))
  have BB := hide (btr b1 b2)
  have Z2 := hide (heap_below (heap_new w (.cells #[.bool false, .bool false, .bool false, .int .i64 0, .int .i64 0, .int .i64 0, .int .i64 0] 64)) b2)
  have hm := heap_new (w.alloc (.cells #[.bool false, .bool false, .bool false, .int .i64 0, .int .i64 0, .int .i64 0, .int .i64 0] 64)) (.cells #[.bool true, .bool true, .bool true, .int .i64 x, .int .i64 y.g, .int .i64 y.c, .int .i64 y.v] 64)
  rw [World.size_alloc] at hm
  have M2 := hide hm
  have hS2 : ((w.alloc (.cells #[.bool false, .bool false, .bool false, .int .i64 0, .int .i64 0, .int .i64 0, .int .i64 0] 64)).alloc (.cells #[.bool true, .bool true, .bool true, .int .i64 x, .int .i64 y.g, .int .i64 y.c, .int .i64 y.v] 64)).heap.size = w.heap.size + 2 := by rw [World.size_alloc, World.size_alloc]
  have hM1 : w.heap.size + 1 ≠ G := by omega
  have hM3 : G ≠ w.heap.size := by omega
  rw [hb] at hAL hcl hbl
  rw [List.length_cons] at hcl hbl
  obtain ⟨bb, off, rfl, hx⟩ := hAL.head
  have hbb := World.block_lt_of_cell? w _ hx
  simp only at hbb
  have y1 : w.cell? ⟨G, 1, none⟩ = some (.slice (some ⟨bb, off, none⟩) (b.length + 1) cl) := (cell_of h.hp 1).trans (by rw [hb]; rfl)
  have hposL : decide (0 < ((b.length : Int) + 1)) = true := decide_eq_true (by omega)
  have hle := h.les
  rw [hr] at hAS hcs hle
  rw [List.length_cons] at hcs hle
  have y2 : w.cell? ⟨G, 2, none⟩ = some (.slice os (t.length + 1) cs) := (cell_of h.hp 2).trans (by rw [hr]; rfl)
  obtain ⟨b', off2, rfl, q0, q1, q2⟩ := hAS 0 y rfl
  rw [Nat.zero_mul, Nat.add_zero] at q0 q1 q2
  have hbl2 := World.block_lt_of_cell? w _ q0
  simp only at hbl2
  have hpos : decide (0 < ((t.length : Int) + 1)) = true := decide_eq_true (by omega)
  have HSR := hide hr
  cases hi : Try.prog.info? 3 with
  | none => have := info_i; rw [hi] at this; cases this
  | some i0 =>
  have hx2 := info_i
  rw [hi] at hx2
  simp at hx2
  have INF := hide (And.intro hi hx2)
  clear hx2 hi
  have TR := hide fun o ho => tail_run (w := ((w.alloc (.cells #[.bool false, .bool false, .bool false, .int .i64 0, .int .i64 0, .int .i64 0, .int .i64 0] 64)).alloc (.cells #[.bool true, .bool true, .bool true, .int .i64 x, .int .i64 y.g, .int .i64 y.c, .int .i64 y.v] 64))) (c := cl) (hAL.below (btr b1 b2)) (by omega) o ho
  clear h hb hr hAL hAS b1 b2 hm
  unfold gv
  have main : ∀ (ob : Option Addr) (d : Nat) (W3 : World), W3.ownsRow (w.heap.size + 2) 3 1 (.slice ob b.length d) b.length (ic b) → Below (w.heap.size + 2) ((w.alloc (.cells #[.bool false, .bool false, .bool false, .int .i64 0, .int .i64 0, .int .i64 0, .int .i64 0] 64)).alloc (.cells #[.bool true, .bool true, .bool true, .int .i64 x, .int .i64 y.g, .int .i64 y.c, .int .i64 y.v] 64)) W3 → RO W3 G F (.slice (some ⟨bb, off, none⟩) st.buf.length cl) (.slice (some ⟨b', off2, none⟩) st.snd.length cs) (.slice oq st.rcv.length cq) st ∧ W3.heap[w.heap.size]? = some (.cells #[.bool false, .bool false, .bool false, .int .i64 0, .int .i64 0, .int .i64 0, .int .i64 0] 64) ∧ W3.heap[w.heap.size + 1]? = some (.cells #[.bool true, .bool true, .bool true, .int .i64 x, .int .i64 y.g, .int .i64 y.c, .int .i64 y.v] 64) ∧ KF F w W3 := by
    intro ob d W3 _ hb3
    rw [← hS2] at hb3
    exact ⟨P2.out.below hb3, heap_below Z2.out hb3, heap_below M2.out hb3, KF.of (btr BB.out hb3)⟩
  have MAIN := hide main
  clear main
  by_cases hc1 : cl = 1
  · obtain rfl := hc1
    obtain rfl : b = [] := List.eq_nil_of_length_eq_zero (by omega)
    obtain ⟨ob, d, W3, hr3, ho3, hb3⟩ := TR.out off (fun h => by simp at h)
    have HR : Hid ((Builtin.append_ #[22, 22] 22 #[.slice none 0 0, .slice (some ⟨bb, off, none⟩) 0 0]).run Try.prog ((w.alloc (.cells #[.bool false, .bool false, .bool false, .int .i64 0, .int .i64 0, .int .i64 0, .int .i64 0] 64)).alloc (.cells #[.bool true, .bool true, .bool true, .int .i64 x, .int .i64 y.g, .int .i64 y.c, .int .i64 y.v] 64)) = .ok (.slice ob 0 d) W3) := hr3
    rw [hS2] at ho3 hb3
    obtain ⟨p3, z3, m3, k3⟩ := MAIN.out ob d W3 ho3 hb3
    have P3 := hide p3
    have Z3 := hide z3
    have M3 := hide m3
    have K3 := hide k3
    have O3 := hide ho3
    have SZ3 := hb3.size
    rw [hS2] at SZ3
    clear hr3 ho3 hb3 p3 z3 m3 k3 TR MAIN P2 BB Z2 M2
    have n2 : W3.cell? ⟨w.heap.size + 1, 2, none⟩ = some (.bool true) := cell_of M3.out 2
    have n6 : W3.cell? ⟨w.heap.size + 1, 6, none⟩ = some (.int .i64 y.v) := cell_of M3.out 6
    have hn1 : w.heap.size + 1 < W3.heap.size := by omega
    have BX := below_alloc W3 (.cells #[.int .i64 y.v] 3)
    have OW := hide (own_below O3.out BX)
    have SRC := hide (cell_one_new W3 (.int .i64 y.v) 3)
    have P4 := hide (P3.out.below BX)
    have Z4 := hide (heap_below Z3.out BX)
    have M4 := hide (heap_below M3.out BX)
    have K4 := hide (K3.out.then BX)
    have SX : (W3.alloc (.cells #[.int .i64 y.v] 3)).heap.size = W3.heap.size + 1 := World.size_alloc _ _
    clear BX
    go_enter Try.func48, Try.ntmps48
    go_wp2_with (first | (at_builtin; refine Lib.wpList_append_run _ rfl _ _ 22 22 rfl _ _ rfl rfl _ _ HR.out ?_) | (at_builtin; refine wpList_append_own _ rfl _ _ 22 rfl (w.heap.size + 2) 3 i0 (.int .i64 0) 1 8 Try.underlying22 INF.out.1 INF.out.2.1 INF.out.2.2.1 INF.out.2.2.2 rfl (by decide) _ _ _ rfl OW.out ⟨W3.heap.size, 0, none⟩ 1 1 [.int .i64 y.v] rfl rfl ?c1 ?c2 ?c3 ?c4 ?c5 ?_))
    case c1 => exact SRC.out
    case c2 => exact ic_one [y.v]
    case c3 => unfold maxLen; omega
    case c4 => omega
    case c5 => first | omega | (rw [SX]; omega)
    intro v5 w5 hown5 hg5 _
    have O5 : Hid (w5.ownsRow (w.heap.size + 2) 3 1 v5 ([] ++ [y.v]).length (ic ([] ++ [y.v]))) := by
      show World.ownsRow _ _ _ _ _ _ _
      rw [ic_app, List.length_append]
      exact hown5
    have NOB : ∀ k, (Value.slice ob 0 d).ownBlock = some k → w.heap.size + 2 ≤ k := fun k e => (own_blk OW.out k e).1
    have KB5 : Sm (fun k => k < w.heap.size + 2) (W3.alloc (.cells #[.int .i64 y.v] 3)) w5 := fun k (hk : k < w.heap.size + 2) => hg5.block k (by omega) (fun e => by have := NOB k e.symm; omega)
    have P5 := hide (P4.out.sm (KB5.sub (fun k hk => by have := BDF.out k hk; show k < _; omega)))
    have Z5 := hide ((KB5 w.heap.size (by show _ < _; omega)).trans Z4.out)
    have M5 := hide ((KB5 (w.heap.size + 1) (by show _ < _; omega)).trans M4.out)
    have K5 := hide (KF.grown K4.out hg5 (fun k e => .inr (by have := NOB k e; omega)))
    obtain ⟨o5, c5, rfl, _, _⟩ := own_at O5.out
    have SZ5 : W3.heap.size + 1 ≤ w5.heap.size := by
      have := hg5.size
      rw [SX] at this
      exact this
    clear hown5 hg5 NOB KB5 OW SRC
    have hlen : ([] ++ [y.v]).length = 0 + 1 := by simp
    have R6 := hide ((P5.out.newL O5.out (by rw [hlen]; omega)).setGot (st.got + 1) ((st.got : Int) + 1) (by omega))
    have K6 := hide ((K5.out.set FG.out 1 (.slice o5 ([] ++ [y.v]).length c5)).set FG.out 6 (.int .i64 ((st.got : Int) + 1)))
    have Z6 := hide ((Below.heap_setCell (w5.setCell ⟨G, 1, none⟩ (.slice o5 ([] ++ [y.v]).length c5)) ⟨G, 6, none⟩ (.int .i64 ((st.got : Int) + 1)) _ (Ne.symm hM3)).trans ((Below.heap_setCell w5 ⟨G, 1, none⟩ (.slice o5 ([] ++ [y.v]).length c5) _ (Ne.symm hM3)).trans Z5.out))
    have M6 := hide ((Below.heap_setCell (w5.setCell ⟨G, 1, none⟩ (.slice o5 ([] ++ [y.v]).length c5)) ⟨G, 6, none⟩ (.int .i64 ((st.got : Int) + 1)) _ hM1).trans ((Below.heap_setCell w5 ⟨G, 1, none⟩ (.slice o5 ([] ++ [y.v]).length c5) _ hM1).trans M5.out))
    have N6 : Hid (Nw (Fw F (.slice o5 ([] ++ [y.v]).length c5)) F w) := Fw.nw O5.out (by omega)
    have BF6 : Hid (∀ k, Fw F (.slice o5 ([] ++ [y.v]).length c5) k → k < w5.heap.size ∧ (k < w.heap.size ∨ w.heap.size + 2 ≤ k)) := by
      intro k hk
      have hkb := (Fw.bd (P5.out.bd) O5.out) k hk
      rcases hk with q | q
      · exact ⟨hkb, .inl (BDF.out k q)⟩
      · exact ⟨hkb, .inr (own_blk O5.out k q).1⟩
    have sz6 : ((w5.setCell ⟨G, 1, none⟩ (.slice o5 ([] ++ [y.v]).length c5)).setCell ⟨G, 6, none⟩ (.int .i64 ((st.got : Int) + 1))).heap.size = w5.heap.size := by rw [size_set, size_set]
    have AS6 := hide (own_wat R6.out.rs)
    simp only at AS6
    rw [HSR.out] at AS6
    have BE := hide (rbehind_any _ y t cs _ AS6.out hcs (by omega))
    have g1 : w5.cell? ⟨G, 1, none⟩ = some (.slice (some ⟨bb, off, none⟩) st.buf.length 1) := cell_of P5.out.hp 1
    have g6 : w5.cell? ⟨G, 6, none⟩ = some (.int .i64 (st.got : Int)) := cell_of P5.out.hp 6
    have g2 : w5.cell? ⟨G, 2, none⟩ = some (.slice (some ⟨b', off2, none⟩) (t.length + 1) cs) := (cell_of P5.out.hp 2).trans (by rw [HSR.out]; rfl)
    have gf1 := frozen_of P5.out.hp 1
    have gf6 := frozen_of P5.out.hp 6
    have e2 : w5.cell? ⟨w.heap.size + 1, 2, none⟩ = some (.bool true) := cell_of M5.out 2
    rw [hlen] at R6 K6 Z6 M6 N6 BF6 sz6 BE
    clear AS6 P5 K5 Z5 M5 O5
    go_wp2_with fail
    generalize (w5.setCell ⟨G, 1, none⟩ (.slice o5 (0 + 1) c5)).setCell ⟨G, 6, none⟩ (.int .i64 ((st.got : Int) + 1)) = W6 at R6 K6 Z6 M6 BE sz6 ⊢
    generalize Fw F (.slice o5 (0 + 1) c5) = F6 at R6 N6 BF6
    refine BE.out.mono ?_
    rintro r w7 ⟨o7, d7, rfl, ho7, hb7⟩
    have P7 := hide (R6.out.below hb7)
    have Z7 := hide (heap_below Z6.out hb7)
    have M7 := hide (heap_below M6.out hb7)
    have K7 := hide (K6.out.then hb7)
    have O7 := hide ho7
    have K7S := K6.out.size
    clear ho7 hb7 BE R6 K6 Z6 M6 g1 g2 g6 gf1 gf6 e2
    have g2 : w7.cell? ⟨G, 2, none⟩ = some (.slice (some ⟨b', off2, none⟩) st.snd.length cs) := cell_of P7.out.hp 2
    have g5 : w7.cell? ⟨G, 5, none⟩ = some (.int .i64 (st.sent : Int)) := cell_of P7.out.hp 5
    have gf2 := frozen_of P7.out.hp 2
    have gf5 := frozen_of P7.out.hp 5
    have z0 : w7.cell? ⟨w.heap.size, 0, none⟩ = some (.bool false) := cell_of Z7.out 0
    have zf0 := frozen_of Z7.out 0
    have z1 : w7.cell? ⟨w.heap.size, 1, none⟩ = some (.bool false) := cell_of Z7.out 1
    have zf1 := frozen_of Z7.out 1
    have z2 : w7.cell? ⟨w.heap.size, 2, none⟩ = some (.bool false) := cell_of Z7.out 2
    have zf2 := frozen_of Z7.out 2
    have z3 : w7.cell? ⟨w.heap.size, 3, none⟩ = some (.int .i64 0) := cell_of Z7.out 3
    have zf3 := frozen_of Z7.out 3
    have z4 : w7.cell? ⟨w.heap.size, 4, none⟩ = some (.int .i64 0) := cell_of Z7.out 4
    have zf4 := frozen_of Z7.out 4
    have z5 : w7.cell? ⟨w.heap.size, 5, none⟩ = some (.int .i64 0) := cell_of Z7.out 5
    have zf5 := frozen_of Z7.out 5
    have z6 : w7.cell? ⟨w.heap.size, 6, none⟩ = some (.int .i64 0) := cell_of Z7.out 6
    have zf6 := frozen_of Z7.out 6
    have m0 : w7.cell? ⟨w.heap.size + 1, 0, none⟩ = some (.bool true) := cell_of M7.out 0
    have m1 : w7.cell? ⟨w.heap.size + 1, 1, none⟩ = some (.bool true) := cell_of M7.out 1
    have m2 : w7.cell? ⟨w.heap.size + 1, 2, none⟩ = some (.bool true) := cell_of M7.out 2
    have m3 : w7.cell? ⟨w.heap.size + 1, 3, none⟩ = some (.int .i64 x) := cell_of M7.out 3
    have m4 : w7.cell? ⟨w.heap.size + 1, 4, none⟩ = some (.int .i64 y.g) := cell_of M7.out 4
    have m5 : w7.cell? ⟨w.heap.size + 1, 5, none⟩ = some (.int .i64 y.c) := cell_of M7.out 5
    have m6 : w7.cell? ⟨w.heap.size + 1, 6, none⟩ = some (.int .i64 y.v) := cell_of M7.out 6
    go_wp2_with fail
    have NB6 : ∀ k, F6 k → k < W6.heap.size := fun k hk => by have := (BF6.out k hk).1; omega
    have R8 := (P7.out.newS O7.out NB6 (by omega)).setSent (st.sent + 1) ((st.sent : Int) + 1) (by omega)
    have NN : Nw (Fw F6 (.slice o7 t.length d7)) F w := N6.out.trans (Fw.nw O7.out (Nat.le_refl _)) K7S
    have NZ : ¬ Fw F6 (.slice o7 t.length d7) w.heap.size := by
      rintro (q | q)
      · have := (BF6.out _ q).2
        omega
      · have := (own_blk O7.out _ q).1
        omega
    exact bodyPost_ret (results_row1 Try.results48 _ _ _ _ rfl (loadVar_rgot (got_set ((Below.heap_setCell _ _ _ _ (Ne.symm hM3)).trans ((Below.heap_setCell _ _ _ _ (Ne.symm hM3)).trans Z7.out)) _ _ _ _ _ _ _) rfl)) rfl ⟨rfl, rfin7 ((K7.out.set FG.out 2 _).set FG.out 5 _) NN R8.rr (Nat.le_refl _) NZ _ _ _ _ _ _ _⟩
  · obtain ⟨ob, d, W3, hr3, ho3, hb3⟩ := TR.out (off + 1) (fun _ => rfl)
    have HR := hide hr3
    rw [hS2] at ho3 hb3
    obtain ⟨p3, z3, m3, k3⟩ := MAIN.out ob d W3 ho3 hb3
    have P3 := hide p3
    have Z3 := hide z3
    have M3 := hide m3
    have K3 := hide k3
    have O3 := hide ho3
    have SZ3 := hb3.size
    rw [hS2] at SZ3
    clear hr3 ho3 hb3 p3 z3 m3 k3 TR MAIN P2 BB Z2 M2
    have n2 : W3.cell? ⟨w.heap.size + 1, 2, none⟩ = some (.bool true) := cell_of M3.out 2
    have n6 : W3.cell? ⟨w.heap.size + 1, 6, none⟩ = some (.int .i64 y.v) := cell_of M3.out 6
    have hn1 : w.heap.size + 1 < W3.heap.size := by omega
    have BX := below_alloc W3 (.cells #[.int .i64 y.v] 3)
    have OW := hide (own_below O3.out BX)
    have SRC := hide (cell_one_new W3 (.int .i64 y.v) 3)
    have P4 := hide (P3.out.below BX)
    have Z4 := hide (heap_below Z3.out BX)
    have M4 := hide (heap_below M3.out BX)
    have K4 := hide (K3.out.then BX)
    have SX : (W3.alloc (.cells #[.int .i64 y.v] 3)).heap.size = W3.heap.size + 1 := World.size_alloc _ _
    clear BX
    go_enter Try.func48, Try.ntmps48
    go_wp2_with (first | (at_builtin; refine Lib.wpList_append_run _ rfl _ _ 22 22 rfl _ _ rfl rfl _ _ HR.out ?_) | (at_builtin; refine wpList_append_own _ rfl _ _ 22 rfl (w.heap.size + 2) 3 i0 (.int .i64 0) 1 8 Try.underlying22 INF.out.1 INF.out.2.1 INF.out.2.2.1 INF.out.2.2.2 rfl (by decide) _ _ _ rfl OW.out ⟨W3.heap.size, 0, none⟩ 1 1 [.int .i64 y.v] rfl rfl ?c1 ?c2 ?c3 ?c4 ?c5 ?_))
    case c1 => exact SRC.out
    case c2 => exact ic_one [y.v]
    case c3 => unfold maxLen; omega
    case c4 => omega
    case c5 => first | omega | (rw [SX]; omega)
    intro v5 w5 hown5 hg5 _
    have O5 : Hid (w5.ownsRow (w.heap.size + 2) 3 1 v5 (b ++ [y.v]).length (ic (b ++ [y.v]))) := by
      show World.ownsRow _ _ _ _ _ _ _
      rw [ic_app, List.length_append]
      exact hown5
    have NOB : ∀ k, (Value.slice ob b.length d).ownBlock = some k → w.heap.size + 2 ≤ k := fun k e => (own_blk OW.out k e).1
    have KB5 : Sm (fun k => k < w.heap.size + 2) (W3.alloc (.cells #[.int .i64 y.v] 3)) w5 := fun k (hk : k < w.heap.size + 2) => hg5.block k (by omega) (fun e => by have := NOB k e.symm; omega)
    have P5 := hide (P4.out.sm (KB5.sub (fun k hk => by have := BDF.out k hk; show k < _; omega)))
    have Z5 := hide ((KB5 w.heap.size (by show _ < _; omega)).trans Z4.out)
    have M5 := hide ((KB5 (w.heap.size + 1) (by show _ < _; omega)).trans M4.out)
    have K5 := hide (KF.grown K4.out hg5 (fun k e => .inr (by have := NOB k e; omega)))
    obtain ⟨o5, c5, rfl, _, _⟩ := own_at O5.out
    have SZ5 : W3.heap.size + 1 ≤ w5.heap.size := by
      have := hg5.size
      rw [SX] at this
      exact this
    clear hown5 hg5 NOB KB5 OW SRC
    have hlen : (b ++ [y.v]).length = b.length + 1 := by simp
    have R6 := hide ((P5.out.newL O5.out (by rw [hlen]; omega)).setGot (st.got + 1) ((st.got : Int) + 1) (by omega))
    have K6 := hide ((K5.out.set FG.out 1 (.slice o5 (b ++ [y.v]).length c5)).set FG.out 6 (.int .i64 ((st.got : Int) + 1)))
    have Z6 := hide ((Below.heap_setCell (w5.setCell ⟨G, 1, none⟩ (.slice o5 (b ++ [y.v]).length c5)) ⟨G, 6, none⟩ (.int .i64 ((st.got : Int) + 1)) _ (Ne.symm hM3)).trans ((Below.heap_setCell w5 ⟨G, 1, none⟩ (.slice o5 (b ++ [y.v]).length c5) _ (Ne.symm hM3)).trans Z5.out))
    have M6 := hide ((Below.heap_setCell (w5.setCell ⟨G, 1, none⟩ (.slice o5 (b ++ [y.v]).length c5)) ⟨G, 6, none⟩ (.int .i64 ((st.got : Int) + 1)) _ hM1).trans ((Below.heap_setCell w5 ⟨G, 1, none⟩ (.slice o5 (b ++ [y.v]).length c5) _ hM1).trans M5.out))
    have N6 : Hid (Nw (Fw F (.slice o5 (b ++ [y.v]).length c5)) F w) := Fw.nw O5.out (by omega)
    have BF6 : Hid (∀ k, Fw F (.slice o5 (b ++ [y.v]).length c5) k → k < w5.heap.size ∧ (k < w.heap.size ∨ w.heap.size + 2 ≤ k)) := by
      intro k hk
      have hkb := (Fw.bd (P5.out.bd) O5.out) k hk
      rcases hk with q | q
      · exact ⟨hkb, .inl (BDF.out k q)⟩
      · exact ⟨hkb, .inr (own_blk O5.out k q).1⟩
    have sz6 : ((w5.setCell ⟨G, 1, none⟩ (.slice o5 (b ++ [y.v]).length c5)).setCell ⟨G, 6, none⟩ (.int .i64 ((st.got : Int) + 1))).heap.size = w5.heap.size := by rw [size_set, size_set]
    have AS6 := hide (own_wat R6.out.rs)
    simp only at AS6
    rw [HSR.out] at AS6
    have BE := hide (rbehind_any _ y t cs _ AS6.out hcs (by omega))
    have g1 : w5.cell? ⟨G, 1, none⟩ = some (.slice (some ⟨bb, off, none⟩) st.buf.length cl) := cell_of P5.out.hp 1
    have g6 : w5.cell? ⟨G, 6, none⟩ = some (.int .i64 (st.got : Int)) := cell_of P5.out.hp 6
    have g2 : w5.cell? ⟨G, 2, none⟩ = some (.slice (some ⟨b', off2, none⟩) (t.length + 1) cs) := (cell_of P5.out.hp 2).trans (by rw [HSR.out]; rfl)
    have gf1 := frozen_of P5.out.hp 1
    have gf6 := frozen_of P5.out.hp 6
    have e2 : w5.cell? ⟨w.heap.size + 1, 2, none⟩ = some (.bool true) := cell_of M5.out 2
    rw [hlen] at R6 K6 Z6 M6 N6 BF6 sz6 BE
    clear AS6 P5 K5 Z5 M5 O5
    go_wp2_with fail
    generalize (w5.setCell ⟨G, 1, none⟩ (.slice o5 (b.length + 1) c5)).setCell ⟨G, 6, none⟩ (.int .i64 ((st.got : Int) + 1)) = W6 at R6 K6 Z6 M6 BE sz6 ⊢
    generalize Fw F (.slice o5 (b.length + 1) c5) = F6 at R6 N6 BF6
    refine BE.out.mono ?_
    rintro r w7 ⟨o7, d7, rfl, ho7, hb7⟩
    have P7 := hide (R6.out.below hb7)
    have Z7 := hide (heap_below Z6.out hb7)
    have M7 := hide (heap_below M6.out hb7)
    have K7 := hide (K6.out.then hb7)
    have O7 := hide ho7
    have K7S := K6.out.size
    clear ho7 hb7 BE R6 K6 Z6 M6 g1 g2 g6 gf1 gf6 e2
    have g2 : w7.cell? ⟨G, 2, none⟩ = some (.slice (some ⟨b', off2, none⟩) st.snd.length cs) := cell_of P7.out.hp 2
    have g5 : w7.cell? ⟨G, 5, none⟩ = some (.int .i64 (st.sent : Int)) := cell_of P7.out.hp 5
    have gf2 := frozen_of P7.out.hp 2
    have gf5 := frozen_of P7.out.hp 5
    have z0 : w7.cell? ⟨w.heap.size, 0, none⟩ = some (.bool false) := cell_of Z7.out 0
    have zf0 := frozen_of Z7.out 0
    have z1 : w7.cell? ⟨w.heap.size, 1, none⟩ = some (.bool false) := cell_of Z7.out 1
    have zf1 := frozen_of Z7.out 1
    have z2 : w7.cell? ⟨w.heap.size, 2, none⟩ = some (.bool false) := cell_of Z7.out 2
    have zf2 := frozen_of Z7.out 2
    have z3 : w7.cell? ⟨w.heap.size, 3, none⟩ = some (.int .i64 0) := cell_of Z7.out 3
    have zf3 := frozen_of Z7.out 3
    have z4 : w7.cell? ⟨w.heap.size, 4, none⟩ = some (.int .i64 0) := cell_of Z7.out 4
    have zf4 := frozen_of Z7.out 4
    have z5 : w7.cell? ⟨w.heap.size, 5, none⟩ = some (.int .i64 0) := cell_of Z7.out 5
    have zf5 := frozen_of Z7.out 5
    have z6 : w7.cell? ⟨w.heap.size, 6, none⟩ = some (.int .i64 0) := cell_of Z7.out 6
    have zf6 := frozen_of Z7.out 6
    have m0 : w7.cell? ⟨w.heap.size + 1, 0, none⟩ = some (.bool true) := cell_of M7.out 0
    have m1 : w7.cell? ⟨w.heap.size + 1, 1, none⟩ = some (.bool true) := cell_of M7.out 1
    have m2 : w7.cell? ⟨w.heap.size + 1, 2, none⟩ = some (.bool true) := cell_of M7.out 2
    have m3 : w7.cell? ⟨w.heap.size + 1, 3, none⟩ = some (.int .i64 x) := cell_of M7.out 3
    have m4 : w7.cell? ⟨w.heap.size + 1, 4, none⟩ = some (.int .i64 y.g) := cell_of M7.out 4
    have m5 : w7.cell? ⟨w.heap.size + 1, 5, none⟩ = some (.int .i64 y.c) := cell_of M7.out 5
    have m6 : w7.cell? ⟨w.heap.size + 1, 6, none⟩ = some (.int .i64 y.v) := cell_of M7.out 6
    go_wp2_with fail
    have NB6 : ∀ k, F6 k → k < W6.heap.size := fun k hk => by have := (BF6.out k hk).1; omega
    have R8 := (P7.out.newS O7.out NB6 (by omega)).setSent (st.sent + 1) ((st.sent : Int) + 1) (by omega)
    have NN : Nw (Fw F6 (.slice o7 t.length d7)) F w := N6.out.trans (Fw.nw O7.out (Nat.le_refl _)) K7S
    have NZ : ¬ Fw F6 (.slice o7 t.length d7) w.heap.size := by
      rintro (q | q)
      · have := (BF6.out _ q).2
        omega
      · have := (own_blk O7.out _ q).1
        omega
    exact bodyPost_ret (results_row1 Try.results48 _ _ _ _ rfl (loadVar_rgot (got_set ((Below.heap_setCell _ _ _ _ (Ne.symm hM3)).trans ((Below.heap_setCell _ _ _ _ (Ne.symm hM3)).trans Z7.out)) _ _ _ _ _ _ _) rfl)) rfl ⟨rfl, rfin7 ((K7.out.set FG.out 2 _).set FG.out 5 _) NN R8.rr (Nat.le_refl _) NZ _ _ _ _ _ _ _⟩
end Rp
end Go.Proofs.Ytdcmlimglajpkaa
