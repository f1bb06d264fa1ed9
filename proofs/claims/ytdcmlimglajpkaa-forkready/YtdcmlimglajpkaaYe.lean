/- The reference's channel: Recv where a value is in the buffer, over this seat's program. -/
import Derived.Test.YtdcmlimglajpkaaYd
namespace Go.Proofs.Ytdcmlimglajpkaa
open Go.ChangeShapes Go.WideShapes Go.ChangeAt Go.RowKit
namespace Rp
open Ba Pe _root_.Go.Proofs.Ytdcmlimglajpkaa.Pi

theorem tail_run {w : World} {b off c : Nat} {x : Int} {l : List Int} (hA : At w (some ⟨b, off, none⟩) (x :: l)) (hl : l.length ≤ 1024) (off' : Nat) (ho : 0 < l.length → off' = off + 1) :
    ∃ ob d W, (Builtin.append_ #[22, 22] 22 #[.slice none 0 0, .slice (some ⟨b, off', none⟩) l.length (c - 1)]).run Try.prog w = .ok (.slice ob l.length d) W ∧ W.ownsRow w.heap.size 3 1 (.slice ob l.length d) l.length (ic l) ∧ Below w.heap.size w W := by
  cases hi : Try.prog.info? 3 with
  | none => have := info_i; rw [hi] at this; cases this
  | some i0 =>
  have hx2 := info_i
  rw [hi] at hx2
  simp at hx2
  have A1 := hA.tail
  obtain ⟨v', W, hr, h2, h5, _⟩ := run_append_own (P := Try.prog) w w.heap.size 22 22 3 i0 (.int .i64 0) 1 8 Try.underlying22 hi hx2.1 hx2.2.1 hx2.2.2 rfl (by decide) (.slice none 0 0) 0 [] (World.ownsRow_nil _ _ _ _) ⟨b, off', none⟩ l.length (c - 1) (ic l) (by simp [ic]) (by
    intro j u hj
    have hjl : j < l.length := by
      have := (List.getElem?_eq_some_iff.1 hj).1
      rw [ic_len] at this
      exact this
    obtain rfl := ho (by omega)
    obtain ⟨b', o', e, hc⟩ := A1 j hjl
    simp at e
    obtain ⟨rfl, rfl⟩ := e
    rw [Addr.add_lit, hc, ← hj]
    simp [ic, nth, hjl]) (ic_one l) (by unfold maxLen; omega) (by omega) (Nat.le_refl _)
  rw [Nat.zero_add, List.nil_append] at h2
  obtain ⟨ob, d, rfl, _, _⟩ := own_at h2
  exact ⟨ob, d, W, hr, h2, (Below.refl _ _).grown h5 (Nat.le_refl _) (fun x hx => by cases hx)⟩
set_option maxRecDepth 100000 in
set_option maxHeartbeats 6400000 in
theorem rrecv_buf (G : Nat) (F : Nat → Prop) (st : St) (x : Int) (b : List Int) (w : World) (h : Rr w G F st) (hb : st.buf = x :: b) (hr : st.snd = []) (hg : st.got < 1000000000) :
    Calls Try.prog 48 #[.pointer (some ⟨G, 0, none⟩)] w fun r w' => r = .returned (gv ⟨true, true, false, x, ⟨0, 0, 0⟩⟩) ∧ KF F w w' ∧ ∃ F', Nw F' F w ∧ Rr w' G F' { st with buf := b, got := st.got + 1 } := by
  have hG := h.lt
  have NF : Hid (¬ F w.heap.size) := fun e => Nat.lt_irrefl _ (h.bd _ e)
  obtain ⟨vL, vS, vQ, h⟩ := h
  have FG := hide h.fg
  have BDF := hide h.bd
  obtain ⟨ol, cl, os, cs, oq, cq, ⟨rfl, hAL, hcl⟩, ⟨rfl, hAS, hcs⟩, rfl, _, _⟩ := h.read
  have hbl := h.bl
  have hsz := h.sz
  have b1 := below_alloc w (.cells #[.bool false, .bool false, .bool false, .int .i64 0, .int .i64 0, .int .i64 0, .int .i64 0] 64)
  have b2 := below_alloc (w.alloc (.cells #[.bool false, .bool false, .bool false, .int .i64 0, .int .i64 0, .int .i64 0, .int .i64 0] 64)) (.cells #[.bool true, .bool true, .bool false, .int .i64 x, .int .i64 0, .int .i64 0, .int .i64 0] 64)
  have P2 := hide (h.below (btr b1 b2))
  have BB := hide (btr b1 b2)
  have Z2 := hide (heap_below (heap_new w (.cells #[.bool false, .bool false, .bool false, .int .i64 0, .int .i64 0, .int .i64 0, .int .i64 0] 64)) b2)
  have hm := heap_new (w.alloc (.cells #[.bool false, .bool false, .bool false, .int .i64 0, .int .i64 0, .int .i64 0, .int .i64 0] 64)) (.cells #[.bool true, .bool true, .bool false, .int .i64 x, .int .i64 0, .int .i64 0, .int .i64 0] 64)
  rw [World.size_alloc] at hm
  have M2 := hide hm
  have hS2 : ((w.alloc (.cells #[.bool false, .bool false, .bool false, .int .i64 0, .int .i64 0, .int .i64 0, .int .i64 0] 64)).alloc (.cells #[.bool true, .bool true, .bool false, .int .i64 x, .int .i64 0, .int .i64 0, .int .i64 0] 64)).heap.size = w.heap.size + 2 := by rw [World.size_alloc, World.size_alloc]
  have hM1 : w.heap.size + 1 ≠ G := by omega
  have hM3 : G ≠ w.heap.size := by omega
  rw [hb] at hAL hcl hbl
  rw [List.length_cons] at hcl hbl
  obtain ⟨bb, off, rfl, hx⟩ := hAL.head
  have hbb := World.block_lt_of_cell? w _ hx
  simp only at hbb
  have y1 : w.cell? ⟨G, 1, none⟩ = some (.slice (some ⟨bb, off, none⟩) (b.length + 1) cl) := (cell_of h.hp 1).trans (by rw [hb]; rfl)
  have hposL : decide (0 < ((b.length : Int) + 1)) = true := decide_eq_true (by omega)
  have y2 : w.cell? ⟨G, 2, none⟩ = some (.slice os 0 cs) := (cell_of h.hp 2).trans (by rw [hr]; rfl)
  have TR := hide fun o ho => tail_run (w := ((w.alloc (.cells #[.bool false, .bool false, .bool false, .int .i64 0, .int .i64 0, .int .i64 0, .int .i64 0] 64)).alloc (.cells #[.bool true, .bool true, .bool false, .int .i64 x, .int .i64 0, .int .i64 0, .int .i64 0] 64))) (c := cl) (hAL.below (btr b1 b2)) (by omega) o ho
  clear h hb hr hAL b1 b2 hm
  unfold gv
  have main : ∀ (ob : Option Addr) (d : Nat) (W3 : World), W3.ownsRow (w.heap.size + 2) 3 1 (.slice ob b.length d) b.length (ic b) → Below (w.heap.size + 2) ((w.alloc (.cells #[.bool false, .bool false, .bool false, .int .i64 0, .int .i64 0, .int .i64 0, .int .i64 0] 64)).alloc (.cells #[.bool true, .bool true, .bool false, .int .i64 x, .int .i64 0, .int .i64 0, .int .i64 0] 64)) W3 → RO W3 G F (.slice (some ⟨bb, off, none⟩) st.buf.length cl) (.slice os st.snd.length cs) (.slice oq st.rcv.length cq) st ∧ W3.heap[w.heap.size]? = some (.cells #[.bool false, .bool false, .bool false, .int .i64 0, .int .i64 0, .int .i64 0, .int .i64 0] 64) ∧ W3.heap[w.heap.size + 1]? = some (.cells #[.bool true, .bool true, .bool false, .int .i64 x, .int .i64 0, .int .i64 0, .int .i64 0] 64) ∧ KF F w W3 := by
    intro ob d W3 _ hb3
    rw [← hS2] at hb3
    exact ⟨P2.out.below hb3, heap_below Z2.out hb3, heap_below M2.out hb3, KF.of (btr BB.out hb3)⟩
  have MAIN := hide main
  clear main
  by_cases hc1 : cl = 1
  · obtain rfl := hc1
    obtain rfl : b = [] := List.eq_nil_of_length_eq_zero (by omega)
    obtain ⟨ob, d, W3, hr3, ho3, hb3⟩ := TR.out off (fun h => by simp at h)
    have HR : Hid ((Builtin.append_ #[22, 22] 22 #[.slice none 0 0, .slice (some ⟨bb, off, none⟩) 0 0]).run Try.prog ((w.alloc (.cells #[.bool false, .bool false, .bool false, .int .i64 0, .int .i64 0, .int .i64 0, .int .i64 0] 64)).alloc (.cells #[.bool true, .bool true, .bool false, .int .i64 x, .int .i64 0, .int .i64 0, .int .i64 0] 64)) = .ok (.slice ob 0 d) W3) := hr3
    rw [hS2] at ho3 hb3
    obtain ⟨p3, z3, m3, k3⟩ := MAIN.out ob d W3 ho3 hb3
    have P3 := hide p3
    have Z3 := hide z3
    have M3 := hide m3
    have K3 := hide k3
    have O3 := hide ho3
    have SZ3 := hb3.size
    rw [hS2] at SZ3
    clear hr3 ho3 hb3 p3 z3 m3 k3 TR MAIN P2 BB Z2 M2
    have g1 : W3.cell? ⟨G, 1, none⟩ = some (.slice (some ⟨bb, off, none⟩) st.buf.length 1) := cell_of P3.out.hp 1
    have g6 : W3.cell? ⟨G, 6, none⟩ = some (.int .i64 (st.got : Int)) := cell_of P3.out.hp 6
    have gf1 := frozen_of P3.out.hp 1
    have gf6 := frozen_of P3.out.hp 6
    have z0 : W3.cell? ⟨w.heap.size, 0, none⟩ = some (.bool false) := cell_of Z3.out 0
    have zf0 := frozen_of Z3.out 0
    have z1 : W3.cell? ⟨w.heap.size, 1, none⟩ = some (.bool false) := cell_of Z3.out 1
    have zf1 := frozen_of Z3.out 1
    have z2 : W3.cell? ⟨w.heap.size, 2, none⟩ = some (.bool false) := cell_of Z3.out 2
    have zf2 := frozen_of Z3.out 2
    have z3 : W3.cell? ⟨w.heap.size, 3, none⟩ = some (.int .i64 0) := cell_of Z3.out 3
    have zf3 := frozen_of Z3.out 3
    have z4 : W3.cell? ⟨w.heap.size, 4, none⟩ = some (.int .i64 0) := cell_of Z3.out 4
    have zf4 := frozen_of Z3.out 4
    have z5 : W3.cell? ⟨w.heap.size, 5, none⟩ = some (.int .i64 0) := cell_of Z3.out 5
    have zf5 := frozen_of Z3.out 5
    have z6 : W3.cell? ⟨w.heap.size, 6, none⟩ = some (.int .i64 0) := cell_of Z3.out 6
    have zf6 := frozen_of Z3.out 6
    have m0 : W3.cell? ⟨w.heap.size + 1, 0, none⟩ = some (.bool true) := cell_of M3.out 0
    have m1 : W3.cell? ⟨w.heap.size + 1, 1, none⟩ = some (.bool true) := cell_of M3.out 1
    have m2 : W3.cell? ⟨w.heap.size + 1, 2, none⟩ = some (.bool false) := cell_of M3.out 2
    have m3 : W3.cell? ⟨w.heap.size + 1, 3, none⟩ = some (.int .i64 x) := cell_of M3.out 3
    have m4 : W3.cell? ⟨w.heap.size + 1, 4, none⟩ = some (.int .i64 0) := cell_of M3.out 4
    have m5 : W3.cell? ⟨w.heap.size + 1, 5, none⟩ = some (.int .i64 0) := cell_of M3.out 5
    have m6 : W3.cell? ⟨w.heap.size + 1, 6, none⟩ = some (.int .i64 0) := cell_of M3.out 6
    go_enter Try.func48, Try.ntmps48
    go_wp2_with (at_builtin; refine Lib.wpList_append_run _ rfl _ _ 22 22 rfl _ _ rfl rfl _ _ HR.out ?_)
    have R1 := (P3.out.newL O3.out (by simp)).setGot (st.got + 1) ((st.got : Int) + 1) (by omega)
    have NN : Nw (Fw F (.slice ob 0 d)) F w := Fw.nw O3.out (by omega)
    have NZ : ¬ Fw F (.slice ob 0 d) w.heap.size := by
      rintro (q | q)
      · exact NF.out q
      · have := (own_blk O3.out _ q).1
        omega
    exact bodyPost_ret (results_row1 Try.results48 _ _ _ _ rfl (loadVar_rgot (got_set ((Below.heap_setCell _ _ _ _ (Ne.symm hM3)).trans ((Below.heap_setCell _ _ _ _ (Ne.symm hM3)).trans Z3.out)) _ _ _ _ _ _ _) rfl)) rfl ⟨rfl, rfin7 ((K3.out.set FG.out 1 _).set FG.out 6 _) NN R1.rr (Nat.le_refl _) NZ _ _ _ _ _ _ _⟩
  · obtain ⟨ob, d, W3, hr3, ho3, hb3⟩ := TR.out (off + 1) (fun _ => rfl)
    have HR := hide hr3
    rw [hS2] at ho3 hb3
    obtain ⟨p3, z3, m3, k3⟩ := MAIN.out ob d W3 ho3 hb3
    have P3 := hide p3
    have Z3 := hide z3
    have M3 := hide m3
    have K3 := hide k3
    have O3 := hide ho3
    have SZ3 := hb3.size
    rw [hS2] at SZ3
    clear hr3 ho3 hb3 p3 z3 m3 k3 TR MAIN P2 BB Z2 M2
    have g1 : W3.cell? ⟨G, 1, none⟩ = some (.slice (some ⟨bb, off, none⟩) st.buf.length cl) := cell_of P3.out.hp 1
    have g6 : W3.cell? ⟨G, 6, none⟩ = some (.int .i64 (st.got : Int)) := cell_of P3.out.hp 6
    have gf1 := frozen_of P3.out.hp 1
    have gf6 := frozen_of P3.out.hp 6
    have z0 : W3.cell? ⟨w.heap.size, 0, none⟩ = some (.bool false) := cell_of Z3.out 0
    have zf0 := frozen_of Z3.out 0
    have z1 : W3.cell? ⟨w.heap.size, 1, none⟩ = some (.bool false) := cell_of Z3.out 1
    have zf1 := frozen_of Z3.out 1
    have z2 : W3.cell? ⟨w.heap.size, 2, none⟩ = some (.bool false) := cell_of Z3.out 2
    have zf2 := frozen_of Z3.out 2
    have z3 : W3.cell? ⟨w.heap.size, 3, none⟩ = some (.int .i64 0) := cell_of Z3.out 3
    have zf3 := frozen_of Z3.out 3
    have z4 : W3.cell? ⟨w.heap.size, 4, none⟩ = some (.int .i64 0) := cell_of Z3.out 4
    have zf4 := frozen_of Z3.out 4
    have z5 : W3.cell? ⟨w.heap.size, 5, none⟩ = some (.int .i64 0) := cell_of Z3.out 5
    have zf5 := frozen_of Z3.out 5
    have z6 : W3.cell? ⟨w.heap.size, 6, none⟩ = some (.int .i64 0) := cell_of Z3.out 6
    have zf6 := frozen_of Z3.out 6
    have m0 : W3.cell? ⟨w.heap.size + 1, 0, none⟩ = some (.bool true) := cell_of M3.out 0
    have m1 : W3.cell? ⟨w.heap.size + 1, 1, none⟩ = some (.bool true) := cell_of M3.out 1
    have m2 : W3.cell? ⟨w.heap.size + 1, 2, none⟩ = some (.bool false) := cell_of M3.out 2
    have m3 : W3.cell? ⟨w.heap.size + 1, 3, none⟩ = some (.int .i64 x) := cell_of M3.out 3
    have m4 : W3.cell? ⟨w.heap.size + 1, 4, none⟩ = some (.int .i64 0) := cell_of M3.out 4
    have m5 : W3.cell? ⟨w.heap.size + 1, 5, none⟩ = some (.int .i64 0) := cell_of M3.out 5
    have m6 : W3.cell? ⟨w.heap.size + 1, 6, none⟩ = some (.int .i64 0) := cell_of M3.out 6
    go_enter Try.func48, Try.ntmps48
    go_wp2_with (at_builtin; refine Lib.wpList_append_run _ rfl _ _ 22 22 rfl _ _ rfl rfl _ _ HR.out ?_)
    have R1 := (P3.out.newL O3.out (by omega)).setGot (st.got + 1) ((st.got : Int) + 1) (by omega)
    have NN : Nw (Fw F (.slice ob b.length d)) F w := Fw.nw O3.out (by omega)
    have NZ : ¬ Fw F (.slice ob b.length d) w.heap.size := by
      rintro (q | q)
      · exact NF.out q
      · have := (own_blk O3.out _ q).1
        omega
    exact bodyPost_ret (results_row1 Try.results48 _ _ _ _ rfl (loadVar_rgot (got_set ((Below.heap_setCell _ _ _ _ (Ne.symm hM3)).trans ((Below.heap_setCell _ _ _ _ (Ne.symm hM3)).trans Z3.out)) _ _ _ _ _ _ _) rfl)) rfl ⟨rfl, rfin7 ((K3.out.set FG.out 1 _).set FG.out 6 _) NN R1.rr (Nat.le_refl _) NZ _ _ _ _ _ _ _⟩
end Rp
end Go.Proofs.Ytdcmlimglajpkaa
