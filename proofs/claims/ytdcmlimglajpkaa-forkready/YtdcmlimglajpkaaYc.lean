/- The reference's channel: Send, over this seat's program. -/
import Derived.Test.YtdcmlimglajpkaaYb
import Derived.Test.YtdcmlimglajpkaaXd
namespace Go.Proofs.Ytdcmlimglajpkaa
open Go.ChangeShapes Go.WideShapes Go.ChangeAt Go.RowKit
namespace Rp
open Ba Pe _root_.Go.Proofs.Ytdcmlimglajpkaa.Pi

theorem size_rgot : (Try.prog.info? 64).map (·.size) = some 7 := by kernel_rfl
theorem loadVar_rgot {w : World} {b : Nat} {c : Array Value} {t : TypeId} (h : w.heap[b]? = some (.cells c t (0, 0))) (hc : c.size = 7) : (loadVar 64 ⟨b, 0, none⟩).run Try.prog w = .ok (.agg c) w :=
  run_loadVar_row w b t _ _ _ _ h Try.underlying64 rfl (by rw [size_rgot, hc])
/-- the result's cells, a new block, are laid last -/
theorem rfin7 {w A : World} {G Z : Nat} {F F' : Nat → Prop} {st : St} (k : KF F w A) (i : Nw F' F w) (p : Rr A G F' st) (hz : w.heap.size ≤ Z) (hn : ¬ F' Z) (u0 u1 u2 u3 u4 u5 u6 : Value) :
    KF F w (((((((A.setCell ⟨Z, 0, none⟩ u0).setCell ⟨Z, 1, none⟩ u1).setCell ⟨Z, 2, none⟩ u2).setCell ⟨Z, 3, none⟩ u3).setCell ⟨Z, 4, none⟩ u4).setCell ⟨Z, 5, none⟩ u5).setCell ⟨Z, 6, none⟩ u6) ∧ ∃ F', Nw F' F w ∧ Rr (((((((A.setCell ⟨Z, 0, none⟩ u0).setCell ⟨Z, 1, none⟩ u1).setCell ⟨Z, 2, none⟩ u2).setCell ⟨Z, 3, none⟩ u3).setCell ⟨Z, 4, none⟩ u4).setCell ⟨Z, 5, none⟩ u5).setCell ⟨Z, 6, none⟩ u6) G F' st := by
  have K := (((((((KB.refl Z A).setCell 0 u0).setCell 1 u1).setCell 2 u2).setCell 3 u3).setCell 4 u4).setCell 5 u5).setCell 6 u6
  exact ⟨((((((k.setNew hz 0 u0).setNew hz 1 u1).setNew hz 2 u2).setNew hz 3 u3).setNew hz 4 u4).setNew hz 5 u5).setNew hz 6 u6, F', i, p.sm fun x hx => K.block x (p.bd x hx) (fun e => hn (e ▸ hx))⟩
set_option maxHeartbeats 3200000 in
theorem rsend_closed (G : Nat) (F : Nat → Prop) (st : St) (x : Int) (w : World) (h : Rr w G F st) (hc : st.closed = true) :
    Calls Try.prog 47 #[.pointer (some ⟨G, 0, none⟩), .int .i64 x] w fun r w' => r = .returned (.tuple #[gv gz, .int .i64 90]) ∧ KF F w w' ∧ ∃ F', Nw F' F w ∧ Rr w' G F' st := by
  have hG := h.lt
  have P1 := hide (h.below (below_alloc w (.cells #[.bool false, .bool false, .bool false, .int .i64 0, .int .i64 0, .int .i64 0, .int .i64 0] 64)))
  have Z1 := hide (heap_new w (.cells #[.bool false, .bool false, .bool false, .int .i64 0, .int .i64 0, .int .i64 0, .int .i64 0] 64))
  have NF : Hid (¬ F w.heap.size) := fun e => Nat.lt_irrefl _ (h.bd _ e)
  have y4 : (w.alloc (.cells #[.bool false, .bool false, .bool false, .int .i64 0, .int .i64 0, .int .i64 0, .int .i64 0] 64)).cell? ⟨G, 4, none⟩ = some (.bool true) := by
    obtain ⟨vL, vS, vQ, h'⟩ := P1.out
    have := cell_of h'.hp 4
    rw [hc] at this
    exact this
  clear h hc
  go_enter Try.func47, Try.ntmps47
  go_wp2_with fail
  first
    | exact bodyPost_ret (results_row2 Try.results47 _ _ _ _ _ rfl rfl (loadVar_rgot Z1.out rfl)) rfl ⟨rfl, KF.of (below_alloc _ _), F, Nw.refl _ _, P1.out⟩
    | exact bodyPost_ret (results_row2 Try.results47 _ _ _ _ _ rfl rfl (loadVar_rgot (got_set Z1.out _ _ _ _ _ _ _) rfl)) rfl ⟨rfl, rfin7 (KF.of (below_alloc _ _)) (Nw.refl _ _) P1.out (Nat.le_refl _) NF.out _ _ _ _ _ _ _⟩
set_option maxRecDepth 100000 in
set_option maxHeartbeats 3200000 in
theorem rsend_woke (G : Nat) (F : Nat → Prop) (st : St) (x : Int) (y : Wt) (t : List Wt) (w : World) (h : Rr w G F st) (hc : st.closed = false) (hr : st.rcv = y :: t) (hs : st.sent < 1000000000) (hg : st.got < 1000000000) :
    Calls Try.prog 47 #[.pointer (some ⟨G, 0, none⟩), .int .i64 x] w fun r w' => r = .returned (.tuple #[gv ⟨true, false, true, 0, y⟩, .int .i64 0]) ∧ KF F w w' ∧ ∃ F', Nw F' F w ∧ Rr w' G F' { st with rcv := t, sent := st.sent + 1, got := st.got + 1 } := by
  have hG := h.lt
  have NF : Hid (¬ F w.heap.size) := fun e => Nat.lt_irrefl _ (h.bd _ e)
  obtain ⟨vL, vS, vQ, h⟩ := h
  have FG := hide h.fg
  have BDF := hide h.bd
  have b1 := below_alloc w (.cells #[.bool false, .bool false, .bool false, .int .i64 0, .int .i64 0, .int .i64 0, .int .i64 0] 64)
  have b2 := below_alloc (w.alloc (.cells #[.bool false, .bool false, .bool false, .int .i64 0, .int .i64 0, .int .i64 0, .int .i64 0] 64)) (.cells #[.int .i64 y.g, .int .i64 y.c, .int .i64 y.v] 62)
  have P1 := hide (h.below b1)
  have P2 := hide (h.below (btr b1 b2))
  have Z2 := hide (heap_below (heap_new w (.cells #[.bool false, .bool false, .bool false, .int .i64 0, .int .i64 0, .int .i64 0, .int .i64 0] 64)) b2)
  have BB := hide (btr b1 b2)
  have hm2 := heap_new (w.alloc (.cells #[.bool false, .bool false, .bool false, .int .i64 0, .int .i64 0, .int .i64 0, .int .i64 0] 64)) (.cells #[.int .i64 y.g, .int .i64 y.c, .int .i64 y.v] 62)
  rw [World.size_alloc] at hm2
  have M2 := hide hm2
  obtain ⟨oq, cq, eq1, hAQ, hcq, _⟩ := owns_wat P1.out.rq
  subst eq1
  have hle := h.leq
  rw [hr] at hAQ hcq hle
  rw [List.length_cons] at hcq hle
  have y4 : (w.alloc (.cells #[.bool false, .bool false, .bool false, .int .i64 0, .int .i64 0, .int .i64 0, .int .i64 0] 64)).cell? ⟨G, 4, none⟩ = some (.bool false) := (cell_of P1.out.hp 4).trans (by rw [hc]; rfl)
  have y3 : (w.alloc (.cells #[.bool false, .bool false, .bool false, .int .i64 0, .int .i64 0, .int .i64 0, .int .i64 0] 64)).cell? ⟨G, 3, none⟩ = some (.slice oq (t.length + 1) cq) := (cell_of P1.out.hp 3).trans (by rw [hr]; rfl)
  have y3' : ((w.alloc (.cells #[.bool false, .bool false, .bool false, .int .i64 0, .int .i64 0, .int .i64 0, .int .i64 0] 64)).alloc (.cells #[.int .i64 y.g, .int .i64 y.c, .int .i64 y.v] 62)).cell? ⟨G, 3, none⟩ = some (.slice oq (t.length + 1) cq) := (cell_of P2.out.hp 3).trans (by rw [hr]; rfl)
  obtain ⟨b, off, rfl, q0, q1, q2⟩ := hAQ 0 y rfl
  rw [Nat.zero_mul, Nat.add_zero] at q0 q1 q2
  have BE := hide (rbehind_any _ y t cq _ (hAQ.below b2) hcq (by omega))
  have hpos : decide (0 < ((t.length : Int) + 1)) = true := decide_eq_true (by omega)
  have hS2 : ((w.alloc (.cells #[.bool false, .bool false, .bool false, .int .i64 0, .int .i64 0, .int .i64 0, .int .i64 0] 64)).alloc (.cells #[.int .i64 y.g, .int .i64 y.c, .int .i64 y.v] 62)).heap.size = w.heap.size + 2 := by rw [World.size_alloc, World.size_alloc]
  clear h hc hr hAQ b1 b2 hm2
  unfold gv
  go_enter Try.func47, Try.ntmps47
  go_wp2_with fail
  generalize (w.alloc (.cells #[.bool false, .bool false, .bool false, .int .i64 0, .int .i64 0, .int .i64 0, .int .i64 0] 64)).alloc (.cells #[.int .i64 y.g, .int .i64 y.c, .int .i64 y.v] 62) = W2 at P2 Z2 BB M2 BE hS2 y3' ⊢
  refine BE.out.mono ?_
  rintro r w3 ⟨ob, d, rfl, o3, b3⟩
  have P3 := hide (P2.out.below b3)
  have Z3 := hide (heap_below Z2.out b3)
  have M3 := hide (heap_below M2.out b3)
  have B3 := hide (btr BB.out b3)
  have O3 := hide o3
  have hM1 : w.heap.size + 1 ≠ G := by omega
  have hM3 : G ≠ w.heap.size := by omega
  clear o3 b3 BE BB Z2 M2 P2 P1 y3 y3' y4 q0 q1 q2
  have m0 : w3.cell? ⟨w.heap.size + 1, 0, none⟩ = some (.int .i64 y.g) := cell_of M3.out 0
  have m1 : w3.cell? ⟨w.heap.size + 1, 1, none⟩ = some (.int .i64 y.c) := cell_of M3.out 1
  have m2 : w3.cell? ⟨w.heap.size + 1, 2, none⟩ = some (.int .i64 y.v) := cell_of M3.out 2
  have g3 : w3.cell? ⟨G, 3, none⟩ = some (.slice (some ⟨b, off, none⟩) st.rcv.length cq) := cell_of P3.out.hp 3
  have g5 : w3.cell? ⟨G, 5, none⟩ = some (.int .i64 (st.sent : Int)) := cell_of P3.out.hp 5
  have g6 : w3.cell? ⟨G, 6, none⟩ = some (.int .i64 (st.got : Int)) := cell_of P3.out.hp 6
  have gf3 := frozen_of P3.out.hp 3
  have gf5 := frozen_of P3.out.hp 5
  have gf6 := frozen_of P3.out.hp 6
  have z0 : w3.cell? ⟨w.heap.size, 0, none⟩ = some (.bool false) := cell_of Z3.out 0
  have zf0 := frozen_of Z3.out 0
  have z1 : w3.cell? ⟨w.heap.size, 1, none⟩ = some (.bool false) := cell_of Z3.out 1
  have zf1 := frozen_of Z3.out 1
  have z2 : w3.cell? ⟨w.heap.size, 2, none⟩ = some (.bool false) := cell_of Z3.out 2
  have zf2 := frozen_of Z3.out 2
  have z3 : w3.cell? ⟨w.heap.size, 3, none⟩ = some (.int .i64 0) := cell_of Z3.out 3
  have zf3 := frozen_of Z3.out 3
  have z4 : w3.cell? ⟨w.heap.size, 4, none⟩ = some (.int .i64 0) := cell_of Z3.out 4
  have zf4 := frozen_of Z3.out 4
  have z5 : w3.cell? ⟨w.heap.size, 5, none⟩ = some (.int .i64 0) := cell_of Z3.out 5
  have zf5 := frozen_of Z3.out 5
  have z6 : w3.cell? ⟨w.heap.size, 6, none⟩ = some (.int .i64 0) := cell_of Z3.out 6
  have zf6 := frozen_of Z3.out 6
  go_wp2_with fail
  have R1 := ((P3.out.newQ O3.out (fun k hk => by have := BDF.out k hk; omega) (by omega)).setSent (st.sent + 1) ((st.sent : Int) + 1) (by omega)).setGot (st.got + 1) ((st.got : Int) + 1) (by omega)
  have NN : Nw (Fw F (.slice ob t.length d)) F w := Fw.nw O3.out (by omega)
  have NZ : ¬ Fw F (.slice ob t.length d) w.heap.size := by
    rintro (q | q)
    · exact NF.out q
    · have := (own_blk O3.out _ q).1
      omega
  exact bodyPost_ret (results_row2 Try.results47 _ _ _ _ _ rfl rfl (loadVar_rgot (got_set ((Below.heap_setCell _ _ _ _ (Ne.symm hM3)).trans ((Below.heap_setCell _ _ _ _ (Ne.symm hM3)).trans ((Below.heap_setCell _ _ _ _ (Ne.symm hM3)).trans Z3.out))) _ _ _ _ _ _ _) rfl)) rfl ⟨rfl, rfin7 ((((KF.of (F := F) B3.out).set FG.out 3 _).set FG.out 5 _).set FG.out 6 _) NN R1.rr (Nat.le_refl _) NZ _ _ _ _ _ _ _⟩
end Rp
end Go.Proofs.Ytdcmlimglajpkaa
