/- Package pipe: Send, over this seat's program. -/
import Derived.Test.YtdcmlimglajpkaaXd
namespace Go.Proofs.Ytdcmlimglajpkaa
open Go.ChangeShapes Go.WideShapes Go.ChangeAt Go.RowKit
namespace Pi
open Ba Pe

set_option maxHeartbeats 3200000 in
theorem send_woke (B : Nat) (F : Nat → Prop) (st : St) (x : Int) (y : Wt) (t : List Wt) (w : World) (h : Pp w B F st) (hc : st.closed = false) (hr : st.rcv = y :: t) (hs : st.sent < 1000000000) (hg : st.got < 1000000000) :
    Calls Try.prog 19 #[.pointer (some ⟨B, 0, none⟩), .int .i64 x] w fun r w' => r = .returned (.tuple #[gv ⟨true, false, true, 0, y⟩, .int .i64 0]) ∧ KF F w w' ∧ ∃ F', Nw F' F w ∧ Pp w' B F' { st with rcv := t, sent := st.sent + 1, got := st.got + 1 } := by
  have hB := h.lt
  have NF : Hid (¬ F w.heap.size) := fun e => Nat.lt_irrefl _ (h.bd _ e)
  obtain ⟨R, S, Q, FS, FQ, h⟩ := h
  have P1 := hide (h.below (below_alloc w (.cells #[.bool false, .bool false, .bool false, .int .i64 0, .int .i64 0, .int .i64 0, .int .i64 0] 51)))
  have Z1 := hide (heap_new w (.cells #[.bool false, .bool false, .bool false, .int .i64 0, .int .i64 0, .int .i64 0, .int .i64 0] 51))
  have y5 : (w.alloc (.cells #[.bool false, .bool false, .bool false, .int .i64 0, .int .i64 0, .int .i64 0, .int .i64 0] 51)).cell? ⟨B, 5, none⟩ = some (.bool false) := (cell_of P1.out.hp 5).trans (by rw [hc]; rfl)
  have y2 : (w.alloc (.cells #[.bool false, .bool false, .bool false, .int .i64 0, .int .i64 0, .int .i64 0, .int .i64 0] 51)).cell? ⟨B, 2, none⟩ = some (.pointer (some ⟨Q, 0, none⟩)) := cell_of P1.out.hp 2
  have TK := hide (take_any Q FQ st.rcv _ P1.out.pq)
  have FB := hide h.fb
  rw [hr] at TK
  have HR := hide hr
  clear h hc hr
  unfold gv
  go_enter Try.func19, Try.ntmps19
  go_wp2_with fail
  refine TK.out.mono ?_
  rintro r w2 ⟨rfl, k2, p2⟩
  obtain ⟨P2, K2, N2⟩ := P1.out.rcv k2 (Nw.refl _ _) p2
  have PP2 := hide (P2.below (below_alloc w2 (.cells #[.int .i64 y.g, .int .i64 y.c, .int .i64 y.v] 49)))
  have M3 := hide (heap_new w2 (.cells #[.int .i64 y.g, .int .i64 y.c, .int .i64 y.v] 49))
  have Z3 := hide (heap_below (k2.heap Z1.out (fun e => NF.out (P1.out.fq _ e))) (below_alloc w2 (.cells #[.int .i64 y.g, .int .i64 y.c, .int .i64 y.v] 49)))
  have KK := hide (((KF.of (F := F) (below_alloc w (.cells #[.bool false, .bool false, .bool false, .int .i64 0, .int .i64 0, .int .i64 0, .int .i64 0] 51))).trans K2 (Nw.refl _ _)).then (below_alloc w2 (.cells #[.int .i64 y.g, .int .i64 y.c, .int .i64 y.v] 49)))
  have N3 : Hid (Nw (fun x => F x ∨ FQ x) F w) := fun k hk => hk.elim .inl (fun q => .inl (P1.out.fq k q))
  have NF3 : Hid (¬ (F w.heap.size ∨ FQ w.heap.size)) := fun e => e.elim NF.out (fun q => NF.out (P1.out.fq _ q))
  have hz2 : w.heap.size < w2.heap.size := by have := k2.size; rw [World.size_alloc] at this; omega
  have hM1 : w2.heap.size ≠ B := by omega
  have hM2 : w2.heap.size ≠ w.heap.size := by omega
  have hM3 : B ≠ w.heap.size := by omega
  clear k2 p2 P2 K2 N2 TK P1 Z1 y5 y2
  unfold wv
  simp only [fw, fo, List.isEmpty_cons, Bool.not_false]
  have q0 : (w2.alloc (.cells #[.int .i64 y.g, .int .i64 y.c, .int .i64 y.v] 49)).cell? ⟨w2.heap.size, 0, none⟩ = some (.int .i64 y.g) := cell_of M3.out 0
  have q1 : (w2.alloc (.cells #[.int .i64 y.g, .int .i64 y.c, .int .i64 y.v] 49)).cell? ⟨w2.heap.size, 1, none⟩ = some (.int .i64 y.c) := cell_of M3.out 1
  have q2 : (w2.alloc (.cells #[.int .i64 y.g, .int .i64 y.c, .int .i64 y.v] 49)).cell? ⟨w2.heap.size, 2, none⟩ = some (.int .i64 y.v) := cell_of M3.out 2
  have z0 : (w2.alloc (.cells #[.int .i64 y.g, .int .i64 y.c, .int .i64 y.v] 49)).cell? ⟨w.heap.size, 0, none⟩ = some (.bool false) := cell_of Z3.out 0
  have zf0 := frozen_of Z3.out 0
  have z1 : (w2.alloc (.cells #[.int .i64 y.g, .int .i64 y.c, .int .i64 y.v] 49)).cell? ⟨w.heap.size, 1, none⟩ = some (.bool false) := cell_of Z3.out 1
  have zf1 := frozen_of Z3.out 1
  have z2 : (w2.alloc (.cells #[.int .i64 y.g, .int .i64 y.c, .int .i64 y.v] 49)).cell? ⟨w.heap.size, 2, none⟩ = some (.bool false) := cell_of Z3.out 2
  have zf2 := frozen_of Z3.out 2
  have z3 : (w2.alloc (.cells #[.int .i64 y.g, .int .i64 y.c, .int .i64 y.v] 49)).cell? ⟨w.heap.size, 3, none⟩ = some (.int .i64 0) := cell_of Z3.out 3
  have zf3 := frozen_of Z3.out 3
  have z4 : (w2.alloc (.cells #[.int .i64 y.g, .int .i64 y.c, .int .i64 y.v] 49)).cell? ⟨w.heap.size, 4, none⟩ = some (.int .i64 0) := cell_of Z3.out 4
  have zf4 := frozen_of Z3.out 4
  have z5 : (w2.alloc (.cells #[.int .i64 y.g, .int .i64 y.c, .int .i64 y.v] 49)).cell? ⟨w.heap.size, 5, none⟩ = some (.int .i64 0) := cell_of Z3.out 5
  have zf5 := frozen_of Z3.out 5
  have z6 : (w2.alloc (.cells #[.int .i64 y.g, .int .i64 y.c, .int .i64 y.v] 49)).cell? ⟨w.heap.size, 6, none⟩ = some (.int .i64 0) := cell_of Z3.out 6
  have zf6 := frozen_of Z3.out 6
  have p3 : (w2.alloc (.cells #[.int .i64 y.g, .int .i64 y.c, .int .i64 y.v] 49)).cell? ⟨B, 3, none⟩ = some (.int .i64 (st.sent : Int)) := cell_of PP2.out.hp 3
  have p4 : (w2.alloc (.cells #[.int .i64 y.g, .int .i64 y.c, .int .i64 y.v] 49)).cell? ⟨B, 4, none⟩ = some (.int .i64 (st.got : Int)) := cell_of PP2.out.hp 4
  have pf3 := frozen_of PP2.out.hp 3
  have pf4 := frozen_of PP2.out.hp 4
  go_wp2_with fail
  exact bodyPost_ret (results_row2 Try.results19 _ _ _ _ _ rfl rfl (loadVar_got (got_set ((Below.heap_setCell _ _ _ _ (Ne.symm hM3)).trans ((Below.heap_setCell _ _ _ _ (Ne.symm hM3)).trans Z3.out)) _ _ _ _ _ _ _) rfl)) rfl ⟨rfl, fin7 ((KK.out.set FB.out 3 _).set FB.out 4 _) N3.out ((PP2.out.setSent (st.sent + 1) _ (by omega)).setGot (st.got + 1) _ (by omega)).pp (Nat.le_refl _) NF3.out _ _ _ _ _ _ _⟩
set_option maxHeartbeats 3200000 in
theorem send_room (B : Nat) (F : Nat → Prop) (st : St) (x : Int) (w : World) (h : Pp w B F st) (hc : st.closed = false) (hr : st.rcv = []) (hl : st.buf.length < st.size) (hs : st.sent < 1000000000) :
    Calls Try.prog 19 #[.pointer (some ⟨B, 0, none⟩), .int .i64 x] w fun r w' => r = .returned (.tuple #[gv ⟨true, false, false, 0, ⟨0, 0, 0⟩⟩, .int .i64 0]) ∧ KF F w w' ∧ ∃ F', Nw F' F w ∧ Pp w' B F' { st with buf := st.buf ++ [x], sent := st.sent + 1 } := by
  have hB := h.lt
  have NF : Hid (¬ F w.heap.size) := fun e => Nat.lt_irrefl _ (h.bd _ e)
  obtain ⟨R, S, Q, FS, FQ, h⟩ := h
  have P1 := hide (h.below (below_alloc w (.cells #[.bool false, .bool false, .bool false, .int .i64 0, .int .i64 0, .int .i64 0, .int .i64 0] 51)))
  have Z1 := hide (heap_new w (.cells #[.bool false, .bool false, .bool false, .int .i64 0, .int .i64 0, .int .i64 0, .int .i64 0] 51))
  have y5 : (w.alloc (.cells #[.bool false, .bool false, .bool false, .int .i64 0, .int .i64 0, .int .i64 0, .int .i64 0] 51)).cell? ⟨B, 5, none⟩ = some (.bool false) := (cell_of P1.out.hp 5).trans (by rw [hc]; rfl)
  have y2 : (w.alloc (.cells #[.bool false, .bool false, .bool false, .int .i64 0, .int .i64 0, .int .i64 0, .int .i64 0] 51)).cell? ⟨B, 2, none⟩ = some (.pointer (some ⟨Q, 0, none⟩)) := cell_of P1.out.hp 2
  have TK := hide (take_none Q _ (by have := P1.out.pq.pw; rw [hr] at this; exact this))
  have FB := hide h.fb
  have FR := hide h.fr
  clear h hc hr
  unfold gv
  go_enter Try.func19, Try.ntmps19
  go_wp2_with fail
  refine TK.out.mono ?_
  rintro r w2 ⟨rfl, b2⟩
  have bb := btr b2 (below_alloc w2 (.cells #[.int .i64 0, .int .i64 0, .int .i64 0] 49))
  have P3 := hide (P1.out.below bb)
  have Z3 := hide (heap_below Z1.out bb)
  have K3 := hide (KF.of (F := F) (btr (below_alloc w (.cells #[.bool false, .bool false, .bool false, .int .i64 0, .int .i64 0, .int .i64 0, .int .i64 0] 51)) bb))
  have y0 : (w2.alloc (.cells #[.int .i64 0, .int .i64 0, .int .i64 0] 49)).cell? ⟨B, 0, none⟩ = some (.pointer (some ⟨R, 0, none⟩)) := cell_of P3.out.hp 0
  have PU := hide (Rn.push_ok R st.size st.buf x _ P3.out.rg hl)
  have hM3 : B ≠ w.heap.size := by omega
  clear b2 bb TK P1 Z1 y5 y2
  unfold wv
  go_wp2_with fail
  generalize w2.alloc (.cells #[.int .i64 0, .int .i64 0, .int .i64 0] 49) = W3 at P3 Z3 K3 PU y0 ⊢
  refine PU.out.mono ?_
  rintro r w4 ⟨rfl, r4, k4⟩
  have P4 := hide (P3.out.ring k4 r4)
  have Z4 := hide (k4.heap Z3.out (fun e => NF.out (e ▸ FR.out)))
  have K4 := hide (K3.out.trans (KF.kb (F := F) k4 FR.out) (Nw.refl _ _))
  clear r4 k4 y0
  have z0 : w4.cell? ⟨w.heap.size, 0, none⟩ = some (.bool false) := cell_of Z4.out 0
  have zf0 := frozen_of Z4.out 0
  have z1 : w4.cell? ⟨w.heap.size, 1, none⟩ = some (.bool false) := cell_of Z4.out 1
  have zf1 := frozen_of Z4.out 1
  have z2 : w4.cell? ⟨w.heap.size, 2, none⟩ = some (.bool false) := cell_of Z4.out 2
  have zf2 := frozen_of Z4.out 2
  have z3 : w4.cell? ⟨w.heap.size, 3, none⟩ = some (.int .i64 0) := cell_of Z4.out 3
  have zf3 := frozen_of Z4.out 3
  have z4 : w4.cell? ⟨w.heap.size, 4, none⟩ = some (.int .i64 0) := cell_of Z4.out 4
  have zf4 := frozen_of Z4.out 4
  have z5 : w4.cell? ⟨w.heap.size, 5, none⟩ = some (.int .i64 0) := cell_of Z4.out 5
  have zf5 := frozen_of Z4.out 5
  have z6 : w4.cell? ⟨w.heap.size, 6, none⟩ = some (.int .i64 0) := cell_of Z4.out 6
  have zf6 := frozen_of Z4.out 6
  have p3 : w4.cell? ⟨B, 3, none⟩ = some (.int .i64 (st.sent : Int)) := cell_of P4.out.hp 3
  have pf3 := frozen_of P4.out.hp 3
  go_wp2_with fail
  exact bodyPost_ret (results_row2 Try.results19 _ _ _ _ _ rfl rfl (loadVar_got (got_set ((Below.heap_setCell _ _ _ _ (Ne.symm hM3)).trans Z4.out) _ _ _ _ _ _ _) rfl)) rfl ⟨rfl, fin7 (K4.out.set FB.out 3 _) (Nw.refl _ _) (P4.out.setSent (st.sent + 1) _ (by omega)).pp (Nat.le_refl _) NF.out _ _ _ _ _ _ _⟩
set_option maxHeartbeats 3200000 in
theorem send_full (B : Nat) (F : Nat → Prop) (st : St) (x : Int) (w : World) (h : Pp w B F st) (hc : st.closed = false) (hr : st.rcv = []) (hl : st.buf.length = st.size) :
    Calls Try.prog 19 #[.pointer (some ⟨B, 0, none⟩), .int .i64 x] w fun r w' => r = .returned (.tuple #[gv gz, .int .i64 0]) ∧ KF F w w' ∧ ∃ F', Nw F' F w ∧ Pp w' B F' st := by
  have hB := h.lt
  have NF : Hid (¬ F w.heap.size) := fun e => Nat.lt_irrefl _ (h.bd _ e)
  obtain ⟨R, S, Q, FS, FQ, h⟩ := h
  have P1 := hide (h.below (below_alloc w (.cells #[.bool false, .bool false, .bool false, .int .i64 0, .int .i64 0, .int .i64 0, .int .i64 0] 51)))
  have Z1 := hide (heap_new w (.cells #[.bool false, .bool false, .bool false, .int .i64 0, .int .i64 0, .int .i64 0, .int .i64 0] 51))
  have y5 : (w.alloc (.cells #[.bool false, .bool false, .bool false, .int .i64 0, .int .i64 0, .int .i64 0, .int .i64 0] 51)).cell? ⟨B, 5, none⟩ = some (.bool false) := (cell_of P1.out.hp 5).trans (by rw [hc]; rfl)
  have y2 : (w.alloc (.cells #[.bool false, .bool false, .bool false, .int .i64 0, .int .i64 0, .int .i64 0, .int .i64 0] 51)).cell? ⟨B, 2, none⟩ = some (.pointer (some ⟨Q, 0, none⟩)) := cell_of P1.out.hp 2
  have TK := hide (take_none Q _ (by have := P1.out.pq.pw; rw [hr] at this; exact this))
  clear h hc hr
  unfold gv gz
  go_enter Try.func19, Try.ntmps19
  go_wp2_with fail
  refine TK.out.mono ?_
  rintro r w2 ⟨rfl, b2⟩
  have bb := btr b2 (below_alloc w2 (.cells #[.int .i64 0, .int .i64 0, .int .i64 0] 49))
  have P3 := hide (P1.out.below bb)
  have Z3 := hide (heap_below Z1.out bb)
  have K3 := hide (KF.of (F := F) (btr (below_alloc w (.cells #[.bool false, .bool false, .bool false, .int .i64 0, .int .i64 0, .int .i64 0, .int .i64 0] 51)) bb))
  have y0 : (w2.alloc (.cells #[.int .i64 0, .int .i64 0, .int .i64 0] 49)).cell? ⟨B, 0, none⟩ = some (.pointer (some ⟨R, 0, none⟩)) := cell_of P3.out.hp 0
  have PU := hide (Rn.push_full R st.size st.buf x _ P3.out.rg hl)
  clear b2 bb TK P1 Z1 y5 y2
  unfold wv
  go_wp2_with fail
  generalize w2.alloc (.cells #[.int .i64 0, .int .i64 0, .int .i64 0] 49) = W3 at P3 Z3 K3 PU y0 ⊢
  refine PU.out.mono ?_
  rintro r w4 ⟨rfl, rfl⟩
  have Z4 := Z3
  have z0 : w4.cell? ⟨w.heap.size, 0, none⟩ = some (.bool false) := cell_of Z4.out 0
  have zf0 := frozen_of Z4.out 0
  have z1 : w4.cell? ⟨w.heap.size, 1, none⟩ = some (.bool false) := cell_of Z4.out 1
  have zf1 := frozen_of Z4.out 1
  have z2 : w4.cell? ⟨w.heap.size, 2, none⟩ = some (.bool false) := cell_of Z4.out 2
  have zf2 := frozen_of Z4.out 2
  have z3 : w4.cell? ⟨w.heap.size, 3, none⟩ = some (.int .i64 0) := cell_of Z4.out 3
  have zf3 := frozen_of Z4.out 3
  have z4 : w4.cell? ⟨w.heap.size, 4, none⟩ = some (.int .i64 0) := cell_of Z4.out 4
  have zf4 := frozen_of Z4.out 4
  have z5 : w4.cell? ⟨w.heap.size, 5, none⟩ = some (.int .i64 0) := cell_of Z4.out 5
  have zf5 := frozen_of Z4.out 5
  have z6 : w4.cell? ⟨w.heap.size, 6, none⟩ = some (.int .i64 0) := cell_of Z4.out 6
  have zf6 := frozen_of Z4.out 6
  go_wp2_with fail
  exact bodyPost_ret (results_row2 Try.results19 _ _ _ _ _ rfl rfl (loadVar_got (got_set Z3.out _ _ _ _ _ _ _) rfl)) rfl ⟨rfl, fin7 K3.out (Nw.refl _ _) P3.out.pp (Nat.le_refl _) NF.out _ _ _ _ _ _ _⟩
/-- Send, of whatever channel -/
theorem send_any (B : Nat) (F : Nat → Prop) (st : St) (x : Int) (w : World) (h : Pp w B F st) (hs : st.sent < 1000000000) (hg : st.got < 1000000000) :
    Calls Try.prog 19 #[.pointer (some ⟨B, 0, none⟩), .int .i64 x] w fun r w' => r = .returned (.tuple #[gv (sendG st), .int .i64 (sendE st)]) ∧ KF F w w' ∧ ∃ F', Nw F' F w ∧ Pp w' B F' (sendS st x) := by
  have hle : st.buf.length ≤ st.size := by
    obtain ⟨R, S, Q, FS, FQ, h⟩ := h
    exact h.rg.le
  rcases Bool.eq_false_or_eq_true st.closed with hc | hc
  · rw [show sendG st = gz by simp [sendG, hc], show sendE st = 90 by simp [sendE, hc], show sendS st x = st by simp [sendS, hc]]
    exact send_closed B F st x w h hc
  · rw [show sendE st = 0 by simp [sendE, hc]]
    cases hr : st.rcv with
    | cons y t =>
      rw [show sendG st = ⟨true, false, true, 0, y⟩ by simp [sendG, hc, hr], show sendS st x = { st with rcv := t, sent := st.sent + 1, got := st.got + 1 } by simp [sendS, hc, hr]]
      exact send_woke B F st x y t w h hc hr hs hg
    | nil =>
      by_cases hl : st.buf.length < st.size
      · rw [show sendG st = ⟨true, false, false, 0, ⟨0, 0, 0⟩⟩ by simp [sendG, hc, hr, hl], show sendS st x = { st with buf := st.buf ++ [x], sent := st.sent + 1 } by simp [sendS, hc, hr, hl]]
        exact send_room B F st x w h hc hr hl hs
      · rw [show sendG st = gz by simp [sendG, hc, hr, hl], show sendS st x = st by simp [sendS, hc, hr, hl]]
        exact send_full B F st x w h hc hr (by omega)
end Pi
end Go.Proofs.Ytdcmlimglajpkaa
