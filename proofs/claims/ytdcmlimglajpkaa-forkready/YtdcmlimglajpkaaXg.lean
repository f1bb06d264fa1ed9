/- Package pipe: Recv, over this seat's program. -/
import Derived.Test.YtdcmlimglajpkaaXf
namespace Go.Proofs.Ytdcmlimglajpkaa
open Go.ChangeShapes Go.WideShapes Go.ChangeAt Go.RowKit
namespace Pi
open Ba Pe

theorem results_row1 {fn : Func} {p : Tmp} {ty : TypeId} (h : fn.results = #[.cell p ty]) (tmps : Array Value) (w : World) (g : Nat) (cs : Array Value)
    (hp : tmps.getD p undef = .pointer (some ⟨g, 0, none⟩)) (hl : (loadVar ty ⟨g, 0, none⟩).run Try.prog w = .ok (.agg cs) w) :
    (results fn tmps).run Try.prog w = .ok (.agg cs) w := by
  have hp' : tmps[p]?.getD undef = .pointer (some ⟨g, 0, none⟩) := by simpa using hp
  simp [results, h, hp', asAddr, hl]
theorem recv_nil (w : World) :
    Calls Try.prog 42 #[.pointer none] w fun r w' => r = .returned (gv gz) ∧ Below w.heap.size w w' := by
  go_enter Try.func42, Try.ntmps42
  go_wp2_with fail
  first
    | exact bodyPost_ret (results_row1 Try.results42 _ _ _ _ rfl (loadVar_got (heap_new _ _) rfl)) rfl ⟨rfl, below_alloc _ _⟩
    | exact bodyPost_ret (results_row1 Try.results42 _ _ _ _ rfl (loadVar_got (got_set (heap_new _ _) _ _ _ _ _ _ _) rfl)) rfl ⟨rfl, (((((((below_alloc _ _).setCell (Nat.le_refl _) _).setCell (Nat.le_refl _) _).setCell (Nat.le_refl _) _).setCell (Nat.le_refl _) _).setCell (Nat.le_refl _) _).setCell (Nat.le_refl _) _).setCell (Nat.le_refl _) _⟩
set_option maxHeartbeats 3200000 in
theorem recv_none (B : Nat) (F : Nat → Prop) (st : St) (w : World) (h : Pp w B F st) (hb : st.buf = []) (hs : st.snd = []) :
    Calls Try.prog 42 #[.pointer (some ⟨B, 0, none⟩)] w fun r w' => r = .returned (gv ⟨st.closed, false, false, 0, ⟨0, 0, 0⟩⟩) ∧ KF F w w' ∧ ∃ F', Nw F' F w ∧ Pp w' B F' st := by
  have hB := h.lt
  have NF : Hid (¬ F w.heap.size) := fun e => Nat.lt_irrefl _ (h.bd _ e)
  obtain ⟨R, S, Q, FS, FQ, h⟩ := h
  have P1 := hide (h.below (below_alloc w (.cells #[.bool false, .bool false, .bool false, .int .i64 0, .int .i64 0, .int .i64 0, .int .i64 0] 51)))
  have Z1 := hide (heap_new w (.cells #[.bool false, .bool false, .bool false, .int .i64 0, .int .i64 0, .int .i64 0, .int .i64 0] 51))
  have y0 : (w.alloc (.cells #[.bool false, .bool false, .bool false, .int .i64 0, .int .i64 0, .int .i64 0, .int .i64 0] 51)).cell? ⟨B, 0, none⟩ = some (.pointer (some ⟨R, 0, none⟩)) := cell_of P1.out.hp 0
  have y1 : (w.alloc (.cells #[.bool false, .bool false, .bool false, .int .i64 0, .int .i64 0, .int .i64 0, .int .i64 0] 51)).cell? ⟨B, 1, none⟩ = some (.pointer (some ⟨S, 0, none⟩)) := cell_of P1.out.hp 1
  have y5 : (w.alloc (.cells #[.bool false, .bool false, .bool false, .int .i64 0, .int .i64 0, .int .i64 0, .int .i64 0] 51)).cell? ⟨B, 5, none⟩ = some (.bool st.closed) := cell_of P1.out.hp 5
  have LR := hide (Rn.len_any R st.size [] _ (by have := P1.out.rg; rw [hb] at this; exact this))
  have LS := hide (Pe.len_any S [] _ (by have := P1.out.ps.pw; rw [hs] at this; exact this))
  have H := hide h
  clear h hb hs
  unfold gv
  go_enter Try.func42, Try.ntmps42
  go_wp2_with fail
  refine LR.out.mono ?_
  rintro r w2 ⟨rfl, rfl⟩
  go_wp2_with fail
  refine LS.out.mono ?_
  rintro r w2 ⟨rfl, rfl⟩
  go_wp2_with fail
  first
    | exact bodyPost_ret (results_row1 Try.results42 _ _ _ _ rfl (loadVar_got (heap_new _ _) rfl)) rfl ⟨rfl, KF.of (below_alloc _ _), F, Nw.refl _ _, (H.out.below (below_alloc _ _)).pp⟩
    | exact bodyPost_ret (results_row1 Try.results42 _ _ _ _ rfl (loadVar_got (got_set Z1.out _ _ _ _ _ _ _) rfl)) rfl ⟨rfl, fin7 (KF.of (below_alloc _ _)) (Nw.refl _ _) P1.out.pp (Nat.le_refl _) NF.out _ _ _ _ _ _ _⟩
set_option maxRecDepth 100000 in
set_option maxHeartbeats 6400000 in
theorem recv_buf (B : Nat) (F : Nat → Prop) (st : St) (x : Int) (b : List Int) (w : World) (h : Pp w B F st) (hb : st.buf = x :: b) (hs : st.snd = []) (hg : st.got < 1000000000) :
    Calls Try.prog 42 #[.pointer (some ⟨B, 0, none⟩)] w fun r w' => r = .returned (gv ⟨true, true, false, x, ⟨0, 0, 0⟩⟩) ∧ KF F w w' ∧ ∃ F', Nw F' F w ∧ Pp w' B F' { st with buf := b, got := st.got + 1 } := by
  have hB := h.lt
  have NF : Hid (¬ F w.heap.size) := fun e => Nat.lt_irrefl _ (h.bd _ e)
  obtain ⟨R, S, Q, FS, FQ, h⟩ := h
  have P1 := hide (h.below (below_alloc w (.cells #[.bool false, .bool false, .bool false, .int .i64 0, .int .i64 0, .int .i64 0, .int .i64 0] 51)))
  have Z1 := hide (heap_new w (.cells #[.bool false, .bool false, .bool false, .int .i64 0, .int .i64 0, .int .i64 0, .int .i64 0] 51))
  have y0 : (w.alloc (.cells #[.bool false, .bool false, .bool false, .int .i64 0, .int .i64 0, .int .i64 0, .int .i64 0] 51)).cell? ⟨B, 0, none⟩ = some (.pointer (some ⟨R, 0, none⟩)) := cell_of P1.out.hp 0
  have y1 : (w.alloc (.cells #[.bool false, .bool false, .bool false, .int .i64 0, .int .i64 0, .int .i64 0, .int .i64 0] 51)).cell? ⟨B, 1, none⟩ = some (.pointer (some ⟨S, 0, none⟩)) := cell_of P1.out.hp 1
  have LR := hide (Rn.len_any R st.size (x :: b) _ (by have := P1.out.rg; rw [hb] at this; exact this))
  have TK := hide (take_any S FS ([]) _ (by have := P1.out.ps; rw [hs] at this; exact this))
  have FB := hide h.fb
  have HB := hide hb
  have HS := hide hs
  clear h hb hs
  unfold gv
  have hlen : (((x :: b).length : Int) == 0) = false := by rw [beq_eq_false_iff_ne, List.length_cons]; omega
  generalize hN : (x :: b).length = N at LR hlen
  clear hN
  go_enter Try.func42, Try.ntmps42
  go_wp2_with fail
  refine LR.out.mono ?_
  rintro r w1 ⟨rfl, rfl⟩
  go_wp2_with fail
  refine TK.out.mono ?_
  rintro r w2 ⟨rfl, k2, p2⟩
  obtain ⟨P2, K2, N2⟩ := P1.out.snd k2 (Nw.refl _ _) p2
  have P3 := hide (P2.below (below_alloc w2 (.cells #[.int .i64 (⟨0, 0, 0⟩ : Wt).g, .int .i64 (⟨0, 0, 0⟩ : Wt).c, .int .i64 (⟨0, 0, 0⟩ : Wt).v] 49)))
  have M3 := hide (heap_new w2 (.cells #[.int .i64 (⟨0, 0, 0⟩ : Wt).g, .int .i64 (⟨0, 0, 0⟩ : Wt).c, .int .i64 (⟨0, 0, 0⟩ : Wt).v] 49))
  have Z3 := hide (heap_below (k2.heap Z1.out (fun e => NF.out (P1.out.fs _ e))) (below_alloc w2 (.cells #[.int .i64 (⟨0, 0, 0⟩ : Wt).g, .int .i64 (⟨0, 0, 0⟩ : Wt).c, .int .i64 (⟨0, 0, 0⟩ : Wt).v] 49)))
  have K3 := hide (((KF.of (F := F) (below_alloc w (.cells #[.bool false, .bool false, .bool false, .int .i64 0, .int .i64 0, .int .i64 0, .int .i64 0] 51))).trans K2 (Nw.refl _ _)).then (below_alloc w2 (.cells #[.int .i64 (⟨0, 0, 0⟩ : Wt).g, .int .i64 (⟨0, 0, 0⟩ : Wt).c, .int .i64 (⟨0, 0, 0⟩ : Wt).v] 49)))
  have N3 : Hid (Nw (fun x => F x ∨ FS x) F w) := fun k hk => hk.elim .inl (fun q => .inl (P1.out.fs k q))
  have NF3 : Hid (¬ (F w.heap.size ∨ FS w.heap.size)) := fun e => e.elim NF.out (fun q => NF.out (P1.out.fs _ q))
  have NM3 : Hid (¬ (F w2.heap.size ∨ FS w2.heap.size)) := fun e => Nat.lt_irrefl _ (P2.bd _ e)
  have hz2 : w.heap.size < w2.heap.size := by have := k2.size; rw [World.size_alloc] at this; omega
  have hM1 : w2.heap.size ≠ B := by omega
  have hM2 : w2.heap.size ≠ w.heap.size := by omega
  have hM3 : B ≠ w.heap.size := by omega
  clear k2 p2 P2 K2 N2 TK P1 Z1 y0 y1
  unfold wv
  simp only [fw, fo, List.isEmpty_nil, Bool.not_true]
  have p3 : (w2.alloc (.cells #[.int .i64 (⟨0, 0, 0⟩ : Wt).g, .int .i64 (⟨0, 0, 0⟩ : Wt).c, .int .i64 (⟨0, 0, 0⟩ : Wt).v] 49)).cell? ⟨B, 3, none⟩ = some (.int .i64 (st.sent : Int)) := cell_of P3.out.hp 3
  have p4 : (w2.alloc (.cells #[.int .i64 (⟨0, 0, 0⟩ : Wt).g, .int .i64 (⟨0, 0, 0⟩ : Wt).c, .int .i64 (⟨0, 0, 0⟩ : Wt).v] 49)).cell? ⟨B, 4, none⟩ = some (.int .i64 (st.got : Int)) := cell_of P3.out.hp 4
  have pf3 := frozen_of P3.out.hp 3
  have pf4 := frozen_of P3.out.hp 4
  have P4 := hide (P3.out.setGot (st.got + 1) ((st.got : Int) + 1) (by omega))
  have M4 := hide ((Below.heap_setCell (w2.alloc (.cells #[.int .i64 (⟨0, 0, 0⟩ : Wt).g, .int .i64 (⟨0, 0, 0⟩ : Wt).c, .int .i64 (⟨0, 0, 0⟩ : Wt).v] 49)) ⟨B, 4, none⟩ (.int .i64 ((st.got : Int) + 1)) _ hM1).trans M3.out)
  have Z4 := hide ((Below.heap_setCell (w2.alloc (.cells #[.int .i64 (⟨0, 0, 0⟩ : Wt).g, .int .i64 (⟨0, 0, 0⟩ : Wt).c, .int .i64 (⟨0, 0, 0⟩ : Wt).v] 49)) ⟨B, 4, none⟩ (.int .i64 ((st.got : Int) + 1)) _ (Ne.symm hM3)).trans Z3.out)
  have K4 := hide (K3.out.set FB.out 4 (.int .i64 ((st.got : Int) + 1)))
  go_wp2_with fail
  generalize (w2.alloc (.cells #[.int .i64 (⟨0, 0, 0⟩ : Wt).g, .int .i64 (⟨0, 0, 0⟩ : Wt).c, .int .i64 (⟨0, 0, 0⟩ : Wt).v] 49)).setCell ⟨B, 4, none⟩ (.int .i64 ((st.got : Int) + 1)) = W4 at P4 M4 Z4 K4 ⊢
  generalize w2.heap.size = M at M4 NM3 hM1 hM2 ⊢
  clear p3 p4 pf3 pf4 P3 M3 Z3 K3
  have m0 : W4.cell? ⟨M, 0, none⟩ = some (.int .i64 (⟨0, 0, 0⟩ : Wt).g) := cell_of M4.out 0
  have m1 : W4.cell? ⟨M, 1, none⟩ = some (.int .i64 (⟨0, 0, 0⟩ : Wt).c) := cell_of M4.out 1
  have m2 : W4.cell? ⟨M, 2, none⟩ = some (.int .i64 (⟨0, 0, 0⟩ : Wt).v) := cell_of M4.out 2
  have OU := hide (out_pop B _ _ ⟨0, 0, 0⟩ x b W4.drew (P4.out.below (bdrew1 _)).pp HB.out)
  unfold wv at OU
  go_region_with (go_at_call 62; refine OU.out.mono ?_; rintro r w5 ⟨rfl, k5, p5⟩; have M5 := hide (k5.heap (heap_below M4.out (bdrew1 _)) NM3.out); have Z5 := hide (k5.heap (heap_below Z4.out (bdrew1 _)) NF3.out); have n0 := (cell_of M5.out 0).trans (show _ = some (.int .i64 (⟨0, 0, 0⟩ : Wt).g) from rfl); have n1 := (cell_of M5.out 1).trans (show _ = some (.int .i64 (⟨0, 0, 0⟩ : Wt).c) from rfl); have n2 := (cell_of M5.out 2).trans (show _ = some (.int .i64 (⟨0, 0, 0⟩ : Wt).v) from rfl); have z0 := (cell_of Z5.out 0).trans (show _ = some (Value.bool false) from rfl); have zf0 := frozen_of Z5.out 0; have z1 := (cell_of Z5.out 1).trans (show _ = some (Value.bool false) from rfl); have zf1 := frozen_of Z5.out 1; have z2 := (cell_of Z5.out 2).trans (show _ = some (Value.bool false) from rfl); have zf2 := frozen_of Z5.out 2; have z3 := (cell_of Z5.out 3).trans (show _ = some (.int .i64 0) from rfl); have zf3 := frozen_of Z5.out 3; have z4 := (cell_of Z5.out 4).trans (show _ = some (.int .i64 0) from rfl); have zf4 := frozen_of Z5.out 4; have z5 := (cell_of Z5.out 5).trans (show _ = some (.int .i64 0) from rfl); have zf5 := frozen_of Z5.out 5; have z6 := (cell_of Z5.out 6).trans (show _ = some (.int .i64 0) from rfl); have zf6 := frozen_of Z5.out 6)
  all_goals
    go_wp2_with fail
    exact bodyPost_ret (results_row1 Try.results42 _ _ _ _ rfl (loadVar_got (got_set Z5.out _ _ _ _ _ _ _) rfl)) rfl ⟨rfl, fin7 ((K4.out.then (bdrew1 _)).trans k5 N3.out) N3.out (by have q := p5; rw [show ([] : List Wt).tail = st.snd by rw [HS.out]; rfl] at q; exact q) (Nat.le_refl _) NF3.out _ _ _ _ _ _ _⟩
set_option maxRecDepth 100000 in
set_option maxHeartbeats 6400000 in
theorem recv_both (B : Nat) (F : Nat → Prop) (st : St) (x : Int) (b : List Int) (y : Wt) (t : List Wt) (w : World) (h : Pp w B F st) (hb : st.buf = x :: b) (hs : st.snd = y :: t) (hn : st.sent < 1000000000) (hg : st.got < 1000000000) :
    Calls Try.prog 42 #[.pointer (some ⟨B, 0, none⟩)] w fun r w' => r = .returned (gv ⟨true, true, true, x, y⟩) ∧ KF F w w' ∧ ∃ F', Nw F' F w ∧ Pp w' B F' { st with buf := b ++ [y.v], snd := t, sent := st.sent + 1, got := st.got + 1 } := by
  have hB := h.lt
  have NF : Hid (¬ F w.heap.size) := fun e => Nat.lt_irrefl _ (h.bd _ e)
  obtain ⟨R, S, Q, FS, FQ, h⟩ := h
  have P1 := hide (h.below (below_alloc w (.cells #[.bool false, .bool false, .bool false, .int .i64 0, .int .i64 0, .int .i64 0, .int .i64 0] 51)))
  have Z1 := hide (heap_new w (.cells #[.bool false, .bool false, .bool false, .int .i64 0, .int .i64 0, .int .i64 0, .int .i64 0] 51))
  have y0 : (w.alloc (.cells #[.bool false, .bool false, .bool false, .int .i64 0, .int .i64 0, .int .i64 0, .int .i64 0] 51)).cell? ⟨B, 0, none⟩ = some (.pointer (some ⟨R, 0, none⟩)) := cell_of P1.out.hp 0
  have y1 : (w.alloc (.cells #[.bool false, .bool false, .bool false, .int .i64 0, .int .i64 0, .int .i64 0, .int .i64 0] 51)).cell? ⟨B, 1, none⟩ = some (.pointer (some ⟨S, 0, none⟩)) := cell_of P1.out.hp 1
  have LR := hide (Rn.len_any R st.size (x :: b) _ (by have := P1.out.rg; rw [hb] at this; exact this))
  have TK := hide (take_any S FS (y :: t) _ (by have := P1.out.ps; rw [hs] at this; exact this))
  have FB := hide h.fb
  have HB := hide hb
  clear h hb hs
  unfold gv
  have hlen : (((x :: b).length : Int) == 0) = false := by rw [beq_eq_false_iff_ne, List.length_cons]; omega
  generalize hN : (x :: b).length = N at LR hlen
  clear hN
  go_enter Try.func42, Try.ntmps42
  go_wp2_with fail
  refine LR.out.mono ?_
  rintro r w1 ⟨rfl, rfl⟩
  go_wp2_with fail
  refine TK.out.mono ?_
  rintro r w2 ⟨rfl, k2, p2⟩
  obtain ⟨P2, K2, N2⟩ := P1.out.snd k2 (Nw.refl _ _) p2
  have P3 := hide (P2.below (below_alloc w2 (.cells #[.int .i64 y.g, .int .i64 y.c, .int .i64 y.v] 49)))
  have M3 := hide (heap_new w2 (.cells #[.int .i64 y.g, .int .i64 y.c, .int .i64 y.v] 49))
  have Z3 := hide (heap_below (k2.heap Z1.out (fun e => NF.out (P1.out.fs _ e))) (below_alloc w2 (.cells #[.int .i64 y.g, .int .i64 y.c, .int .i64 y.v] 49)))
  have K3 := hide (((KF.of (F := F) (below_alloc w (.cells #[.bool false, .bool false, .bool false, .int .i64 0, .int .i64 0, .int .i64 0, .int .i64 0] 51))).trans K2 (Nw.refl _ _)).then (below_alloc w2 (.cells #[.int .i64 y.g, .int .i64 y.c, .int .i64 y.v] 49)))
  have N3 : Hid (Nw (fun x => F x ∨ FS x) F w) := fun k hk => hk.elim .inl (fun q => .inl (P1.out.fs k q))
  have NF3 : Hid (¬ (F w.heap.size ∨ FS w.heap.size)) := fun e => e.elim NF.out (fun q => NF.out (P1.out.fs _ q))
  have NM3 : Hid (¬ (F w2.heap.size ∨ FS w2.heap.size)) := fun e => Nat.lt_irrefl _ (P2.bd _ e)
  have hz2 : w.heap.size < w2.heap.size := by have := k2.size; rw [World.size_alloc] at this; omega
  have hM1 : w2.heap.size ≠ B := by omega
  have hM2 : w2.heap.size ≠ w.heap.size := by omega
  have hM3 : B ≠ w.heap.size := by omega
  clear k2 p2 P2 K2 N2 TK P1 Z1 y0 y1
  unfold wv
  simp only [fw, fo, List.isEmpty_cons, Bool.not_false]
  have p3 : (w2.alloc (.cells #[.int .i64 y.g, .int .i64 y.c, .int .i64 y.v] 49)).cell? ⟨B, 3, none⟩ = some (.int .i64 (st.sent : Int)) := cell_of P3.out.hp 3
  have p4 : (w2.alloc (.cells #[.int .i64 y.g, .int .i64 y.c, .int .i64 y.v] 49)).cell? ⟨B, 4, none⟩ = some (.int .i64 (st.got : Int)) := cell_of P3.out.hp 4
  have pf3 := frozen_of P3.out.hp 3
  have pf4 := frozen_of P3.out.hp 4
  have P4 := hide ((P3.out.setSent (st.sent + 1) ((st.sent : Int) + 1) (by omega)).setGot (st.got + 1) ((st.got : Int) + 1) (by omega))
  have M4 := hide ((Below.heap_setCell ((w2.alloc (.cells #[.int .i64 y.g, .int .i64 y.c, .int .i64 y.v] 49)).setCell ⟨B, 3, none⟩ (.int .i64 ((st.sent : Int) + 1))) ⟨B, 4, none⟩ (.int .i64 ((st.got : Int) + 1)) _ hM1).trans ((Below.heap_setCell (w2.alloc (.cells #[.int .i64 y.g, .int .i64 y.c, .int .i64 y.v] 49)) ⟨B, 3, none⟩ (.int .i64 ((st.sent : Int) + 1)) _ hM1).trans M3.out))
  have Z4 := hide ((Below.heap_setCell ((w2.alloc (.cells #[.int .i64 y.g, .int .i64 y.c, .int .i64 y.v] 49)).setCell ⟨B, 3, none⟩ (.int .i64 ((st.sent : Int) + 1))) ⟨B, 4, none⟩ (.int .i64 ((st.got : Int) + 1)) _ (Ne.symm hM3)).trans ((Below.heap_setCell (w2.alloc (.cells #[.int .i64 y.g, .int .i64 y.c, .int .i64 y.v] 49)) ⟨B, 3, none⟩ (.int .i64 ((st.sent : Int) + 1)) _ (Ne.symm hM3)).trans Z3.out))
  have K4 := hide ((K3.out.set FB.out 3 (.int .i64 ((st.sent : Int) + 1))).set FB.out 4 (.int .i64 ((st.got : Int) + 1)))
  go_wp2_with fail
  generalize ((w2.alloc (.cells #[.int .i64 y.g, .int .i64 y.c, .int .i64 y.v] 49)).setCell ⟨B, 3, none⟩ (.int .i64 ((st.sent : Int) + 1))).setCell ⟨B, 4, none⟩ (.int .i64 ((st.got : Int) + 1)) = W4 at P4 M4 Z4 K4 ⊢
  generalize w2.heap.size = M at M4 NM3 hM1 hM2 ⊢
  clear p3 p4 pf3 pf4 P3 M3 Z3 K3
  have m0 : W4.cell? ⟨M, 0, none⟩ = some (.int .i64 y.g) := cell_of M4.out 0
  have m1 : W4.cell? ⟨M, 1, none⟩ = some (.int .i64 y.c) := cell_of M4.out 1
  have m2 : W4.cell? ⟨M, 2, none⟩ = some (.int .i64 y.v) := cell_of M4.out 2
  have OU := hide (out_turn B _ _ y x b W4.drew (P4.out.below (bdrew1 _)).pp HB.out)
  unfold wv at OU
  go_region_with (go_at_call 62; refine OU.out.mono ?_; rintro r w5 ⟨rfl, k5, p5⟩; have M5 := hide (k5.heap (heap_below M4.out (bdrew1 _)) NM3.out); have Z5 := hide (k5.heap (heap_below Z4.out (bdrew1 _)) NF3.out); have n0 := (cell_of M5.out 0).trans (show _ = some (.int .i64 y.g) from rfl); have n1 := (cell_of M5.out 1).trans (show _ = some (.int .i64 y.c) from rfl); have n2 := (cell_of M5.out 2).trans (show _ = some (.int .i64 y.v) from rfl); have z0 := (cell_of Z5.out 0).trans (show _ = some (Value.bool false) from rfl); have zf0 := frozen_of Z5.out 0; have z1 := (cell_of Z5.out 1).trans (show _ = some (Value.bool false) from rfl); have zf1 := frozen_of Z5.out 1; have z2 := (cell_of Z5.out 2).trans (show _ = some (Value.bool false) from rfl); have zf2 := frozen_of Z5.out 2; have z3 := (cell_of Z5.out 3).trans (show _ = some (.int .i64 0) from rfl); have zf3 := frozen_of Z5.out 3; have z4 := (cell_of Z5.out 4).trans (show _ = some (.int .i64 0) from rfl); have zf4 := frozen_of Z5.out 4; have z5 := (cell_of Z5.out 5).trans (show _ = some (.int .i64 0) from rfl); have zf5 := frozen_of Z5.out 5; have z6 := (cell_of Z5.out 6).trans (show _ = some (.int .i64 0) from rfl); have zf6 := frozen_of Z5.out 6)
  all_goals
    go_wp2_with fail
    exact bodyPost_ret (results_row1 Try.results42 _ _ _ _ rfl (loadVar_got (got_set Z5.out _ _ _ _ _ _ _) rfl)) rfl ⟨rfl, fin7 ((K4.out.then (bdrew1 _)).trans k5 N3.out) N3.out p5 (Nat.le_refl _) NF3.out _ _ _ _ _ _ _⟩
set_option maxRecDepth 100000 in
set_option maxHeartbeats 6400000 in
theorem recv_snd (B : Nat) (F : Nat → Prop) (st : St) (y : Wt) (t : List Wt) (w : World) (h : Pp w B F st) (hb : st.buf = []) (hs : st.snd = y :: t) (hn : st.sent < 1000000000) (hg : st.got < 1000000000) :
    Calls Try.prog 42 #[.pointer (some ⟨B, 0, none⟩)] w fun r w' => r = .returned (gv ⟨true, true, true, y.v, y⟩) ∧ KF F w w' ∧ ∃ F', Nw F' F w ∧ Pp w' B F' { st with snd := t, sent := st.sent + 1, got := st.got + 1 } := by
  have hB := h.lt
  have NF : Hid (¬ F w.heap.size) := fun e => Nat.lt_irrefl _ (h.bd _ e)
  obtain ⟨R, S, Q, FS, FQ, h⟩ := h
  have P1 := hide (h.below (below_alloc w (.cells #[.bool false, .bool false, .bool false, .int .i64 0, .int .i64 0, .int .i64 0, .int .i64 0] 51)))
  have Z1 := hide (heap_new w (.cells #[.bool false, .bool false, .bool false, .int .i64 0, .int .i64 0, .int .i64 0, .int .i64 0] 51))
  have y0 : (w.alloc (.cells #[.bool false, .bool false, .bool false, .int .i64 0, .int .i64 0, .int .i64 0, .int .i64 0] 51)).cell? ⟨B, 0, none⟩ = some (.pointer (some ⟨R, 0, none⟩)) := cell_of P1.out.hp 0
  have y1 : (w.alloc (.cells #[.bool false, .bool false, .bool false, .int .i64 0, .int .i64 0, .int .i64 0, .int .i64 0] 51)).cell? ⟨B, 1, none⟩ = some (.pointer (some ⟨S, 0, none⟩)) := cell_of P1.out.hp 1
  have LR := hide (Rn.len_any R st.size ([]) _ (by have := P1.out.rg; rw [hb] at this; exact this))
  have LS := hide (Pe.len_any S (y :: t) _ (by have := P1.out.ps.pw; rw [hs] at this; exact this))
  have TK := hide (take_any S FS (y :: t) _ (by have := P1.out.ps; rw [hs] at this; exact this))
  have FB := hide h.fb
  have HB := hide hb
  clear h hb hs
  unfold gv
  have hlen : (((y :: t).length : Int) == 0) = false := by rw [beq_eq_false_iff_ne, List.length_cons]; omega
  generalize hN : (y :: t).length = N at LS hlen
  clear hN
  go_enter Try.func42, Try.ntmps42
  go_wp2_with fail
  refine LR.out.mono ?_
  rintro r w1 ⟨rfl, rfl⟩
  go_wp2_with fail
  refine LS.out.mono ?_
  rintro r w1 ⟨rfl, rfl⟩
  go_wp2_with fail
  refine TK.out.mono ?_
  rintro r w2 ⟨rfl, k2, p2⟩
  obtain ⟨P2, K2, N2⟩ := P1.out.snd k2 (Nw.refl _ _) p2
  have P3 := hide (P2.below (below_alloc w2 (.cells #[.int .i64 y.g, .int .i64 y.c, .int .i64 y.v] 49)))
  have M3 := hide (heap_new w2 (.cells #[.int .i64 y.g, .int .i64 y.c, .int .i64 y.v] 49))
  have Z3 := hide (heap_below (k2.heap Z1.out (fun e => NF.out (P1.out.fs _ e))) (below_alloc w2 (.cells #[.int .i64 y.g, .int .i64 y.c, .int .i64 y.v] 49)))
  have K3 := hide (((KF.of (F := F) (below_alloc w (.cells #[.bool false, .bool false, .bool false, .int .i64 0, .int .i64 0, .int .i64 0, .int .i64 0] 51))).trans K2 (Nw.refl _ _)).then (below_alloc w2 (.cells #[.int .i64 y.g, .int .i64 y.c, .int .i64 y.v] 49)))
  have N3 : Hid (Nw (fun x => F x ∨ FS x) F w) := fun k hk => hk.elim .inl (fun q => .inl (P1.out.fs k q))
  have NF3 : Hid (¬ (F w.heap.size ∨ FS w.heap.size)) := fun e => e.elim NF.out (fun q => NF.out (P1.out.fs _ q))
  have NM3 : Hid (¬ (F w2.heap.size ∨ FS w2.heap.size)) := fun e => Nat.lt_irrefl _ (P2.bd _ e)
  have hz2 : w.heap.size < w2.heap.size := by have := k2.size; rw [World.size_alloc] at this; omega
  have hM1 : w2.heap.size ≠ B := by omega
  have hM2 : w2.heap.size ≠ w.heap.size := by omega
  have hM3 : B ≠ w.heap.size := by omega
  clear k2 p2 P2 K2 N2 TK P1 Z1 y0 y1
  unfold wv
  simp only [fw, fo, List.isEmpty_cons, Bool.not_false]
  have p3 : (w2.alloc (.cells #[.int .i64 y.g, .int .i64 y.c, .int .i64 y.v] 49)).cell? ⟨B, 3, none⟩ = some (.int .i64 (st.sent : Int)) := cell_of P3.out.hp 3
  have p4 : (w2.alloc (.cells #[.int .i64 y.g, .int .i64 y.c, .int .i64 y.v] 49)).cell? ⟨B, 4, none⟩ = some (.int .i64 (st.got : Int)) := cell_of P3.out.hp 4
  have pf3 := frozen_of P3.out.hp 3
  have pf4 := frozen_of P3.out.hp 4
  have P4 := hide ((P3.out.setSent (st.sent + 1) ((st.sent : Int) + 1) (by omega)).setGot (st.got + 1) ((st.got : Int) + 1) (by omega))
  have M4 := hide ((Below.heap_setCell ((w2.alloc (.cells #[.int .i64 y.g, .int .i64 y.c, .int .i64 y.v] 49)).setCell ⟨B, 3, none⟩ (.int .i64 ((st.sent : Int) + 1))) ⟨B, 4, none⟩ (.int .i64 ((st.got : Int) + 1)) _ hM1).trans ((Below.heap_setCell (w2.alloc (.cells #[.int .i64 y.g, .int .i64 y.c, .int .i64 y.v] 49)) ⟨B, 3, none⟩ (.int .i64 ((st.sent : Int) + 1)) _ hM1).trans M3.out))
  have Z4 := hide ((Below.heap_setCell ((w2.alloc (.cells #[.int .i64 y.g, .int .i64 y.c, .int .i64 y.v] 49)).setCell ⟨B, 3, none⟩ (.int .i64 ((st.sent : Int) + 1))) ⟨B, 4, none⟩ (.int .i64 ((st.got : Int) + 1)) _ (Ne.symm hM3)).trans ((Below.heap_setCell (w2.alloc (.cells #[.int .i64 y.g, .int .i64 y.c, .int .i64 y.v] 49)) ⟨B, 3, none⟩ (.int .i64 ((st.sent : Int) + 1)) _ (Ne.symm hM3)).trans Z3.out))
  have K4 := hide ((K3.out.set FB.out 3 (.int .i64 ((st.sent : Int) + 1))).set FB.out 4 (.int .i64 ((st.got : Int) + 1)))
  go_wp2_with fail
  generalize ((w2.alloc (.cells #[.int .i64 y.g, .int .i64 y.c, .int .i64 y.v] 49)).setCell ⟨B, 3, none⟩ (.int .i64 ((st.sent : Int) + 1))).setCell ⟨B, 4, none⟩ (.int .i64 ((st.got : Int) + 1)) = W4 at P4 M4 Z4 K4 ⊢
  generalize w2.heap.size = M at M4 NM3 hM1 hM2 ⊢
  clear p3 p4 pf3 pf4 P3 M3 Z3 K3
  have m0 : W4.cell? ⟨M, 0, none⟩ = some (.int .i64 y.g) := cell_of M4.out 0
  have m1 : W4.cell? ⟨M, 1, none⟩ = some (.int .i64 y.c) := cell_of M4.out 1
  have m2 : W4.cell? ⟨M, 2, none⟩ = some (.int .i64 y.v) := cell_of M4.out 2
  have OU := hide (out_none B _ _ y W4.drew (P4.out.below (bdrew1 _)).pp HB.out)
  unfold wv at OU
  go_region_with (go_at_call 62; refine OU.out.mono ?_; rintro r w5 ⟨rfl, k5, p5⟩; have M5 := hide (k5.heap (heap_below M4.out (bdrew1 _)) NM3.out); have Z5 := hide (k5.heap (heap_below Z4.out (bdrew1 _)) NF3.out); have n0 := (cell_of M5.out 0).trans (show _ = some (.int .i64 y.g) from rfl); have n1 := (cell_of M5.out 1).trans (show _ = some (.int .i64 y.c) from rfl); have n2 := (cell_of M5.out 2).trans (show _ = some (.int .i64 y.v) from rfl); have z0 := (cell_of Z5.out 0).trans (show _ = some (Value.bool false) from rfl); have zf0 := frozen_of Z5.out 0; have z1 := (cell_of Z5.out 1).trans (show _ = some (Value.bool false) from rfl); have zf1 := frozen_of Z5.out 1; have z2 := (cell_of Z5.out 2).trans (show _ = some (Value.bool false) from rfl); have zf2 := frozen_of Z5.out 2; have z3 := (cell_of Z5.out 3).trans (show _ = some (.int .i64 0) from rfl); have zf3 := frozen_of Z5.out 3; have z4 := (cell_of Z5.out 4).trans (show _ = some (.int .i64 0) from rfl); have zf4 := frozen_of Z5.out 4; have z5 := (cell_of Z5.out 5).trans (show _ = some (.int .i64 0) from rfl); have zf5 := frozen_of Z5.out 5; have z6 := (cell_of Z5.out 6).trans (show _ = some (.int .i64 0) from rfl); have zf6 := frozen_of Z5.out 6)
  all_goals
    go_wp2_with fail
    exact bodyPost_ret (results_row1 Try.results42 _ _ _ _ rfl (loadVar_got (got_set Z5.out _ _ _ _ _ _ _) rfl)) rfl ⟨rfl, fin7 ((K4.out.then (bdrew1 _)).trans k5 N3.out) N3.out p5 (Nat.le_refl _) NF3.out _ _ _ _ _ _ _⟩
/-- Recv, of whatever channel -/
theorem recv_any (B : Nat) (F : Nat → Prop) (st : St) (w : World) (h : Pp w B F st) (hs : st.sent < 1000000000) (hg : st.got < 1000000000) :
    Calls Try.prog 42 #[.pointer (some ⟨B, 0, none⟩)] w fun r w' => r = .returned (gv (recvG st)) ∧ KF F w w' ∧ ∃ F', Nw F' F w ∧ Pp w' B F' (recvS st) := by
  cases hb : st.buf with
  | nil =>
    cases hr : st.snd with
    | nil =>
      rw [show recvG st = ⟨st.closed, false, false, 0, ⟨0, 0, 0⟩⟩ by simp [recvG, hb, hr], show recvS st = st by simp [recvS, hb, hr]]
      exact recv_none B F st w h hb hr
    | cons y t =>
      rw [show recvG st = ⟨true, true, true, y.v, y⟩ by simp [recvG, hb, hr], show recvS st = { st with snd := t, sent := st.sent + 1, got := st.got + 1 } by simp [recvS, hb, hr]]
      exact recv_snd B F st y t w h hb hr hs hg
  | cons x b =>
    cases hr : st.snd with
    | nil =>
      rw [show recvG st = ⟨true, true, false, x, ⟨0, 0, 0⟩⟩ by simp [recvG, hb, hr], show recvS st = { st with buf := b, got := st.got + 1 } by simp [recvS, hb, hr]]
      exact recv_buf B F st x b w h hb hr hg
    | cons y t =>
      rw [show recvG st = ⟨true, true, true, x, y⟩ by simp [recvG, hb, hr], show recvS st = { st with buf := b ++ [y.v], snd := t, sent := st.sent + 1, got := st.got + 1 } by simp [recvS, hb, hr]]
      exact recv_both B F st x b y t w h hb hr hs hg
end Pi
end Go.Proofs.Ytdcmlimglajpkaa
