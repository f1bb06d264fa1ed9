/- The laws' own does(): waits, closings, drops, over this seat's program. -/
import Derived.Test.YtapabnakbaoijaaKc
namespace Go.Proofs.Ytapabnakbaoijaa
open Go.ChangeShapes Go.WideShapes Go.ChangeAt Go.RowKit
namespace Rp
open Ba Pe _root_.Go.Proofs.Ytapabnakbaoijaa.Pi

set_option maxRecDepth 100000 in
set_option maxHeartbeats 6400000 in
theorem does_wait (B G : Nat) (F R : Nat → Prop) (st : St) (what : Int) (x : Wt) (w : World) (h : Pp w B F st) (r : Rr w G R st) (ap : ∀ x, F x → ¬ R x) (b : Bool) (hw : what = if b then 4 else 5) :
    Calls Try.prog 11 #[.pointer (some ⟨B, 0, none⟩), .pointer (some ⟨G, 0, none⟩), (.agg #[.int .i64 what, .int .i64 x.g, .int .i64 x.c, .int .i64 x.v])] w fun r w' => r = .returned (.bool true) ∧ Two w w' B G F R (waitS st b x) := by
  have BA := hide (below_alloc w (.cells #[.int .i64 what, .int .i64 x.g, .int .i64 x.c, .int .i64 x.v] 34))
  have XN := hide (heap_new w (.cells #[.int .i64 what, .int .i64 x.g, .int .i64 x.c, .int .i64 x.v] 34))
  have P1 := hide (h.below BA.out)
  have HR := hide r
  have AP := hide ap
  have NF : Hid (¬ F w.heap.size) := fun e => Nat.lt_irrefl _ (h.bd _ e)
  have NR : Hid (¬ R w.heap.size) := fun e => Nat.lt_irrefl _ (r.bd _ e)
  have WT := hide (wait_any B F st b x _ (P1.out.below (bdrew1 _)))
  clear h r ap
  have fin : ∀ (c : World) (F' : Nat → Prop), Half w c B G F R F' st (waitS st b x) → Calls Try.prog 30 #[.pointer (some ⟨G, 0, none⟩), .bool b, wv x] c fun r w' => r = .returned (.int .i64 (waitE st b x)) ∧ KF R c w' ∧ Two w w' B G F R (waitS st b x) := by
    intro c F' hf
    refine (rwait_any G R st b x c hf.r).mono ?_
    rintro r w1 ⟨rfl, k1, R1, n1, p1⟩
    exact ⟨rfl, k1, hf.both k1 n1 p1⟩
  have FIN := hide fin
  have RF := hide fun u => ref_any x u
  clear fin
  generalize waitE st b x = e at WT FIN
  unfold wv at WT FIN RF
  have x0 : (w.alloc (.cells #[.int .i64 what, .int .i64 x.g, .int .i64 x.c, .int .i64 x.v] 34)).cell? ⟨w.heap.size, 0, none⟩ = some (.int .i64 what) := cell_of XN.out 0
  have x1 : (w.alloc (.cells #[.int .i64 what, .int .i64 x.g, .int .i64 x.c, .int .i64 x.v] 34)).cell? ⟨w.heap.size, 1, none⟩ = some (.int .i64 x.g) := cell_of XN.out 1
  have x2 : (w.alloc (.cells #[.int .i64 what, .int .i64 x.g, .int .i64 x.c, .int .i64 x.v] 34)).cell? ⟨w.heap.size, 2, none⟩ = some (.int .i64 x.c) := cell_of XN.out 2
  have x3 : (w.alloc (.cells #[.int .i64 what, .int .i64 x.g, .int .i64 x.c, .int .i64 x.v] 34)).cell? ⟨w.heap.size, 3, none⟩ = some (.int .i64 x.v) := cell_of XN.out 3
  cases b
  · simp only [Bool.false_eq_true, if_false] at hw
    subst hw
    go_enter Try.func11, Try.ntmps11
    go_wp2_with fail
    generalize w.alloc (.cells #[.int .i64 5, .int .i64 x.g, .int .i64 x.c, .int .i64 x.v] 34) = W1 at BA XN P1 WT x0 x1 x2 x3 ⊢
    go_region_held3 (fun w' => w'.cell? ⟨w.heap.size, 0, none⟩ = some (.int .i64 5) ∧ w'.cell? ⟨w.heap.size, 1, none⟩ = some (.int .i64 x.g) ∧ w'.cell? ⟨w.heap.size, 2, none⟩ = some (.int .i64 x.c) ∧ w'.cell? ⟨w.heap.size, 3, none⟩ = some (.int .i64 x.v))
      (first
        | go_keep
        | exact ⟨(cell_of K3.out 0).trans rfl, (cell_of K3.out 1).trans rfl, (cell_of K3.out 2).trans rfl, (cell_of K3.out 3).trans rfl⟩
        | exact ⟨(cell_of K2.out 0).trans rfl, (cell_of K2.out 1).trans rfl, (cell_of K2.out 2).trans rfl, (cell_of K2.out 3).trans rfl⟩
        | exact ⟨(cell_of K1.out 0).trans rfl, (cell_of K1.out 1).trans rfl, (cell_of K1.out 2).trans rfl, (cell_of K1.out 3).trans rfl⟩)
      (first
        | (go_at_call 22; refine WT.out.mono ?_; rintro r v1 ⟨rfl, k1, F1, n1, p1⟩; have K1 := hide (k1.heap (heap_below XN.out (bdrew1 _)) NF.out); have H1 := hide (Half.mk' (btr BA.out (bdrew1 _)) HR.out AP.out k1 n1 p1))
        | (go_at_call 31; refine (RF.out _).mono ?_; rintro r v2 ⟨rfl, c2⟩; have K2 := hide (heap_below K1.out c2); have H2 := hide (H1.out.below c2))
        | (go_at_call 30; refine (FIN.out _ _ H2.out).mono ?_; rintro r v3 ⟨rfl, k3, t3⟩; have K3 := hide (k3.heap K2.out NR.out)))
    have T3 := hide t3
    clear t3 k3 K1 K2 K3 k1 n1 p1 c2
    go_wp2_with fail
    go_ret
    exact ⟨rfl, T3.out⟩
  · simp only [if_true] at hw
    subst hw
    go_enter Try.func11, Try.ntmps11
    go_wp2_with fail
    generalize w.alloc (.cells #[.int .i64 4, .int .i64 x.g, .int .i64 x.c, .int .i64 x.v] 34) = W1 at BA XN P1 WT x0 x1 x2 x3 ⊢
    go_region_held3 (fun w' => w'.cell? ⟨w.heap.size, 0, none⟩ = some (.int .i64 4) ∧ w'.cell? ⟨w.heap.size, 1, none⟩ = some (.int .i64 x.g) ∧ w'.cell? ⟨w.heap.size, 2, none⟩ = some (.int .i64 x.c) ∧ w'.cell? ⟨w.heap.size, 3, none⟩ = some (.int .i64 x.v))
      (first
        | go_keep
        | exact ⟨(cell_of K3.out 0).trans rfl, (cell_of K3.out 1).trans rfl, (cell_of K3.out 2).trans rfl, (cell_of K3.out 3).trans rfl⟩
        | exact ⟨(cell_of K2.out 0).trans rfl, (cell_of K2.out 1).trans rfl, (cell_of K2.out 2).trans rfl, (cell_of K2.out 3).trans rfl⟩
        | exact ⟨(cell_of K1.out 0).trans rfl, (cell_of K1.out 1).trans rfl, (cell_of K1.out 2).trans rfl, (cell_of K1.out 3).trans rfl⟩)
      (first
        | (go_at_call 22; refine WT.out.mono ?_; rintro r v1 ⟨rfl, k1, F1, n1, p1⟩; have K1 := hide (k1.heap (heap_below XN.out (bdrew1 _)) NF.out); have H1 := hide (Half.mk' (btr BA.out (bdrew1 _)) HR.out AP.out k1 n1 p1))
        | (go_at_call 31; refine (RF.out _).mono ?_; rintro r v2 ⟨rfl, c2⟩; have K2 := hide (heap_below K1.out c2); have H2 := hide (H1.out.below c2))
        | (go_at_call 30; refine (FIN.out _ _ H2.out).mono ?_; rintro r v3 ⟨rfl, k3, t3⟩; have K3 := hide (k3.heap K2.out NR.out)))
    have T3 := hide t3
    clear t3 k3 K1 K2 K3 k1 n1 p1 c2
    go_wp2_with fail
    go_ret
    exact ⟨rfl, T3.out⟩
set_option maxRecDepth 100000 in
set_option maxHeartbeats 6400000 in
theorem does_drop (B G : Nat) (F R : Nat → Prop) (st : St) (what : Int) (x : Wt) (w : World) (h : Pp w B F st) (r : Rr w G R st) (ap : ∀ x, F x → ¬ R x) (hw : what = 7) :
    Calls Try.prog 11 #[.pointer (some ⟨B, 0, none⟩), .pointer (some ⟨G, 0, none⟩), (.agg #[.int .i64 what, .int .i64 x.g, .int .i64 x.c, .int .i64 x.v])] w fun r w' => r = .returned (.bool true) ∧ Two w w' B G F R (dropS st x.g) := by
  have BA := hide (below_alloc w (.cells #[.int .i64 what, .int .i64 x.g, .int .i64 x.c, .int .i64 x.v] 34))
  have XN := hide (heap_new w (.cells #[.int .i64 what, .int .i64 x.g, .int .i64 x.c, .int .i64 x.v] 34))
  have P1 := hide (h.below BA.out)
  have HR := hide r
  have AP := hide ap
  have NF : Hid (¬ F w.heap.size) := fun e => Nat.lt_irrefl _ (h.bd _ e)
  have NR : Hid (¬ R w.heap.size) := fun e => Nat.lt_irrefl _ (r.bd _ e)
  have DP := hide (Pi.drop_any B F st x.g _ (P1.out.below (bdrew1 _)))
  clear h r ap
  have fin : ∀ (c : World) (F' : Nat → Prop), Half w c B G F R F' st (dropS st x.g) → Calls Try.prog 33 #[.pointer (some ⟨G, 0, none⟩), .int .i64 x.g] c fun r w' => r = .returned (.int .i64 (dropN st x.g)) ∧ KF R c w' ∧ Two w w' B G F R (dropS st x.g) := by
    intro c F' hf
    refine (rdrop_any G R st x.g c hf.r).mono ?_
    rintro r w1 ⟨rfl, k1, R1, n1, p1⟩
    exact ⟨rfl, k1, hf.both k1 n1 p1⟩
  have FIN := hide fin
  clear fin
  generalize dropN st x.g = e at DP FIN
  have x1 : (w.alloc (.cells #[.int .i64 what, .int .i64 x.g, .int .i64 x.c, .int .i64 x.v] 34)).cell? ⟨w.heap.size, 1, none⟩ = some (.int .i64 x.g) := cell_of XN.out 1
  subst hw
  go_enter Try.func11, Try.ntmps11
  go_wp2_with fail
  generalize w.alloc (.cells #[.int .i64 7, .int .i64 x.g, .int .i64 x.c, .int .i64 x.v] 34) = W1 at BA XN P1 DP x1 ⊢
  go_region_held3 (fun w' => w'.cell? ⟨w.heap.size, 1, none⟩ = some (.int .i64 x.g))
    (first
      | go_keep
      | exact (cell_of K2.out 1).trans rfl
      | exact (cell_of K1.out 1).trans rfl)
    (first
      | (go_at_call 24; refine DP.out.mono ?_; rintro r v1 ⟨rfl, k1, F1, n1, p1⟩; have K1 := hide (k1.heap (heap_below XN.out (bdrew1 _)) NF.out); have H1 := hide (Half.mk' (btr BA.out (bdrew1 _)) HR.out AP.out k1 n1 p1))
      | (go_at_call 33; refine (FIN.out _ _ H1.out).mono ?_; rintro r v2 ⟨rfl, k2, t2⟩; have K2 := hide (k2.heap K1.out NR.out)))
  have T3 := hide t2
  clear t2 k2 K1 K2 k1 n1 p1
  go_wp2_with fail
  go_ret
  exact ⟨rfl, T3.out⟩
set_option maxRecDepth 100000 in
set_option maxHeartbeats 6400000 in
theorem does_close (B G : Nat) (F R : Nat → Prop) (st : St) (what : Int) (x : Wt) (w : World) (h : Pp w B F st) (r : Rr w G R st) (ap : ∀ x, F x → ¬ R x) (hw : what = 6) :
    Calls Try.prog 11 #[.pointer (some ⟨B, 0, none⟩), .pointer (some ⟨G, 0, none⟩), (.agg #[.int .i64 what, .int .i64 x.g, .int .i64 x.c, .int .i64 x.v])] w fun r w' => r = .returned (.bool true) ∧ Two w w' B G F R (closeS st) := by
  have BA := hide (below_alloc w (.cells #[.int .i64 what, .int .i64 x.g, .int .i64 x.c, .int .i64 x.v] 34))
  have P1 := hide (h.below BA.out)
  have HR := hide r
  have AP := hide ap
  have CL := hide (close_any B F st _ P1.out)
  have l0 : ∀ b, (closeL st b).length ≤ 1024 := by
    obtain ⟨_, _, _, h'⟩ := r
    intro b
    have h1 := h'.les
    have h2 := h'.leq
    unfold closeL Pi.own
    cases st.closed <;> cases b <;> simp <;> omega
  have lF := l0 false
  have lT := l0 true
  clear h r ap l0
  have fin : ∀ (c : World) (F' : Nat → Prop), Half w c B G F R F' st (closeS st) → Calls Try.prog 32 #[.pointer (some ⟨G, 0, none⟩)] c fun r w' => ∃ oa ca ob cb, r = .returned (.tuple #[.slice oa (closeL st false).length ca, .slice ob (closeL st true).length cb, .int .i64 (closeE st)]) ∧ (WAt w' oa (closeL st false) ∧ WAt w' ob (closeL st true)) ∧ KF R c w' ∧ Two w w' B G F R (closeS st) := by
    intro c F' hf
    refine (rclose_any G R st c hf.r).mono ?_
    rintro r w1 ⟨oa, ca, ob, cb, rfl, hA, k1, R1, n1, p1⟩
    exact ⟨oa, ca, ob, cb, rfl, hA, k1, hf.both k1 n1 p1⟩
  have FIN := hide fin
  clear fin
  have BDR := hide HR.out.bd
  generalize closeE st = e at CL FIN
  generalize closeL st false = l1 at CL FIN lF
  generalize closeL st true = l2 at CL FIN lT
  subst hw
  go_enter Try.func11, Try.ntmps11
  go_wp2_with fail
  refine CL.out.mono ?_
  rintro r w2 ⟨oa, ca, ob, cb, rfl, ⟨hA, hB, nA, nB⟩, k2, F2, n2, p2⟩
  have H2 := hide (Half.mk' BA.out HR.out AP.out k2 n2 p2)
  have A2 := hide hA
  have B2 := hide hB
  have NA : Hid (∀ a, oa = some a → ¬ R a.block) := fun a e hr => by
    have h1 := BDR.out _ hr
    have h2 := nA a e
    rw [World.size_alloc] at h2
    omega
  have NB : Hid (∀ a, ob = some a → ¬ R a.block) := fun a e hr => by
    have h1 := BDR.out _ hr
    have h2 := nB a e
    rw [World.size_alloc] at h2
    omega
  clear hA hB nA nB k2 n2 p2
  go_wp2_with fail
  refine (FIN.out _ _ H2.out).mono ?_
  rintro r w3 ⟨oc, cc, od, cd, rfl, ⟨hC, hD⟩, k3, t3⟩
  have T3 := hide t3
  have A3 := hide (A2.out.kf k3 NA.out)
  have B3 := hide (B2.out.kf k3 NB.out)
  have C3 := hide hC
  have D3 := hide hD
  clear hC hD k3 t3
  go_wp2_with fail
  refine (same_any oa oc l1 ca cc _ A3.out C3.out lF).mono ?_
  rintro r w4 ⟨rfl, b4⟩
  have T4 := hide (T3.out.below b4)
  have B4 := hide (B3.out.below b4)
  have D4 := hide (D3.out.below b4)
  clear b4
  go_wp2_with fail
  refine (same_any ob od l2 cb cd _ B4.out D4.out lT).mono ?_
  rintro r w5 ⟨rfl, b5⟩
  have T5 := hide (T4.out.below b5)
  clear b5
  go_wp2_with fail
  go_ret
  exact ⟨rfl, T5.out⟩
set_option maxRecDepth 100000 in
set_option maxHeartbeats 3200000 in
theorem does_look (B G : Nat) (F R : Nat → Prop) (st : St) (what : Int) (x : Wt) (w : World) (h : Pp w B F st) (r : Rr w G R st) (ap : ∀ x, F x → ¬ R x) (hw : what ≠ 0 ∧ what ≠ 1 ∧ what ≠ 2 ∧ what ≠ 3 ∧ what ≠ 4 ∧ what ≠ 5 ∧ what ≠ 6 ∧ what ≠ 7) :
    Calls Try.prog 11 #[.pointer (some ⟨B, 0, none⟩), .pointer (some ⟨G, 0, none⟩), (.agg #[.int .i64 what, .int .i64 x.g, .int .i64 x.c, .int .i64 x.v])] w fun r w' => r = .returned (.bool true) ∧ Two w w' B G F R st := by
  have BA := hide (below_alloc w (.cells #[.int .i64 what, .int .i64 x.g, .int .i64 x.c, .int .i64 x.v] 34))
  have T1 : Hid (Two w (w.alloc (.cells #[.int .i64 what, .int .i64 x.g, .int .i64 x.c, .int .i64 x.v] 34)) B G F R st) := ⟨F, R, Nw.refl _ _, Nw.refl _ _, h.below BA.out, r.below BA.out, ap, KF.of BA.out⟩
  clear h r ap
  obtain ⟨h0, h1, h2, h3, h4, h5, h6, h7⟩ := hw
  have e0 := beq_eq_false_iff_ne.2 h0
  have e1 := beq_eq_false_iff_ne.2 h1
  have e2 := beq_eq_false_iff_ne.2 h2
  have e3 := beq_eq_false_iff_ne.2 h3
  have e4 := beq_eq_false_iff_ne.2 h4
  have e5 := beq_eq_false_iff_ne.2 h5
  have e6 := beq_eq_false_iff_ne.2 h6
  have e7 := beq_eq_false_iff_ne.2 h7
  clear h0 h1 h2 h3 h4 h5 h6 h7
  go_enter Try.func11, Try.ntmps11
  go_wp2_with fail
  go_ret
  exact ⟨rfl, T1.out⟩
end Rp
end Go.Proofs.Ytapabnakbaoijaa
