/- The reference's channel: Wait to send, over this seat's program. -/
import Derived.Test.YtdcmlimglajpkaaYh
import Derived.Deep.RegionHeld3
import Derived.Deep.AppendLies
import Derived.Deep.RegionLaw
namespace Go.Proofs.Ytdcmlimglajpkaa
open Go.ChangeShapes Go.WideShapes Go.ChangeAt Go.RowKit
namespace Rp
open Ba Pe _root_.Go.Proofs.Ytdcmlimglajpkaa.Pi

set_option maxRecDepth 100000 in
set_option maxHeartbeats 1600000 in
theorem rwait_true_ready (G : Nat) (F : Nat → Prop) (st : St) (x : Wt) (w : World) (h : Rr w G F st) (hc : (st.closed || decide (st.buf.length < st.size)) = true) :
    Calls Try.prog 25 #[.pointer (some ⟨G, 0, none⟩), .bool true, wv x] w fun r w' => r = .returned (.int .i64 7) ∧ Below w.heap.size w w' := by
  have hG := h.lt
  obtain ⟨vL, vS, vQ, h⟩ := h
  obtain ⟨ol, cl, os, cs, oq, cq, ⟨rfl, _, _⟩, ⟨rfl, _, _⟩, rfl, _, _⟩ := h.read
  have y0 : w.cell? ⟨G, 0, none⟩ = some (.int .i64 (st.size : Int)) := cell_of h.hp 0
  have y1 : w.cell? ⟨G, 1, none⟩ = some (.slice ol st.buf.length cl) := cell_of h.hp 1
  have y2 : w.cell? ⟨G, 2, none⟩ = some (.slice os st.snd.length cs) := cell_of h.hp 2
  have y3 : w.cell? ⟨G, 3, none⟩ = some (.slice oq st.rcv.length cq) := cell_of h.hp 3
  have y4 : w.cell? ⟨G, 4, none⟩ = some (.bool st.closed) := cell_of h.hp 4
  have BA := hide (below_alloc w (.cells #[.int .i64 x.g, .int .i64 x.c, .int .i64 x.v] 62))
  clear h
  unfold wv
  generalize st.buf.length = nb at y1 hc
  generalize st.size = ns at y0 hc
  have e0 : decide ((nb : Int) < (ns : Int)) = decide (nb < ns) := by simp
  generalize decide (nb < ns) = rm at e0 hc
  cases hcl : st.closed
  · rw [hcl] at y4 hc
    simp only [Bool.false_or] at hc
    subst hc
    have e1 : decide (nb < ns) = true := by rw [← e0]; simp
    go_enter Try.func25, Try.ntmps25
    go_wp2_with fail
    go_quiet (fail)
    go_wp2_with fail
    go_ret
    exact ⟨rfl, btr BA.out (bdrew _ _)⟩
  · rw [hcl] at y4
    go_enter Try.func25, Try.ntmps25
    go_wp2_with fail
    go_quiet (fail)
    go_wp2_with fail
    go_ret
    exact ⟨rfl, btr BA.out (bdrew _ _)⟩
set_option maxRecDepth 100000 in
set_option maxHeartbeats 1600000 in
theorem rwait_true_others (G : Nat) (F : Nat → Prop) (st : St) (x : Wt) (w : World) (h : Rr w G F st) (hcl : st.closed = false) (hrm : decide (st.buf.length < st.size) = false) (ho : 0 < (dr x.g st.rcv).length) :
    Calls Try.prog 25 #[.pointer (some ⟨G, 0, none⟩), .bool true, wv x] w fun r w' => r = .returned (.int .i64 7) ∧ Below w.heap.size w w' := by
  have hG := h.lt
  obtain ⟨vL, vS, vQ, h⟩ := h
  obtain ⟨ol, cl, os, cs, oq, cq, ⟨rfl, _, _⟩, ⟨rfl, _, _⟩, rfl, _, _⟩ := h.read
  have y0 : w.cell? ⟨G, 0, none⟩ = some (.int .i64 (st.size : Int)) := cell_of h.hp 0
  have y1 : w.cell? ⟨G, 1, none⟩ = some (.slice ol st.buf.length cl) := cell_of h.hp 1
  have y2 : w.cell? ⟨G, 2, none⟩ = some (.slice os st.snd.length cs) := cell_of h.hp 2
  have y3 : w.cell? ⟨G, 3, none⟩ = some (.slice oq st.rcv.length cq) := cell_of h.hp 3
  have y4 : w.cell? ⟨G, 4, none⟩ = some (.bool st.closed) := cell_of h.hp 4
  have BA := hide (below_alloc w (.cells #[.int .i64 x.g, .int .i64 x.c, .int .i64 x.v] 62))
  have e0 : decide ((st.buf.length : Int) < (st.size : Int)) = false := by simpa using hrm
  have l1 := h.leq
  have l2 := h.les
  rw [hcl] at y4
  have P0 := hide h
  have WO := hide fun u (hb : Below w.heap.size w u) => rwithout_any oq st.rcv cq x.g u (own_wat' (P0.out.below hb).rq) l1
  clear h
  generalize hN : (dr x.g st.rcv).length = N at ho WO
  clear hN
  have dN : decide (0 < (N : Int)) = true := decide_eq_true (by omega)
  unfold wv
  go_enter Try.func25, Try.ntmps25
  go_wp2_with fail
  go_quiet (fail)
  go_wp2_with fail
  refine (WO.out _ (btr BA.out (bdrew _ _))).mono ?_
  rintro r w3 ⟨ob, d, rfl, -, b3⟩
  have B3 := hide (btr (btr BA.out (bdrew _ _)) b3)
  clear b3 WO
  go_wp2_with fail
  go_ret
  exact ⟨rfl, B3.out⟩
set_option maxRecDepth 100000 in
set_option maxHeartbeats 1600000 in
theorem rwait_true_arg (G : Nat) (F : Nat → Prop) (st : St) (x : Wt) (w : World) (h : Rr w G F st) (hcl : st.closed = false) (hrm : decide (st.buf.length < st.size) = false) (ho : (dr x.g st.rcv).length = 0) (hx : okb x = false) :
    Calls Try.prog 25 #[.pointer (some ⟨G, 0, none⟩), .bool true, wv x] w fun r w' => r = .returned (.int .i64 1) ∧ Below w.heap.size w w' := by
  have hx' := (okb_not x).1 hx
  have hG := h.lt
  obtain ⟨vL, vS, vQ, h⟩ := h
  obtain ⟨ol, cl, os, cs, oq, cq, ⟨rfl, _, _⟩, ⟨rfl, _, _⟩, rfl, _, _⟩ := h.read
  have y0 : w.cell? ⟨G, 0, none⟩ = some (.int .i64 (st.size : Int)) := cell_of h.hp 0
  have y1 : w.cell? ⟨G, 1, none⟩ = some (.slice ol st.buf.length cl) := cell_of h.hp 1
  have y2 : w.cell? ⟨G, 2, none⟩ = some (.slice os st.snd.length cs) := cell_of h.hp 2
  have y3 : w.cell? ⟨G, 3, none⟩ = some (.slice oq st.rcv.length cq) := cell_of h.hp 3
  have y4 : w.cell? ⟨G, 4, none⟩ = some (.bool st.closed) := cell_of h.hp 4
  have BA := hide (below_alloc w (.cells #[.int .i64 x.g, .int .i64 x.c, .int .i64 x.v] 62))
  have e0 : decide ((st.buf.length : Int) < (st.size : Int)) = false := by simpa using hrm
  have l1 := h.leq
  have l2 := h.les
  rw [hcl] at y4
  have P0 := hide h
  have WO := hide fun u (hb : Below w.heap.size w u) => rwithout_any oq st.rcv cq x.g u (own_wat' (P0.out.below hb).rq) l1
  clear h
  generalize hN : (dr x.g st.rcv).length = N at ho WO
  clear hN
  subst ho
  clear hx
  by_cases h1 : x.g < 0
  · have d1 : decide (x.g < 0) = true := decide_eq_true h1
    clear hx'
    unfold wv
    go_enter Try.func25, Try.ntmps25
    go_wp2_with fail
    go_quiet (fail)
    go_wp2_with fail
    refine (WO.out _ (btr BA.out (bdrew _ _))).mono ?_
    rintro r w3 ⟨ob, d, rfl, -, b3⟩
    have B3 := hide (btr (btr BA.out (bdrew _ _)) b3)
    have Y3 := hide (heap_below (heap_new w (.cells #[.int .i64 x.g, .int .i64 x.c, .int .i64 x.v] 62)) (btr (bdrew _ _) b3))
    clear b3 WO
    have a0 : w3.cell? ⟨w.heap.size, 0, none⟩ = some (.int .i64 x.g) := cell_of Y3.out 0
    have a1 : w3.cell? ⟨w.heap.size, 1, none⟩ = some (.int .i64 x.c) := cell_of Y3.out 1
    have a2 : w3.cell? ⟨w.heap.size, 2, none⟩ = some (.int .i64 x.v) := cell_of Y3.out 2
    go_wp2_with fail
    go_ret
    exact ⟨rfl, B3.out⟩
  · have d1 : decide (x.g < 0) = false := decide_eq_false h1
    have d2 : decide (x.c < -1) = true := decide_eq_true (by omega)
    clear hx'
    unfold wv
    go_enter Try.func25, Try.ntmps25
    go_wp2_with fail
    go_quiet (fail)
    go_wp2_with fail
    refine (WO.out _ (btr BA.out (bdrew _ _))).mono ?_
    rintro r w3 ⟨ob, d, rfl, -, b3⟩
    have B3 := hide (btr (btr BA.out (bdrew _ _)) b3)
    have Y3 := hide (heap_below (heap_new w (.cells #[.int .i64 x.g, .int .i64 x.c, .int .i64 x.v] 62)) (btr (bdrew _ _) b3))
    clear b3 WO
    have a0 : w3.cell? ⟨w.heap.size, 0, none⟩ = some (.int .i64 x.g) := cell_of Y3.out 0
    have a1 : w3.cell? ⟨w.heap.size, 1, none⟩ = some (.int .i64 x.c) := cell_of Y3.out 1
    have a2 : w3.cell? ⟨w.heap.size, 2, none⟩ = some (.int .i64 x.v) := cell_of Y3.out 2
    go_wp2_with fail
    go_ret
    exact ⟨rfl, B3.out⟩
set_option maxRecDepth 100000 in
set_option maxHeartbeats 1600000 in
theorem rwait_true_full (G : Nat) (F : Nat → Prop) (st : St) (x : Wt) (w : World) (h : Rr w G F st) (hcl : st.closed = false) (hrm : decide (st.buf.length < st.size) = false) (ho : (dr x.g st.rcv).length = 0) (hx : okb x = true) (hl : st.snd.length = 1024) :
    Calls Try.prog 25 #[.pointer (some ⟨G, 0, none⟩), .bool true, wv x] w fun r w' => r = .returned (.int .i64 5) ∧ Below w.heap.size w w' := by
  have hx' := (okb_iff x).1 hx
  have d1 : decide (x.g < 0) = false := decide_eq_false (by omega)
  have d2 : decide (x.c < -1) = false := decide_eq_false (by omega)
  have hG := h.lt
  obtain ⟨vL, vS, vQ, h⟩ := h
  obtain ⟨ol, cl, os, cs, oq, cq, ⟨rfl, _, _⟩, ⟨rfl, _, _⟩, rfl, _, _⟩ := h.read
  have y0 : w.cell? ⟨G, 0, none⟩ = some (.int .i64 (st.size : Int)) := cell_of h.hp 0
  have y1 : w.cell? ⟨G, 1, none⟩ = some (.slice ol st.buf.length cl) := cell_of h.hp 1
  have y2 : w.cell? ⟨G, 2, none⟩ = some (.slice os st.snd.length cs) := cell_of h.hp 2
  have y3 : w.cell? ⟨G, 3, none⟩ = some (.slice oq st.rcv.length cq) := cell_of h.hp 3
  have y4 : w.cell? ⟨G, 4, none⟩ = some (.bool st.closed) := cell_of h.hp 4
  have BA := hide (below_alloc w (.cells #[.int .i64 x.g, .int .i64 x.c, .int .i64 x.v] 62))
  have e0 : decide ((st.buf.length : Int) < (st.size : Int)) = false := by simpa using hrm
  have l1 := h.leq
  have l2 := h.les
  rw [hcl] at y4
  have P0 := hide h
  have WO := hide fun u (hb : Below w.heap.size w u) => rwithout_any oq st.rcv cq x.g u (own_wat' (P0.out.below hb).rq) l1
  clear h
  generalize hN : (dr x.g st.rcv).length = N at ho WO
  clear hN
  subst ho
  clear hx hx'
  unfold wv
  go_enter Try.func25, Try.ntmps25
  go_wp2_with fail
  go_quiet (fail)
  go_wp2_with fail
  refine (WO.out _ (btr BA.out (bdrew _ _))).mono ?_
  rintro r w3 ⟨ob, d, rfl, -, b3⟩
  have B3 := hide (btr (btr BA.out (bdrew _ _)) b3)
  have Y3 := hide (heap_below (heap_new w (.cells #[.int .i64 x.g, .int .i64 x.c, .int .i64 x.v] 62)) (btr (bdrew _ _) b3))
  clear b3 WO
  have a0 : w3.cell? ⟨w.heap.size, 0, none⟩ = some (.int .i64 x.g) := cell_of Y3.out 0
  have a1 : w3.cell? ⟨w.heap.size, 1, none⟩ = some (.int .i64 x.c) := cell_of Y3.out 1
  have a2 : w3.cell? ⟨w.heap.size, 2, none⟩ = some (.int .i64 x.v) := cell_of Y3.out 2
  have g1 : w3.cell? ⟨G, 2, none⟩ = some (.slice os 1024 cs) := (cell_of (P0.out.below B3.out).hp 2).trans (by rw [hl]; rfl)
  go_wp2_with fail
  go_ret
  exact ⟨rfl, B3.out⟩
set_option maxRecDepth 100000 in
set_option maxHeartbeats 3200000 in
theorem rwait_true_ok (G : Nat) (F : Nat → Prop) (st : St) (x : Wt) (w : World) (h : Rr w G F st) (hcl : st.closed = false) (hrm : decide (st.buf.length < st.size) = false) (ho : (dr x.g st.rcv).length = 0) (hx : okb x = true) (hl : st.snd.length < 1024) :
    Calls Try.prog 25 #[.pointer (some ⟨G, 0, none⟩), .bool true, wv x] w fun r w' => r = .returned (.int .i64 0) ∧ KF F w w' ∧ ∃ F', Nw F' F w ∧ Rr w' G F' { st with snd := st.snd ++ [x] } := by
  have hx' := (okb_iff x).1 hx
  have d1 : decide (x.g < 0) = false := decide_eq_false (by omega)
  have d2 : decide (x.c < -1) = false := decide_eq_false (by omega)
  have hG := h.lt
  obtain ⟨vL, vS, vQ, h⟩ := h
  obtain ⟨ol, cl, os, cs, oq, cq, ⟨rfl, _, _⟩, ⟨rfl, _, _⟩, rfl, _, _⟩ := h.read
  have y0 : w.cell? ⟨G, 0, none⟩ = some (.int .i64 (st.size : Int)) := cell_of h.hp 0
  have y1 : w.cell? ⟨G, 1, none⟩ = some (.slice ol st.buf.length cl) := cell_of h.hp 1
  have y2 : w.cell? ⟨G, 2, none⟩ = some (.slice os st.snd.length cs) := cell_of h.hp 2
  have y3 : w.cell? ⟨G, 3, none⟩ = some (.slice oq st.rcv.length cq) := cell_of h.hp 3
  have y4 : w.cell? ⟨G, 4, none⟩ = some (.bool st.closed) := cell_of h.hp 4
  have BA := hide (below_alloc w (.cells #[.int .i64 x.g, .int .i64 x.c, .int .i64 x.v] 62))
  have e0 : decide ((st.buf.length : Int) < (st.size : Int)) = false := by simpa using hrm
  have l1 := h.leq
  have l2 := h.les
  rw [hcl] at y4
  have P0 := hide h
  have WO := hide fun u (hb : Below w.heap.size w u) => rwithout_any oq st.rcv cq x.g u (own_wat' (P0.out.below hb).rq) l1
  clear h
  generalize hN : (dr x.g st.rcv).length = N at ho WO
  clear hN
  subst ho
  clear hx hx'
  cases hi : Try.prog.info? 62 with
  | none => have := info_rw; rw [hi] at this; cases this
  | some i0 =>
  have hx2 := info_rw
  rw [hi] at hx2
  simp at hx2
  have INF := hide (And.intro hi hx2)
  clear hx2 hi
  have d3 : decide (1024 ≤ (st.snd.length : Int)) = false := decide_eq_false (by omega)
  unfold wv
  go_enter Try.func25, Try.ntmps25
  go_wp2_with fail
  go_quiet (fail)
  go_wp2_with fail
  refine (WO.out _ (btr BA.out (bdrew _ _))).mono ?_
  rintro r w3 ⟨ob, d, rfl, -, b3⟩
  have B3 := hide (btr (btr BA.out (bdrew _ _)) b3)
  have Y3 := hide (heap_below (heap_new w (.cells #[.int .i64 x.g, .int .i64 x.c, .int .i64 x.v] 62)) (btr (bdrew _ _) b3))
  clear b3 WO
  have a0 : w3.cell? ⟨w.heap.size, 0, none⟩ = some (.int .i64 x.g) := cell_of Y3.out 0
  have a1 : w3.cell? ⟨w.heap.size, 1, none⟩ = some (.int .i64 x.c) := cell_of Y3.out 1
  have a2 : w3.cell? ⟨w.heap.size, 2, none⟩ = some (.int .i64 x.v) := cell_of Y3.out 2
  have P3 := hide (P0.out.below B3.out)
  have g1 : w3.cell? ⟨G, 2, none⟩ = some (.slice os st.snd.length cs) := cell_of P3.out.hp 2
  have gf1 := frozen_of P3.out.hp 2
  have SZ3 := B3.out.size
  have hG3 : G < w3.heap.size := by omega
  have hY3 := heap_lt Y3.out
  go_wp2_with fail
  have BD := hide (btr (below_alloc w3 (.cells #[.int .i64 x.g, .int .i64 x.c, .int .i64 x.v] 62)) (bdrew1 _))
  have P4 := hide (P3.out.below BD.out)
  have hS4 : (w3.alloc (.cells #[.int .i64 x.g, .int .i64 x.c, .int .i64 x.v] 62)).drew.heap.size = w3.heap.size + 1 := World.size_alloc _ _
  obtain ⟨v', w6, hr, hown, hgrow, _, hat⟩ := run_append_own_at (P := Try.prog) ((w3.alloc (.cells #[.int .i64 x.g, .int .i64 x.c, .int .i64 x.v] 62)).drew) 0 76 76 62 i0 (wv ⟨0, 0, 0⟩) 3 24 Try.underlying76 INF.out.1 INF.out.2.1 INF.out.2.2.1 INF.out.2.2.2 rfl (by decide) _ _ _ P4.out.rs ⟨w3.heap.size, 0, none⟩ 1 1 (wc [x]) rfl (src3 w3 x _) (wc_one _) (by unfold maxLen; omega) (by omega) (Nat.zero_le _)
  rw [← wc_app] at hown
  have hown2 : w6.ownsRow 0 62 3 v' (st.snd ++ [x]).length (wc (st.snd ++ [x])) := by rw [List.length_append]; exact hown
  obtain ⟨oa', c', rfl, _, _⟩ := owns_wat hown2
  have hlen : (st.snd ++ [x]).length = st.snd.length + 1 := by simp
  have R6 := hide (P4.out.appS hgrow hown2 hat (by rw [hlen]; omega))
  have G6 := hide (heap_grown hgrow P4.out.hp (fun e => own_ty P4.out.rs P4.out.hp (by decide) e.symm))
  have K6 := hide (KF.grown (KF.of (F := F) (btr B3.out BD.out)) hgrow (fun k e => .inl (P4.out.fs k e)))
  have N6 : Hid (Nw (Fw F (.slice oa' (st.snd ++ [x]).length c')) F w) := Fw.at hat P4.out.fs (by rw [hS4]; omega)
  have g6 : w6.cell? ⟨G, 2, none⟩ = some (.slice os st.snd.length cs) := cell_of G6.out 2
  have gf6 := frozen_of G6.out 2
  have FG := hide P3.out.fg
  have HR := hide hr
  clear hown hown2 hgrow hat BD hr
  rw [hlen] at R6 N6
  go_region_law (refine step_append_run _ (by rfl) _ _ _ _ (by rfl) _ _ (by rfl) (by rfl) _ _ HR.out ?_)
  all_goals
    go_wp2_with fail
    go_ret
    exact ⟨rfl, K6.out.set FG.out 2 _, _, N6.out, R6.out.rr⟩
/-- Wait, of whatever channel -/
theorem rwait_any (G : Nat) (F : Nat → Prop) (st : St) (send : Bool) (x : Wt) (w : World) (h : Rr w G F st) :
    Calls Try.prog 25 #[.pointer (some ⟨G, 0, none⟩), .bool send, wv x] w fun r w' => r = .returned (.int .i64 (waitE st send x)) ∧ KF F w w' ∧ ∃ F', Nw F' F w ∧ Rr w' G F' (waitS st send x) := by
  have bel : ∀ {r : Ending} {w' : World} {n : Int}, r = .returned (.int .i64 n) ∧ Below w.heap.size w w' → r = .returned (.int .i64 n) ∧ KF F w w' ∧ ∃ F', Nw F' F w ∧ Rr w' G F' st := fun {r w' n} ⟨e, b⟩ => ⟨e, KF.of b, F, Nw.refl _ _, h.below b⟩
  cases send
  · cases hc : (st.closed || decide (0 < st.buf.length))
    · have hcl : st.closed = false := by
        cases e : st.closed
        · rfl
        · rw [e] at hc; simp at hc
      have hrm : decide (0 < st.buf.length) = false := by rw [hcl] at hc; simpa using hc
      by_cases ho : 0 < (dr x.g st.snd).length
      · have hq : rdyBut st false x.g = true := by simp [rdyBut, room, Pi.own, hcl, hrm, ho]
        rw [show waitE st false x = 7 by simp [waitE, hq], show waitS st false x = st by simp [waitS, hq]]
        exact (rwait_false_others G F st x w h hcl hrm ho).mono fun r w' q => bel q
      · have ho0 : (dr x.g st.snd).length = 0 := by omega
        have hq : rdyBut st false x.g = false := by unfold rdyBut room Pi.own; simp only [Bool.false_eq_true, if_false, Bool.not_false, if_true, hcl, hrm, ho0, Bool.false_or]; rfl
        rw [show waitE st false x = ae st.rcv x by simp [waitE, hq, Pi.own], show waitS st false x = { st with rcv := al st.rcv x } by simp [waitS, hq]]
        cases hx : okb x
        · rw [show ae st.rcv x = 1 by simp [ae, hx], show al st.rcv x = st.rcv by simp [al, hx]]
          exact (rwait_false_arg G F st x w h hcl hrm ho0 hx).mono fun r w' q => bel q
        · by_cases hl : st.rcv.length = 1024
          · rw [show ae st.rcv x = 5 by simp [ae, hx, hl], show al st.rcv x = st.rcv by simp [al, hx, hl]]
            exact (rwait_false_full G F st x w h hcl hrm ho0 hx hl).mono fun r w' q => bel q
          · rw [show ae st.rcv x = 0 by simp [ae, hx, hl], show al st.rcv x = st.rcv ++ [x] by simp [al, hx, hl]]
            exact rwait_false_ok G F st x w h hcl hrm ho0 hx (by obtain ⟨_, _, _, h'⟩ := h; have := h'.leq; omega)
    · have hq : rdyBut st false x.g = true := by unfold rdyBut room; simp only [Bool.false_eq_true, if_false, hc, Bool.true_or]
      rw [show waitE st false x = 7 by simp [waitE, hq], show waitS st false x = st by simp [waitS, hq]]
      exact (rwait_false_ready G F st x w h hc).mono fun r w' q => bel q
  · cases hc : (st.closed || decide (st.buf.length < st.size))
    · have hcl : st.closed = false := by
        cases e : st.closed
        · rfl
        · rw [e] at hc; simp at hc
      have hrm : decide (st.buf.length < st.size) = false := by rw [hcl] at hc; simpa using hc
      by_cases ho : 0 < (dr x.g st.rcv).length
      · have hq : rdyBut st true x.g = true := by simp [rdyBut, room, Pi.own, hcl, hrm, ho]
        rw [show waitE st true x = 7 by simp [waitE, hq], show waitS st true x = st by simp [waitS, hq]]
        exact (rwait_true_others G F st x w h hcl hrm ho).mono fun r w' q => bel q
      · have ho0 : (dr x.g st.rcv).length = 0 := by omega
        have hq : rdyBut st true x.g = false := by unfold rdyBut room Pi.own; simp only [if_true, Bool.not_true, Bool.false_eq_true, if_false, hcl, hrm, ho0, Bool.false_or]; rfl
        rw [show waitE st true x = ae st.snd x by simp [waitE, hq, Pi.own], show waitS st true x = { st with snd := al st.snd x } by simp [waitS, hq]]
        cases hx : okb x
        · rw [show ae st.snd x = 1 by simp [ae, hx], show al st.snd x = st.snd by simp [al, hx]]
          exact (rwait_true_arg G F st x w h hcl hrm ho0 hx).mono fun r w' q => bel q
        · by_cases hl : st.snd.length = 1024
          · rw [show ae st.snd x = 5 by simp [ae, hx, hl], show al st.snd x = st.snd by simp [al, hx, hl]]
            exact (rwait_true_full G F st x w h hcl hrm ho0 hx hl).mono fun r w' q => bel q
          · rw [show ae st.snd x = 0 by simp [ae, hx, hl], show al st.snd x = st.snd ++ [x] by simp [al, hx, hl]]
            exact rwait_true_ok G F st x w h hcl hrm ho0 hx (by obtain ⟨_, _, _, h'⟩ := h; have := h'.les; omega)
    · have hq : rdyBut st true x.g = true := by unfold rdyBut room; simp only [if_true, hc, Bool.true_or]
      rw [show waitE st true x = 7 by simp [waitE, hq], show waitS st true x = st by simp [waitS, hq]]
      exact (rwait_true_ready G F st x w h hc).mono fun r w' q => bel q
end Rp
end Go.Proofs.Ytdcmlimglajpkaa
