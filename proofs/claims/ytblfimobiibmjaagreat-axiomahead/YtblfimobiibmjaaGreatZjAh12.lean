import Derived.Test.YtblfimobiibmjaaGreatZjAh11
import Derived.Deep.RegionHeld3
import Derived.Deep.AppendLies
import Derived.Deep.RegionLaw
import Derived.Deep.RegionWith
import Derived.Laws.EntriesVeiled
import Derived.OwnWalk
import Derived.LaidEqlPtr
import Derived.Lib.AppendZeros
import Derived.Deep.Slices
import Derived.ShutString
import Derived.ChangeOld
import Derived.Maps.AppendAt
/- The reference's channel: Wait to send, over this seat's program. -/
namespace Go.Proofs.YtblfimobiibmjaaGreat
open Go.ChangeShapes Go.WideShapes Go.ChangeAt Go.RowKit
namespace Rp
open Ba Pe _root_.Go.Proofs.YtblfimobiibmjaaGreat.Pi

set_option maxRecDepth 100000 in
set_option maxHeartbeats 1600000 in
theorem rwait_true_ready (G : Nat) (F : Nat → Prop) (st : St) (x : Wt) (w : World) (h : Rr w G F st) (hc : (st.closed || decide (st.buf.length < st.size)) = true) :
    Calls Tryz.prog 148 #[.pointer (some ⟨G, 0, none⟩), .bool true, wv x] w fun r w' => r = .returned (.int .i64 7) ∧ Below w.heap.size w w' := by
  have hG := h.lt
  obtain ⟨vL, vS, vQ, h⟩ := h
  obtain ⟨ol, cl, os, cs, oq, cq, ⟨rfl, _, _⟩, ⟨rfl, _, _⟩, rfl, _, _⟩ := h.read
  have y0 : w.cell? ⟨G, 0, none⟩ = some (.int .i64 (st.size : Int)) := cell_of h.hp 0
  have y1 : w.cell? ⟨G, 1, none⟩ = some (.slice ol st.buf.length cl) := cell_of h.hp 1
  have y2 : w.cell? ⟨G, 2, none⟩ = some (.slice os st.snd.length cs) := cell_of h.hp 2
  have y3 : w.cell? ⟨G, 3, none⟩ = some (.slice oq st.rcv.length cq) := cell_of h.hp 3
  have y4 : w.cell? ⟨G, 4, none⟩ = some (.bool st.closed) := cell_of h.hp 4
  have BA := hide (below_alloc w (.cells #[.int .i64 x.g, .int .i64 x.c, .int .i64 x.v] 207))
  clear h
  unfold wv
  generalize st.buf.length = nb at y1 hc
  generalize st.size = ns at y0 hc
  have e0 : decide ((nb : Int) < (ns : Int)) = decide (nb < ns) := by simp
  generalize decide (nb < ns) = rm at e0 hc
  cases hcl : st.closed
  · rw [hcl] at y4 hc
    simp only [Bool.false_or] at hc
    subst hc
    have e1 : decide (nb < ns) = true := by rw [← e0]; simp
    go_enter Tryz.func148, Tryz.ntmps148
    go_wp2_with fail
    go_quiet (fail)
    go_wp2_with fail
    go_ret
    exact ⟨rfl, btr BA.out (bdrew _ _)⟩
  · rw [hcl] at y4
    go_enter Tryz.func148, Tryz.ntmps148
    go_wp2_with fail
    go_quiet (fail)
    go_wp2_with fail
    go_ret
    exact ⟨rfl, btr BA.out (bdrew _ _)⟩
set_option maxRecDepth 100000 in
set_option maxHeartbeats 1600000 in
theorem rwait_true_others (G : Nat) (F : Nat → Prop) (st : St) (x : Wt) (w : World) (h : Rr w G F st) (hcl : st.closed = false) (hrm : decide (st.buf.length < st.size) = false) (ho : 0 < (dr x.g st.rcv).length) :
    Calls Tryz.prog 148 #[.pointer (some ⟨G, 0, none⟩), .bool true, wv x] w fun r w' => r = .returned (.int .i64 7) ∧ Below w.heap.size w w' := by
  have hG := h.lt
  obtain ⟨vL, vS, vQ, h⟩ := h
  obtain ⟨ol, cl, os, cs, oq, cq, ⟨rfl, _, _⟩, ⟨rfl, _, _⟩, rfl, _, _⟩ := h.read
  have y0 : w.cell? ⟨G, 0, none⟩ = some (.int .i64 (st.size : Int)) := cell_of h.hp 0
  have y1 : w.cell? ⟨G, 1, none⟩ = some (.slice ol st.buf.length cl) := cell_of h.hp 1
  have y2 : w.cell? ⟨G, 2, none⟩ = some (.slice os st.snd.length cs) := cell_of h.hp 2
  have y3 : w.cell? ⟨G, 3, none⟩ = some (.slice oq st.rcv.length cq) := cell_of h.hp 3
  have y4 : w.cell? ⟨G, 4, none⟩ = some (.bool st.closed) := cell_of h.hp 4
  have BA := hide (below_alloc w (.cells #[.int .i64 x.g, .int .i64 x.c, .int .i64 x.v] 207))
  have e0 : decide ((st.buf.length : Int) < (st.size : Int)) = false := by simpa using hrm
  have l1 := h.leq
  have l2 := h.les
  rw [hcl] at y4
  have P0 := hide h
  have WO := hide fun u (hb : Below w.heap.size w u) => rwithout_any oq st.rcv cq x.g u (own_wat' (P0.out.below hb).rq) l1
  clear h
  generalize hN : (dr x.g st.rcv).length = N at ho WO
  clear hN
  have dN : decide (0 < (N : Int)) = true := decide_eq_true (by omega)
  unfold wv
  go_enter Tryz.func148, Tryz.ntmps148
  go_wp2_with fail
  go_quiet (fail)
  go_wp2_with fail
  refine (WO.out _ (btr BA.out (bdrew _ _))).mono ?_
  rintro r w3 ⟨ob, d, rfl, -, b3⟩
  have B3 := hide (btr (btr BA.out (bdrew _ _)) b3)
  clear b3 WO
  go_wp2_with fail
  go_ret
  exact ⟨rfl, B3.out⟩
set_option maxRecDepth 100000 in
set_option maxHeartbeats 1600000 in
theorem rwait_true_arg (G : Nat) (F : Nat → Prop) (st : St) (x : Wt) (w : World) (h : Rr w G F st) (hcl : st.closed = false) (hrm : decide (st.buf.length < st.size) = false) (ho : (dr x.g st.rcv).length = 0) (hx : okb x = false) :
    Calls Tryz.prog 148 #[.pointer (some ⟨G, 0, none⟩), .bool true, wv x] w fun r w' => r = .returned (.int .i64 1) ∧ Below w.heap.size w w' := by
  have hx' := (okb_not x).1 hx
  have hG := h.lt
  obtain ⟨vL, vS, vQ, h⟩ := h
  obtain ⟨ol, cl, os, cs, oq, cq, ⟨rfl, _, _⟩, ⟨rfl, _, _⟩, rfl, _, _⟩ := h.read
  have y0 : w.cell? ⟨G, 0, none⟩ = some (.int .i64 (st.size : Int)) := cell_of h.hp 0
  have y1 : w.cell? ⟨G, 1, none⟩ = some (.slice ol st.buf.length cl) := cell_of h.hp 1
  have y2 : w.cell? ⟨G, 2, none⟩ = some (.slice os st.snd.length cs) := cell_of h.hp 2
  have y3 : w.cell? ⟨G, 3, none⟩ = some (.slice oq st.rcv.length cq) := cell_of h.hp 3
  have y4 : w.cell? ⟨G, 4, none⟩ = some (.bool st.closed) := cell_of h.hp 4
  have BA := hide (below_alloc w (.cells #[.int .i64 x.g, .int .i64 x.c, .int .i64 x.v] 207))
  have e0 : decide ((st.buf.length : Int) < (st.size : Int)) = false := by simpa using hrm
  have l1 := h.leq
  have l2 := h.les
  rw [hcl] at y4
  have P0 := hide h
  have WO := hide fun u (hb : Below w.heap.size w u) => rwithout_any oq st.rcv cq x.g u (own_wat' (P0.out.below hb).rq) l1
  clear h
  generalize hN : (dr x.g st.rcv).length = N at ho WO
  clear hN
  subst ho
  clear hx
  by_cases h1 : x.g < 0
  · have d1 : decide (x.g < 0) = true := decide_eq_true h1
    clear hx'
    unfold wv
    go_enter Tryz.func148, Tryz.ntmps148
    go_wp2_with fail
    go_quiet (fail)
    go_wp2_with fail
    refine (WO.out _ (btr BA.out (bdrew _ _))).mono ?_
    rintro r w3 ⟨ob, d, rfl, -, b3⟩
    have B3 := hide (btr (btr BA.out (bdrew _ _)) b3)
    have Y3 := hide (heap_below (heap_new w (.cells #[.int .i64 x.g, .int .i64 x.c, .int .i64 x.v] 207)) (btr (bdrew _ _) b3))
    clear b3 WO
    have a0 : w3.cell? ⟨w.heap.size, 0, none⟩ = some (.int .i64 x.g) := cell_of Y3.out 0
    have a1 : w3.cell? ⟨w.heap.size, 1, none⟩ = some (.int .i64 x.c) := cell_of Y3.out 1
    have a2 : w3.cell? ⟨w.heap.size, 2, none⟩ = some (.int .i64 x.v) := cell_of Y3.out 2
    go_wp2_with fail
    go_ret
    exact ⟨rfl, B3.out⟩
  · have d1 : decide (x.g < 0) = false := decide_eq_false h1
    have d2 : decide (x.c < -1) = true := decide_eq_true (by omega)
    clear hx'
    unfold wv
    go_enter Tryz.func148, Tryz.ntmps148
    go_wp2_with fail
    go_quiet (fail)
    go_wp2_with fail
    refine (WO.out _ (btr BA.out (bdrew _ _))).mono ?_
    rintro r w3 ⟨ob, d, rfl, -, b3⟩
    have B3 := hide (btr (btr BA.out (bdrew _ _)) b3)
    have Y3 := hide (heap_below (heap_new w (.cells #[.int .i64 x.g, .int .i64 x.c, .int .i64 x.v] 207)) (btr (bdrew _ _) b3))
    clear b3 WO
    have a0 : w3.cell? ⟨w.heap.size, 0, none⟩ = some (.int .i64 x.g) := cell_of Y3.out 0
    have a1 : w3.cell? ⟨w.heap.size, 1, none⟩ = some (.int .i64 x.c) := cell_of Y3.out 1
    have a2 : w3.cell? ⟨w.heap.size, 2, none⟩ = some (.int .i64 x.v) := cell_of Y3.out 2
    go_wp2_with fail
    go_ret
    exact ⟨rfl, B3.out⟩
set_option maxRecDepth 100000 in
set_option maxHeartbeats 1600000 in
theorem rwait_true_full (G : Nat) (F : Nat → Prop) (st : St) (x : Wt) (w : World) (h : Rr w G F st) (hcl : st.closed = false) (hrm : decide (st.buf.length < st.size) = false) (ho : (dr x.g st.rcv).length = 0) (hx : okb x = true) (hl : st.snd.length = 1024) :
    Calls Tryz.prog 148 #[.pointer (some ⟨G, 0, none⟩), .bool true, wv x] w fun r w' => r = .returned (.int .i64 5) ∧ Below w.heap.size w w' := by
  have hx' := (okb_iff x).1 hx
  have d1 : decide (x.g < 0) = false := decide_eq_false (by omega)
  have d2 : decide (x.c < -1) = false := decide_eq_false (by omega)
  have hG := h.lt
  obtain ⟨vL, vS, vQ, h⟩ := h
  obtain ⟨ol, cl, os, cs, oq, cq, ⟨rfl, _, _⟩, ⟨rfl, _, _⟩, rfl, _, _⟩ := h.read
  have y0 : w.cell? ⟨G, 0, none⟩ = some (.int .i64 (st.size : Int)) := cell_of h.hp 0
  have y1 : w.cell? ⟨G, 1, none⟩ = some (.slice ol st.buf.length cl) := cell_of h.hp 1
  have y2 : w.cell? ⟨G, 2, none⟩ = some (.slice os st.snd.length cs) := cell_of h.hp 2
  have y3 : w.cell? ⟨G, 3, none⟩ = some (.slice oq st.rcv.length cq) := cell_of h.hp 3
  have y4 : w.cell? ⟨G, 4, none⟩ = some (.bool st.closed) := cell_of h.hp 4
  have BA := hide (below_alloc w (.cells #[.int .i64 x.g, .int .i64 x.c, .int .i64 x.v] 207))
  have e0 : decide ((st.buf.length : Int) < (st.size : Int)) = false := by simpa using hrm
  have l1 := h.leq
  have l2 := h.les
  rw [hcl] at y4
  have P0 := hide h
  have WO := hide fun u (hb : Below w.heap.size w u) => rwithout_any oq st.rcv cq x.g u (own_wat' (P0.out.below hb).rq) l1
  clear h
  generalize hN : (dr x.g st.rcv).length = N at ho WO
  clear hN
  subst ho
  clear hx hx'
  unfold wv
  go_enter Tryz.func148, Tryz.ntmps148
  go_wp2_with fail
  go_quiet (fail)
  go_wp2_with fail
  refine (WO.out _ (btr BA.out (bdrew _ _))).mono ?_
  rintro r w3 ⟨ob, d, rfl, -, b3⟩
  have B3 := hide (btr (btr BA.out (bdrew _ _)) b3)
  have Y3 := hide (heap_below (heap_new w (.cells #[.int .i64 x.g, .int .i64 x.c, .int .i64 x.v] 207)) (btr (bdrew _ _) b3))
  clear b3 WO
  have a0 : w3.cell? ⟨w.heap.size, 0, none⟩ = some (.int .i64 x.g) := cell_of Y3.out 0
  have a1 : w3.cell? ⟨w.heap.size, 1, none⟩ = some (.int .i64 x.c) := cell_of Y3.out 1
  have a2 : w3.cell? ⟨w.heap.size, 2, none⟩ = some (.int .i64 x.v) := cell_of Y3.out 2
  have g1 : w3.cell? ⟨G, 2, none⟩ = some (.slice os 1024 cs) := (cell_of (P0.out.below B3.out).hp 2).trans (by rw [hl]; rfl)
  go_wp2_with fail
  go_ret
  exact ⟨rfl, B3.out⟩
set_option maxRecDepth 100000 in
set_option maxHeartbeats 3200000 in
theorem rwait_true_ok (G : Nat) (F : Nat → Prop) (st : St) (x : Wt) (w : World) (h : Rr w G F st) (hcl : st.closed = false) (hrm : decide (st.buf.length < st.size) = false) (ho : (dr x.g st.rcv).length = 0) (hx : okb x = true) (hl : st.snd.length < 1024) :
    Calls Tryz.prog 148 #[.pointer (some ⟨G, 0, none⟩), .bool true, wv x] w fun r w' => r = .returned (.int .i64 0) ∧ KF F w w' ∧ ∃ F', Nw F' F w ∧ Rr w' G F' { st with snd := st.snd ++ [x] } := by
  have hx' := (okb_iff x).1 hx
  have d1 : decide (x.g < 0) = false := decide_eq_false (by omega)
  have d2 : decide (x.c < -1) = false := decide_eq_false (by omega)
  have hG := h.lt
  obtain ⟨vL, vS, vQ, h⟩ := h
  obtain ⟨ol, cl, os, cs, oq, cq, ⟨rfl, _, _⟩, ⟨rfl, _, _⟩, rfl, _, _⟩ := h.read
  have y0 : w.cell? ⟨G, 0, none⟩ = some (.int .i64 (st.size : Int)) := cell_of h.hp 0
  have y1 : w.cell? ⟨G, 1, none⟩ = some (.slice ol st.buf.length cl) := cell_of h.hp 1
  have y2 : w.cell? ⟨G, 2, none⟩ = some (.slice os st.snd.length cs) := cell_of h.hp 2
  have y3 : w.cell? ⟨G, 3, none⟩ = some (.slice oq st.rcv.length cq) := cell_of h.hp 3
  have y4 : w.cell? ⟨G, 4, none⟩ = some (.bool st.closed) := cell_of h.hp 4
  have BA := hide (below_alloc w (.cells #[.int .i64 x.g, .int .i64 x.c, .int .i64 x.v] 207))
  have e0 : decide ((st.buf.length : Int) < (st.size : Int)) = false := by simpa using hrm
  have l1 := h.leq
  have l2 := h.les
  rw [hcl] at y4
  have P0 := hide h
  have WO := hide fun u (hb : Below w.heap.size w u) => rwithout_any oq st.rcv cq x.g u (own_wat' (P0.out.below hb).rq) l1
  clear h
  generalize hN : (dr x.g st.rcv).length = N at ho WO
  clear hN
  subst ho
  clear hx hx'
  cases hi : Tryz.prog.info? 207 with
  | none => have := info_rw; rw [hi] at this; cases this
  | some i0 =>
  have hx2 := info_rw
  rw [hi] at hx2
  simp at hx2
  have INF := hide (And.intro hi hx2)
  clear hx2 hi
  have d3 : decide (1024 ≤ (st.snd.length : Int)) = false := decide_eq_false (by omega)
  unfold wv
  go_enter Tryz.func148, Tryz.ntmps148
  go_wp2_with fail
  go_quiet (fail)
  go_wp2_with fail
  refine (WO.out _ (btr BA.out (bdrew _ _))).mono ?_
  rintro r w3 ⟨ob, d, rfl, -, b3⟩
  have B3 := hide (btr (btr BA.out (bdrew _ _)) b3)
  have Y3 := hide (heap_below (heap_new w (.cells #[.int .i64 x.g, .int .i64 x.c, .int .i64 x.v] 207)) (btr (bdrew _ _) b3))
  clear b3 WO
  have a0 : w3.cell? ⟨w.heap.size, 0, none⟩ = some (.int .i64 x.g) := cell_of Y3.out 0
  have a1 : w3.cell? ⟨w.heap.size, 1, none⟩ = some (.int .i64 x.c) := cell_of Y3.out 1
  have a2 : w3.cell? ⟨w.heap.size, 2, none⟩ = some (.int .i64 x.v) := cell_of Y3.out 2
  have P3 := hide (P0.out.below B3.out)
  have g1 : w3.cell? ⟨G, 2, none⟩ = some (.slice os st.snd.length cs) := cell_of P3.out.hp 2
  have gf1 := frozen_of P3.out.hp 2
  have SZ3 := B3.out.size
  have hG3 : G < w3.heap.size := by omega
  have hY3 := heap_lt Y3.out
  go_wp2_with fail
  have BD := hide (btr (below_alloc w3 (.cells #[.int .i64 x.g, .int .i64 x.c, .int .i64 x.v] 207)) (bdrew1 _))
  have P4 := hide (P3.out.below BD.out)
  have hS4 : (w3.alloc (.cells #[.int .i64 x.g, .int .i64 x.c, .int .i64 x.v] 207)).drew.heap.size = w3.heap.size + 1 := World.size_alloc _ _
  obtain ⟨v', w6, hr, hown, hgrow, _, hat⟩ := run_append_own_at (P := Tryz.prog) ((w3.alloc (.cells #[.int .i64 x.g, .int .i64 x.c, .int .i64 x.v] 207)).drew) 0 209 209 207 i0 (wv ⟨0, 0, 0⟩) 3 24 Tryz.underlying209 INF.out.1 INF.out.2.1 INF.out.2.2.1 INF.out.2.2.2 rfl (by decide) _ _ _ P4.out.rs ⟨w3.heap.size, 0, none⟩ 1 1 (wc [x]) rfl (src3 w3 x _) (wc_one _) (by unfold maxLen; omega) (by omega) (Nat.zero_le _)
  rw [← wc_app] at hown
  have hown2 : w6.ownsRow 0 207 3 v' (st.snd ++ [x]).length (wc (st.snd ++ [x])) := by rw [List.length_append]; exact hown
  obtain ⟨oa', c', rfl, _, _⟩ := owns_wat hown2
  have hlen : (st.snd ++ [x]).length = st.snd.length + 1 := by simp
  have R6 := hide (P4.out.appS hgrow hown2 hat (by rw [hlen]; omega))
  have G6 := hide (heap_grown hgrow P4.out.hp (fun e => own_ty P4.out.rs P4.out.hp (by decide) e.symm))
  have K6 := hide (KF.grown (KF.of (F := F) (btr B3.out BD.out)) hgrow (fun k e => .inl (P4.out.fs k e)))
  have N6 : Hid (Nw (Fw F (.slice oa' (st.snd ++ [x]).length c')) F w) := Fw.at hat P4.out.fs (by rw [hS4]; omega)
  have g6 : w6.cell? ⟨G, 2, none⟩ = some (.slice os st.snd.length cs) := cell_of G6.out 2
  have gf6 := frozen_of G6.out 2
  have FG := hide P3.out.fg
  have HR := hide hr
  clear hown hown2 hgrow hat BD hr
  rw [hlen] at R6 N6
  go_region_law (refine step_append_run _ (by rfl) _ _ _ _ (by rfl) _ _ (by rfl) (by rfl) _ _ HR.out ?_)
  all_goals
    go_wp2_with fail
    go_ret
    exact ⟨rfl, K6.out.set FG.out 2 _, _, N6.out, R6.out.rr⟩
/-- Wait, of whatever channel -/
theorem rwait_any (G : Nat) (F : Nat → Prop) (st : St) (send : Bool) (x : Wt) (w : World) (h : Rr w G F st) :
    Calls Tryz.prog 148 #[.pointer (some ⟨G, 0, none⟩), .bool send, wv x] w fun r w' => r = .returned (.int .i64 (waitE st send x)) ∧ KF F w w' ∧ ∃ F', Nw F' F w ∧ Rr w' G F' (waitS st send x) := by
  have bel : ∀ {r : Ending} {w' : World} {n : Int}, r = .returned (.int .i64 n) ∧ Below w.heap.size w w' → r = .returned (.int .i64 n) ∧ KF F w w' ∧ ∃ F', Nw F' F w ∧ Rr w' G F' st := fun {r w' n} ⟨e, b⟩ => ⟨e, KF.of b, F, Nw.refl _ _, h.below b⟩
  cases send
  · cases hc : (st.closed || decide (0 < st.buf.length))
    · have hcl : st.closed = false := by
        cases e : st.closed
        · rfl
        · rw [e] at hc; simp at hc
      have hrm : decide (0 < st.buf.length) = false := by rw [hcl] at hc; simpa using hc
      by_cases ho : 0 < (dr x.g st.snd).length
      · have hq : rdyBut st false x.g = true := by simp [rdyBut, room, Pi.own, hcl, hrm, ho]
        rw [show waitE st false x = 7 by simp [waitE, hq], show waitS st false x = st by simp [waitS, hq]]
        exact (rwait_false_others G F st x w h hcl hrm ho).mono fun r w' q => bel q
      · have ho0 : (dr x.g st.snd).length = 0 := by omega
        have hq : rdyBut st false x.g = false := by unfold rdyBut room Pi.own; simp only [Bool.false_eq_true, if_false, Bool.not_false, if_true, hcl, hrm, ho0, Bool.false_or]; rfl
        rw [show waitE st false x = ae st.rcv x by simp [waitE, hq, Pi.own], show waitS st false x = { st with rcv := al st.rcv x } by simp [waitS, hq]]
        cases hx : okb x
        · rw [show ae st.rcv x = 1 by simp [ae, hx], show al st.rcv x = st.rcv by simp [al, hx]]
          exact (rwait_false_arg G F st x w h hcl hrm ho0 hx).mono fun r w' q => bel q
        · by_cases hl : st.rcv.length = 1024
          · rw [show ae st.rcv x = 5 by simp [ae, hx, hl], show al st.rcv x = st.rcv by simp [al, hx, hl]]
            exact (rwait_false_full G F st x w h hcl hrm ho0 hx hl).mono fun r w' q => bel q
          · rw [show ae st.rcv x = 0 by simp [ae, hx, hl], show al st.rcv x = st.rcv ++ [x] by simp [al, hx, hl]]
            exact rwait_false_ok G F st x w h hcl hrm ho0 hx (by obtain ⟨_, _, _, h'⟩ := h; have := h'.leq; omega)
    · have hq : rdyBut st false x.g = true := by unfold rdyBut room; simp only [Bool.false_eq_true, if_false, hc, Bool.true_or]
      rw [show waitE st false x = 7 by simp [waitE, hq], show waitS st false x = st by simp [waitS, hq]]
      exact (rwait_false_ready G F st x w h hc).mono fun r w' q => bel q
  · cases hc : (st.closed || decide (st.buf.length < st.size))
    · have hcl : st.closed = false := by
        cases e : st.closed
        · rfl
        · rw [e] at hc; simp at hc
      have hrm : decide (st.buf.length < st.size) = false := by rw [hcl] at hc; simpa using hc
      by_cases ho : 0 < (dr x.g st.rcv).length
      · have hq : rdyBut st true x.g = true := by simp [rdyBut, room, Pi.own, hcl, hrm, ho]
        rw [show waitE st true x = 7 by simp [waitE, hq], show waitS st true x = st by simp [waitS, hq]]
        exact (rwait_true_others G F st x w h hcl hrm ho).mono fun r w' q => bel q
      · have ho0 : (dr x.g st.rcv).length = 0 := by omega
        have hq : rdyBut st true x.g = false := by unfold rdyBut room Pi.own; simp only [if_true, Bool.not_true, Bool.false_eq_true, if_false, hcl, hrm, ho0, Bool.false_or]; rfl
        rw [show waitE st true x = ae st.snd x by simp [waitE, hq, Pi.own], show waitS st true x = { st with snd := al st.snd x } by simp [waitS, hq]]
        cases hx : okb x
        · rw [show ae st.snd x = 1 by simp [ae, hx], show al st.snd x = st.snd by simp [al, hx]]
          exact (rwait_true_arg G F st x w h hcl hrm ho0 hx).mono fun r w' q => bel q
        · by_cases hl : st.snd.length = 1024
          · rw [show ae st.snd x = 5 by simp [ae, hx, hl], show al st.snd x = st.snd by simp [al, hx, hl]]
            exact (rwait_true_full G F st x w h hcl hrm ho0 hx hl).mono fun r w' q => bel q
          · rw [show ae st.snd x = 0 by simp [ae, hx, hl], show al st.snd x = st.snd ++ [x] by simp [al, hx, hl]]
            exact rwait_true_ok G F st x w h hcl hrm ho0 hx (by obtain ⟨_, _, _, h'⟩ := h; have := h'.les; omega)
    · have hq : rdyBut st true x.g = true := by unfold rdyBut room; simp only [if_true, hc, Bool.true_or]
      rw [show waitE st true x = 7 by simp [waitE, hq], show waitS st true x = st by simp [waitS, hq]]
      exact (rwait_true_ready G F st x w h hc).mono fun r w' q => bel q
end Rp
end Go.Proofs.YtblfimobiibmjaaGreat
/- The reference's channel: Recv, of whatever channel, over this seat's program. -/
namespace Go.Proofs.YtblfimobiibmjaaGreat
open Go.ChangeShapes Go.WideShapes Go.ChangeAt Go.RowKit
namespace Rp
open Ba Pe _root_.Go.Proofs.YtblfimobiibmjaaGreat.Pi

theorem rrecv_any (G : Nat) (F : Nat → Prop) (st : St) (w : World) (h : Rr w G F st) (hs : st.sent < 1000000000) (hg : st.got < 1000000000) :
    Calls Tryz.prog 180 #[.pointer (some ⟨G, 0, none⟩)] w fun r w' => r = .returned (gv (recvG st)) ∧ KF F w w' ∧ ∃ F', Nw F' F w ∧ Rr w' G F' (recvS st) := by
  cases hb : st.buf with
  | nil =>
    cases hr : st.snd with
    | nil =>
      rw [show recvG st = ⟨st.closed, false, false, 0, ⟨0, 0, 0⟩⟩ by simp [recvG, hb, hr], show recvS st = st by simp [recvS, hb, hr]]
      exact rrecv_none G F st w h hb hr
    | cons y t =>
      rw [show recvG st = ⟨true, true, true, y.v, y⟩ by simp [recvG, hb, hr], show recvS st = { st with snd := t, sent := st.sent + 1, got := st.got + 1 } by simp [recvS, hb, hr]]
      exact rrecv_snd G F st y t w h hb hr hs hg
  | cons x b =>
    cases hr : st.snd with
    | nil =>
      rw [show recvG st = ⟨true, true, false, x, ⟨0, 0, 0⟩⟩ by simp [recvG, hb, hr], show recvS st = { st with buf := b, got := st.got + 1 } by simp [recvS, hb, hr]]
      exact rrecv_buf G F st x b w h hb hr hg
    | cons y t =>
      rw [show recvG st = ⟨true, true, true, x, y⟩ by simp [recvG, hb, hr], show recvS st = { st with buf := b ++ [y.v], snd := t, sent := st.sent + 1, got := st.got + 1 } by simp [recvS, hb, hr]]
      exact rrecv_both G F st x b y t w h hb hr hs hg
end Rp
end Go.Proofs.YtblfimobiibmjaaGreat
/- Package pipe: Wait, over this seat's program. -/
namespace Go.Proofs.YtblfimobiibmjaaGreat
open Go.ChangeShapes Go.WideShapes Go.ChangeAt Go.RowKit
namespace Pi
open Ba Pe

end Pi
end Go.Proofs.YtblfimobiibmjaaGreat
/- Package pipe: Close, Drop, over this seat's program. -/
namespace Go.Proofs.YtblfimobiibmjaaGreat
open Go.ChangeShapes Go.WideShapes Go.ChangeAt Go.RowKit
namespace Pi
open Ba Pe

end Pi
end Go.Proofs.YtblfimobiibmjaaGreat
/- Many channels, by a row of pointers, each one's footprint apart from the others'. -/
namespace Go.Proofs.YtblfimobiibmjaaGreat
open Go.ChangeShapes Go.WideShapes Go.ChangeAt Go.RowKit
namespace Fk
open Ba Pe _root_.Go.Proofs.YtblfimobiibmjaaGreat.Pi Rp

/-- a row of pointers -/
def PR (w : World) (oa : Option Addr) (bs : List (Option Nat)) : Prop := ∀ (i : Nat) (o : Option Nat), bs[i]? = some o → ∃ b off, oa = some ⟨b, off, none⟩ ∧ w.cell? ⟨b, off + i, none⟩ = some (pt o)
theorem PR.keep {w w' : World} {oa : Option Addr} {bs : List (Option Nat)} (h : PR w oa bs) (hk : ∀ a, oa = some a → a.block < w.heap.size → w'.heap[a.block]? = w.heap[a.block]?) : PR w' oa bs := by
  intro i o hi
  obtain ⟨b, off, e, hc⟩ := h i o hi
  refine ⟨b, off, e, ?_⟩
  have := hk _ e (World.block_lt_of_cell? w ⟨b, off + i, none⟩ hc)
  rw [← hc]
  simp only at this
  simp only [World.cell?, this]
theorem PR.below {w w' : World} {oa : Option Addr} {bs : List (Option Nat)} (h : PR w oa bs) (hb : Below w.heap.size w w') : PR w' oa bs := h.keep fun _ _ hl => hb.block _ hl
/-- what keeps a channel -/
structure Fr (Q : World → Nat → (Nat → Prop) → St → Prop) : Prop where
  sm : ∀ {w w' : World} {B : Nat} {F : Nat → Prop} {st : St}, Q w B F st → Sm F w w' → Q w' B F st
  bd : ∀ {w : World} {B : Nat} {F : Nat → Prop} {st : St}, Q w B F st → Bd F w
theorem frR : Fr Rr := ⟨fun h s => h.sm s, fun h => h.bd⟩
/-- channels, by name -/
structure Qs (Q : World → Nat → (Nat → Prop) → St → Prop) (w : World) (oa : Option Addr) (bs : List (Option Nat)) (Fs : Nat → Nat → Prop) (sts : List (Option St)) : Prop where
  row : PR w oa bs
  len : bs.length = sts.length
  one : ∀ (i B : Nat), bs[i]? = some (some B) → ∃ st, sts[i]? = some (some st) ∧ Q w B (Fs i) st
  non : ∀ (i : Nat), bs[i]? = some none → sts[i]? = some none
  ap : ∀ i j, i ≠ j → ∀ x, Fs i x → ¬ Fs j x
  nr : ∀ a, oa = some a → ∀ i, ¬ Fs i a.block
  bd : ∀ i, Bd (Fs i) w
theorem Qs.keep {Q : World → Nat → (Nat → Prop) → St → Prop} (fr : Fr Q) {w w' : World} {oa : Option Addr} {bs : List (Option Nat)} {Fs : Nat → Nat → Prop} {sts : List (Option St)} (h : Qs Q w oa bs Fs sts) (hs : ∀ i, Sm (Fs i) w w') (hr : ∀ a, oa = some a → a.block < w.heap.size → w'.heap[a.block]? = w.heap[a.block]?) : Qs Q w' oa bs Fs sts :=
  ⟨h.row.keep hr, h.len, fun i B hi => by
    obtain ⟨st, e, q⟩ := h.one i B hi
    exact ⟨st, e, fr.sm q (hs i)⟩, h.non, h.ap, h.nr, fun i => (h.bd i).sm (hs i)⟩
theorem Qs.below {Q : World → Nat → (Nat → Prop) → St → Prop} (fr : Fr Q) {w w' : World} {oa : Option Addr} {bs : List (Option Nat)} {Fs : Nat → Nat → Prop} {sts : List (Option St)} (h : Qs Q w oa bs Fs sts) (hb : Below w.heap.size w w') : Qs Q w' oa bs Fs sts :=
  h.keep fr (fun i => Sm.below hb (h.bd i)) (fun _ _ hl => hb.block _ hl)
theorem Qs.kf {Q : World → Nat → (Nat → Prop) → St → Prop} (fr : Fr Q) {w w' : World} {G : Nat → Prop} {oa : Option Addr} {bs : List (Option Nat)} {Fs : Nat → Nat → Prop} {sts : List (Option St)} (h : Qs Q w oa bs Fs sts) (k : KF G w w') (hd : ∀ i x, Fs i x → ¬ G x) (hr : ∀ a, oa = some a → ¬ G a.block) : Qs Q w' oa bs Fs sts :=
  h.keep fr (fun i => Sm.kf k (h.bd i) (hd i)) (fun a e hl => k.block _ hl (hr a e))
def up (Fs : Nat → Nat → Prop) (i : Nat) (F : Nat → Prop) : Nat → Nat → Prop := fun j => if j = i then F else Fs j
theorem up_same (Fs : Nat → Nat → Prop) (i : Nat) (F : Nat → Prop) : up Fs i F i = F := by simp [up]
theorem up_other (Fs : Nat → Nat → Prop) (i j : Nat) (F : Nat → Prop) (h : j ≠ i) : up Fs i F j = Fs j := by simp [up, h]
/-- one channel has done something -/
theorem Qs.step {Q : World → Nat → (Nat → Prop) → St → Prop} (fr : Fr Q) {w w' : World} {oa : Option Addr} {bs : List (Option Nat)} {Fs : Nat → Nat → Prop} {sts : List (Option St)} (h : Qs Q w oa bs Fs sts) {i B : Nat} {F' : Nat → Prop} {st' : St} (hi : bs[i]? = some (some B)) (k : KF (Fs i) w w') (n : Nw F' (Fs i) w) (q : Q w' B F' st') (hrl : ∀ a, oa = some a → a.block < w.heap.size) : Qs Q w' oa bs (up Fs i F') (sts.set i (some st')) := by
  have hil : i < bs.length := (List.getElem?_eq_some_iff.1 hi).1
  refine ⟨h.row.keep fun a e hl => k.block _ hl (h.nr a e i), by rw [List.length_set]; exact h.len, fun j C hj => ?_, fun j hj => ?_, fun j l hjl x hx => ?_, fun a e j hf => ?_, fun j => ?_⟩
  · by_cases e : j = i
    · subst e
      rw [hi] at hj
      cases hj
      exact ⟨st', by rw [List.getElem?_set]; simp; rw [← h.len]; exact hil, by rw [up_same]; exact q⟩
    · obtain ⟨st, e1, q1⟩ := h.one j C hj
      exact ⟨st, by rw [List.getElem?_set_ne (Ne.symm e)]; exact e1, by rw [up_other _ _ _ _ e]; exact fr.sm q1 (Sm.kf k (h.bd j) (h.ap j i e))⟩
  · by_cases e : j = i
    · subst e
      rw [hi] at hj
      cases hj
    · rw [List.getElem?_set_ne (Ne.symm e)]
      exact h.non j hj
  · by_cases e1 : j = i
    · subst e1
      rw [up_same] at hx
      rw [up_other _ _ _ _ (Ne.symm hjl)]
      intro hl
      rcases n x hx with z | z
      · exact h.ap j l hjl x z hl
      · have := h.bd l x hl
        omega
    · rw [up_other _ _ _ _ e1] at hx
      by_cases e2 : l = i
      · subst e2
        rw [up_same]
        exact n.apart (h.bd j) (h.ap j l e1) x hx
      · rw [up_other _ _ _ _ e2]
        exact h.ap j l hjl x hx
  · by_cases e1 : j = i
    · subst e1
      rw [up_same] at hf
      rcases n _ hf with z | z
      · exact h.nr a e j z
      · have := hrl a e
        omega
    · rw [up_other _ _ _ _ e1] at hf
      exact h.nr a e j hf
  · by_cases e1 : j = i
    · subst e1
      rw [up_same]
      exact fr.bd q
    · rw [up_other _ _ _ _ e1]
      exact (h.bd j).mono k.size
/-- the channel by a name -/
def nmB {α : Type} (bs : List (Option α)) (c : Int) : Option α := if c < 0 ∨ (bs.length : Int) ≤ c then none else (bs[c.toNat]?).join
theorem Qs.nm {Q : World → Nat → (Nat → Prop) → St → Prop} {w : World} {oa : Option Addr} {bs : List (Option Nat)} {Fs : Nat → Nat → Prop} {sts : List (Option St)} (h : Qs Q w oa bs Fs sts) (c : Int) : (nmB bs c = none ∧ nmB sts c = none) ∨ ∃ B st, nmB bs c = some B ∧ nmB sts c = some st ∧ 0 ≤ c ∧ c.toNat < bs.length ∧ bs[c.toNat]? = some (some B) ∧ sts[c.toNat]? = some (some st) ∧ Q w B (Fs c.toNat) st := by
  unfold nmB
  rw [← h.len]
  by_cases e : c < 0 ∨ (bs.length : Int) ≤ c
  · exact .inl ⟨by rw [if_pos e], by rw [if_pos e]⟩
  · rw [if_neg e, if_neg e]
    have hl : c.toNat < bs.length := by omega
    cases hb : bs[c.toNat]? with
    | none => rw [List.getElem?_eq_none_iff] at hb; omega
    | some o =>
      cases o with
      | none => exact .inl ⟨rfl, by rw [h.non _ hb]; rfl⟩
      | some B =>
        obtain ⟨st, e1, q⟩ := h.one _ _ hb
        exact .inr ⟨B, st, rfl, by rw [e1]; rfl, by omega, hl, rfl, e1, q⟩
/-- a case -/
structure Ca where
  sd : Bool
  ch : Int
  v : Int
def cv (c : Ca) : Value := .agg #[.bool c.sd, .int .i64 c.ch, .int .i64 c.v]
def CaAt (w : World) (oa : Option Addr) (l : List Ca) : Prop :=
  ∀ k x, l[k]? = some x → ∃ b off, oa = some ⟨b, off, none⟩ ∧ w.cell? ⟨b, off + k * 3, none⟩ = some (.bool x.sd) ∧ w.cell? ⟨b, off + k * 3 + 1, none⟩ = some (.int .i64 x.ch) ∧ w.cell? ⟨b, off + k * 3 + 2, none⟩ = some (.int .i64 x.v)
theorem CaAt.nil (w : World) (oa : Option Addr) : CaAt w oa [] := fun _ _ h => by simp at h
theorem CaAt.below {w w' : World} {oa : Option Addr} {l : List Ca} (h : CaAt w oa l) (hb : Below w.heap.size w w') : CaAt w' oa l := by
  intro k x hk
  obtain ⟨b, off, e, h0, h1, h2⟩ := h k x hk
  exact ⟨b, off, e, (hb.cell (World.block_lt_of_cell? w _ h0)).trans h0, (hb.cell (World.block_lt_of_cell? w _ h1)).trans h1, (hb.cell (World.block_lt_of_cell? w _ h2)).trans h2⟩

theorem rnamed_any (oa : Option Addr) (bs : List (Option Nat)) (c : Int) (cp : Nat) (w : World) (h : PR w oa bs) :
    Calls Tryz.prog 144 #[.slice oa bs.length cp, .int .i64 c] w fun r w' => r = .returned (pt (nmB bs c)) ∧ w' = w := by
  unfold nmB
  by_cases h1 : c < 0
  · have d1 : decide (c < 0) = true := decide_eq_true h1
    rw [if_pos (.inl h1)]
    clear h
    go_enter Tryz.func144, Tryz.ntmps144
    go_wp2_with fail
    go_ret
    exact ⟨rfl, rfl⟩
  · have d1 : decide (c < 0) = false := decide_eq_false h1
    obtain ⟨n, rfl⟩ := Int.eq_ofNat_of_zero_le (show 0 ≤ c by omega)
    by_cases h2 : bs.length ≤ n
    · have d2 : decide ((bs.length : Int) ≤ (n : Int)) = true := decide_eq_true (by omega)
      rw [if_pos (.inr (by omega))]
      clear h
      go_enter Tryz.func144, Tryz.ntmps144
      go_wp2_with fail
      go_ret
      exact ⟨rfl, rfl⟩
    · have d2 : decide ((bs.length : Int) ≤ (n : Int)) = false := decide_eq_false (by omega)
      have hlt : (n : Int) < (bs.length : Int) := by omega
      rw [if_neg (by omega), Int.toNat_natCast]
      obtain ⟨o, ho⟩ : ∃ o, bs[n]? = some o := ⟨_, List.getElem?_eq_getElem (by omega)⟩
      obtain ⟨b, off, rfl, hc⟩ := h n o ho
      rw [ho, show (some o).join = o by cases o <;> rfl]
      unfold pt at hc ⊢
      generalize o.map (fun b => (⟨b, 0, none⟩ : Addr)) = q at hc ⊢
      clear h ho
      go_enter Tryz.func144, Tryz.ntmps144
      go_wp2_with fail
      go_ret
      exact ⟨rfl, rfl⟩
end Fk
end Go.Proofs.YtblfimobiibmjaaGreat
/- Package fork: gather, Ready, over this seat's program. -/
namespace Go.Proofs.YtblfimobiibmjaaGreat
open Go.ChangeShapes Go.WideShapes Go.ChangeAt Go.RowKit
namespace Fk
open Ba Pe _root_.Go.Proofs.YtblfimobiibmjaaGreat.Pi Rp

/-- the places below n that are so -/
def ps (P : Nat → Bool) (n : Nat) : List Int := ((List.range n).filter P).map fun (i : Nat) => (i : Int)
theorem ps_zero (P : Nat → Bool) : ps P 0 = [] := rfl
theorem ps_succ (P : Nat → Bool) (n : Nat) : ps P (n + 1) = if P n = true then ps P n ++ [(n : Int)] else ps P n := by
  unfold ps
  rw [List.range_succ, List.filter_append]
  cases h : P n <;> simp [h]
theorem ps_len (P : Nat → Bool) (n : Nat) : (ps P n).length ≤ n := by
  unfold ps
  rw [List.length_map]
  have := List.length_filter_le P (List.range n)
  rw [List.length_range] at this
  exact this
/-- is the case ready? -/
def crdy (sts : List (Option St)) (c : Ca) : Bool := match nmB sts c.ch with | none => false | some st => rdy st c.sd
/-- the places of all ready cases -/
def rdyL (l : List Ca) (sts : List (Option St)) : List Int := ps (fun i => match l[i]? with | none => false | some c => crdy sts c) l.length
end Fk
end Go.Proofs.YtblfimobiibmjaaGreat
/- Package fork: gather, for Park, over this seat's program. -/
namespace Go.Proofs.YtblfimobiibmjaaGreat
open Go.ChangeShapes Go.WideShapes Go.ChangeAt Go.RowKit
namespace Fk
open Ba Pe _root_.Go.Proofs.YtblfimobiibmjaaGreat.Pi Rp

end Fk
end Go.Proofs.YtblfimobiibmjaaGreat
/- Package fork: waiter, Try, Leave, over this seat's program. -/
namespace Go.Proofs.YtblfimobiibmjaaGreat
open Go.ChangeShapes Go.WideShapes Go.ChangeAt Go.RowKit
namespace Fk
open Ba Pe _root_.Go.Proofs.YtblfimobiibmjaaGreat.Pi Rp

def All (Fs : Nat → Nat → Prop) : Nat → Prop := fun x => ∃ i, Fs i x
def NwA (Fs' Fs : Nat → Nat → Prop) (w : World) : Prop := ∀ i x, Fs' i x → All Fs x ∨ w.heap.size ≤ x
theorem NwA.refl (Fs : Nat → Nat → Prop) (w : World) : NwA Fs Fs w := fun i _ h => .inl ⟨i, h⟩
theorem NwA.trans {F G H : Nat → Nat → Prop} {a b : World} (h : NwA G F a) (k : NwA H G b) (hs : a.heap.size ≤ b.heap.size) : NwA H F a := by
  intro i x hx
  rcases k i x hx with ⟨j, q⟩ | q
  · exact h j x q
  · exact .inr (by omega)
theorem Qs.rl {Q : World → Nat → (Nat → Prop) → St → Prop} {w : World} {oa : Option Addr} {bs : List (Option Nat)} {Fs : Nat → Nat → Prop} {sts : List (Option St)} (h : Qs Q w oa bs Fs sts) {i : Nat} {o : Option Nat} (hi : bs[i]? = some o) : ∀ a, oa = some a → a.block < w.heap.size := by
  intro a e
  obtain ⟨b, off, e2, hc⟩ := h.row i o hi
  rw [e] at e2
  cases e2
  exact World.block_lt_of_cell? w ⟨b, off + i, none⟩ hc
/-- what has become of the channels -/
def Rz (Q : World → Nat → (Nat → Prop) → St → Prop) (w w' : World) (oa : Option Addr) (bs : List (Option Nat)) (Fs : Nat → Nat → Prop) (sts : List (Option St)) : Prop :=
  ∃ Fs', NwA Fs' Fs w ∧ Qs Q w' oa bs Fs' sts ∧ KF (All Fs) w w'
theorem Rz.same {Q : World → Nat → (Nat → Prop) → St → Prop} (fr : Fr Q) {w w' : World} {oa : Option Addr} {bs : List (Option Nat)} {Fs : Nat → Nat → Prop} {sts : List (Option St)} (h : Qs Q w oa bs Fs sts) (hb : Below w.heap.size w w') : Rz Q w w' oa bs Fs sts := ⟨Fs, NwA.refl _ _, h.below fr hb, KF.of hb⟩
theorem Rz.below {Q : World → Nat → (Nat → Prop) → St → Prop} (fr : Fr Q) {w a b : World} {oa : Option Addr} {bs : List (Option Nat)} {Fs : Nat → Nat → Prop} {sts : List (Option St)} (h : Rz Q w a oa bs Fs sts) (hb : Below a.heap.size a b) : Rz Q w b oa bs Fs sts := by
  obtain ⟨Fs', n, q, k⟩ := h
  exact ⟨Fs', n, q.below fr hb, k.then hb⟩
theorem Rz.trans {Q : World → Nat → (Nat → Prop) → St → Prop} {w a b : World} {oa : Option Addr} {bs : List (Option Nat)} {Fs Fs1 : Nat → Nat → Prop} {sts : List (Option St)} (n1 : NwA Fs1 Fs w) (k1 : KF (All Fs) w a) (h : Rz Q a b oa bs Fs1 sts) : Rz Q w b oa bs Fs sts := by
  obtain ⟨Fs', n, q, k⟩ := h
  exact ⟨Fs', n1.trans n k1.size, q, k1.trans k (fun x hx => by obtain ⟨i, hi⟩ := hx; exact n1 i x hi)⟩
theorem Rz.step {Q : World → Nat → (Nat → Prop) → St → Prop} (fr : Fr Q) {w a b : World} {oa : Option Addr} {bs : List (Option Nat)} {Fs : Nat → Nat → Prop} {sts : List (Option St)} (h : Qs Q w oa bs Fs sts) (hb : Below w.heap.size w a) {i B : Nat} {F' : Nat → Prop} {st' : St} (hi : bs[i]? = some (some B)) (k : KF (Fs i) a b) (n : Nw F' (Fs i) a) (q : Q b B F' st') : Rz Q w b oa bs Fs (sts.set i (some st')) := by
  have ha := h.below fr hb
  refine ⟨up Fs i F', fun j x hx => ?_, ha.step fr hi k n q (ha.rl hi), (KF.of (F := All Fs) hb).trans k (fun x hx => .inl ⟨i, hx⟩)⟩
  by_cases e : j = i
  · subst e
    rw [up_same] at hx
    rcases n x hx with z | z
    · exact .inl ⟨j, z⟩
    · exact .inr (Nat.le_trans hb.size z)
  · rw [up_other _ _ _ _ e] at hx
    exact .inl ⟨j, hx⟩
/-- the result's cells, a new block, are laid last -/
theorem Rz.set7 {Q : World → Nat → (Nat → Prop) → St → Prop} (fr : Fr Q) {w A : World} {oa : Option Addr} {bs : List (Option Nat)} {Fs : Nat → Nat → Prop} {sts : List (Option St)} {Z : Nat} (h : ∃ Fs', NwA Fs' Fs w ∧ Qs Q A oa bs Fs' sts ∧ KF (All Fs) w A ∧ ∀ i, ¬ Fs' i Z) (hz : w.heap.size ≤ Z) (hr : ∀ a, oa = some a → a.block < w.heap.size ∨ bs = []) (u0 u1 u2 u3 u4 u5 u6 : Value) :
    Rz Q w (((((((A.setCell ⟨Z, 0, none⟩ u0).setCell ⟨Z, 1, none⟩ u1).setCell ⟨Z, 2, none⟩ u2).setCell ⟨Z, 3, none⟩ u3).setCell ⟨Z, 4, none⟩ u4).setCell ⟨Z, 5, none⟩ u5).setCell ⟨Z, 6, none⟩ u6) oa bs Fs sts := by
  obtain ⟨Fs', n, q, k, hn⟩ := h
  have K := (((((((KB.refl Z A).setCell 0 u0).setCell 1 u1).setCell 2 u2).setCell 3 u3).setCell 4 u4).setCell 5 u5).setCell 6 u6
  refine ⟨Fs', n, ?_, ((((((k.setNew hz 0 u0).setNew hz 1 u1).setNew hz 2 u2).setNew hz 3 u3).setNew hz 4 u4).setNew hz 5 u5).setNew hz 6 u6⟩
  have hs : ∀ i, Sm (Fs' i) A (((((((A.setCell ⟨Z, 0, none⟩ u0).setCell ⟨Z, 1, none⟩ u1).setCell ⟨Z, 2, none⟩ u2).setCell ⟨Z, 3, none⟩ u3).setCell ⟨Z, 4, none⟩ u4).setCell ⟨Z, 5, none⟩ u5).setCell ⟨Z, 6, none⟩ u6) := fun i x hx => K.block x (q.bd i x hx) (fun e => hn i (e ▸ hx))
  by_cases hbs : bs = []
  · refine ⟨fun i o hi => by rw [hbs] at hi; simp at hi, q.len, fun i B hi => by rw [hbs] at hi; simp at hi, fun i hi => by rw [hbs] at hi; simp at hi, q.ap, q.nr, fun i => (q.bd i).sm (hs i)⟩
  · exact q.keep fr hs (fun a e hl => K.block _ hl (by have := (hr a e).resolve_right hbs; omega))
def tryG (sts : List (Option St)) (c : Ca) : Gt := match nmB sts c.ch with | none => gz | some st => if c.sd then sendG st else recvG st
def tryE (sts : List (Option St)) (c : Ca) : Int := match nmB sts c.ch with | none => 0 | some st => if c.sd then sendE st else 0
def tryS (sts : List (Option St)) (c : Ca) : List (Option St) := match nmB sts c.ch with | none => sts | some st => sts.set c.ch.toNat (some (if c.sd then sendS st c.v else recvS st))
/-- counts that are far from the greatest -/
def Sml (sts : List (Option St)) : Prop := ∀ (i : Nat) (st : St), sts[i]? = some (some st) → st.sent < 1000000000 ∧ st.got < 1000000000
end Fk
end Go.Proofs.YtblfimobiibmjaaGreat
/- Package fork: Leave, and the reference's Leave and Ready, over this seat's program. -/
namespace Go.Proofs.YtblfimobiibmjaaGreat
open Go.ChangeShapes Go.WideShapes Go.ChangeAt Go.RowKit
namespace Fk
open Ba Pe _root_.Go.Proofs.YtblfimobiibmjaaGreat.Pi Rp

def dropO (g : Int) (o : Option St) : Option St := o.map fun st => dropS st g
def dropM (g : Int) (o : Option St) : Int := match o with | none => 0 | some st => dropN st g
/-- all of g are gone -/
def leaveS (g : Int) (sts : List (Option St)) : List (Option St) := sts.map (dropO g)
def leaveN (g : Int) (sts : List (Option St)) : Int := (sts.map (dropM g)).foldl (· + ·) 0
/-- the first k have left -/
def lvS (g : Int) (sts : List (Option St)) (k : Nat) : List (Option St) := (sts.take k).map (dropO g) ++ sts.drop k
def lvN (g : Int) (sts : List (Option St)) (k : Nat) : Int := ((sts.take k).map (dropM g)).foldl (· + ·) 0
theorem lv_zero (g : Int) (sts : List (Option St)) : lvS g sts 0 = sts := by simp [lvS]
theorem lv_all (g : Int) (sts : List (Option St)) : lvS g sts sts.length = leaveS g sts := by simp [lvS, leaveS]
theorem lvN_all (g : Int) (sts : List (Option St)) : lvN g sts sts.length = leaveN g sts := by simp [lvN, leaveN]
theorem lvN_succ (g : Int) (sts : List (Option St)) (k : Nat) (o : Option St) (h : sts[k]? = some o) : lvN g sts (k + 1) = lvN g sts k + dropM g o := by
  unfold lvN
  rw [List.take_add_one, h, List.map_append, List.foldl_append]
  rfl
theorem lv_at (g : Int) (sts : List (Option St)) (k : Nat) : (lvS g sts k)[k]? = sts[k]? := by
  unfold lvS
  by_cases h : k < sts.length
  · rw [List.getElem?_append_right (by simp; omega)]
    simp [Nat.min_eq_left (Nat.le_of_lt h)]
  · rw [List.getElem?_eq_none (by simp; omega), List.getElem?_eq_none (by omega)]
theorem lv_succ (g : Int) (sts : List (Option St)) (k : Nat) (o : Option St) (h : sts[k]? = some o) : lvS g sts (k + 1) = (lvS g sts k).set k (dropO g o) := by
  have hk : k < sts.length := (List.getElem?_eq_some_iff.1 h).1
  unfold lvS
  rw [List.set_append_right _ _ (by simp; omega)]
  rw [List.take_add_one, h, List.map_append, List.append_assoc]
  congr 1
  rw [List.drop_eq_getElem_cons hk, List.length_map, List.length_take, Nat.min_eq_left (Nat.le_of_lt hk), Nat.sub_self, List.set_cons_zero]
  rfl
theorem lv_none (g : Int) (sts : List (Option St)) (k : Nat) (h : sts[k]? = some none) : lvS g sts (k + 1) = lvS g sts k := by
  rw [lv_succ g sts k none h]
  apply List.ext_getElem?
  intro i
  rw [List.getElem?_set]
  by_cases e : k = i
  · subst e
    have hk : k < (lvS g sts k).length := by
      have := (List.getElem?_eq_some_iff.1 h).1
      simp [lvS]
      omega
    rw [if_pos rfl, if_pos hk, lv_at, h]
    rfl
  · rw [if_neg e]
theorem dropM_bd {g : Int} {st : St} (h1 : st.snd.length ≤ 1024) (h2 : st.rcv.length ≤ 1024) : 0 ≤ dropM g (some st) ∧ dropM g (some st) ≤ 2048 := by
  have a := dr_len g st.snd
  have b := dr_len g st.rcv
  simp only [dropM, dropN]
  omega
set_option maxRecDepth 100000 in
set_option maxHeartbeats 3200000 in
theorem rleave_any (g : Int) (oa : Option Addr) (bs : List (Option Nat)) (cp : Nat) (Fs : Nat → Nat → Prop) (sts : List (Option St)) (w : World) (h : Qs Rr w oa bs Fs sts) (hl : bs.length ≤ 1000) :
    Calls Tryz.prog 172 #[.int .i64 g, .slice oa bs.length cp] w fun r w' => r = .returned (.int .i64 (leaveN g sts)) ∧ Rz Rr w w' oa bs Fs (leaveS g sts) := by
  have H := hide h
  clear h
  go_enter Tryz.func172, Tryz.ntmps172
  go_wp2_with fail
  go_loopw [5, 10] (fun s i wr => ∃ (k : Nat) (n : Int), k ≤ bs.length ∧ i = .int .i64 k ∧ s = .int .i64 n ∧ n = lvN g sts k ∧ (0 ≤ n ∧ n ≤ 2048 * (k : Int)) ∧ Rz Rr w wr oa bs Fs (lvS g sts k)) (fun _ i _ => bs.length - (intOf i).toNat)
  case atStart => exact ⟨0, 0, Nat.zero_le _, rfl, rfl, rfl, ⟨by omega, by omega⟩, by rw [lv_zero]; exact Rz.same frR H.out (Below.refl _ _)⟩
  case round =>
    obtain ⟨k, n, hk, rfl, rfl, hn, hnb, rz⟩ := hrel
    have HN := hide hn
    clear hn
    by_cases hlt : k < bs.length
    · have hlt' : (k : Int) < (bs.length : Int) := by omega
      obtain ⟨Fs1, n1, q1, k1⟩ := rz
      obtain ⟨o, ho⟩ : ∃ o, bs[k]? = some o := ⟨_, List.getElem?_eq_getElem hlt⟩
      obtain ⟨b, off, e, hc⟩ := q1.row k o ho
      subst e
      have Q1 := hide q1
      have N1 := hide n1
      have K1 := hide k1
      cases o with
      | none =>
        have hs := q1.non k ho
        rw [lv_at] at hs
        have E1 := hide (lv_none g sts k hs)
        have E2 := hide (lvN_succ g sts k none hs)
        simp only [pt, Option.map_none] at hc
        clear q1 n1 k1 ho hs
        go_wp2_with fail
        go_roundw
        case rel => exact ⟨k + 1, n, by omega, by go_num, by simp, by rw [E2.out, ← HN.out]; simp [dropM], ⟨hnb.1, by omega⟩, by rw [E1.out]; exact ⟨Fs1, N1.out, Q1.out, K1.out⟩⟩
        case measure => simp [intOf]; omega
      | some B =>
        obtain ⟨st, hs, q⟩ := q1.one k B ho
        have hs' := hs
        rw [lv_at] at hs'
        have E1 := hide (lv_succ g sts k (some st) hs')
        have E2 := hide (lvN_succ g sts k (some st) hs')
        have HO := hide ho
        have DP := hide (rdrop_any B _ st g _ q)
        have BDD : Hid (0 ≤ dropN st g ∧ dropN st g ≤ 2048) := by
          obtain ⟨_, _, _, ro⟩ := q
          exact dropM_bd ro.les ro.leq
        simp only [pt, Option.map_some] at hc
        clear q1 n1 k1 ho hs hs' q
        have hd1 := BDD.out.1
        have hd2 := BDD.out.2
        have ED : Hid (dropM g (some st) = dropN st g) := rfl
        generalize dropN st g = dd at DP hd1 hd2 ED
        go_wp2_with fail
        refine DP.out.mono ?_
        rintro r w2 ⟨rfl, k2, F2, n2, p2⟩
        have R2 := hide (Rz.trans N1.out K1.out (Rz.step frR Q1.out (Below.refl _ _) HO.out k2 n2 p2))
        clear k2 n2 p2
        go_wp2_with fail
        go_roundw
        case rel => exact ⟨k + 1, n + dd, by omega, by go_num, by first | rfl | go_num, by rw [E2.out, ← HN.out, ED.out], ⟨by omega, by omega⟩, by rw [E1.out]; exact R2.out⟩
        case measure => simp [intOf]; omega
    · have hlt' : ¬ ((k : Int) < (bs.length : Int)) := by omega
      obtain rfl : k = bs.length := by omega
      have HE := hide H.out.len
      rw [HE.out, lv_all] at rz
      have RZ := hide rz
      clear rz
      go_wp2_with fail
      go_ret
      exact ⟨ret_int (by rw [HN.out, HE.out, lvN_all]), RZ.out⟩
def cP (l : List Ca) (sts : List (Option St)) : Nat → Bool := fun i => match l[i]? with | none => false | some c => crdy sts c
set_option maxRecDepth 100000 in
set_option maxHeartbeats 3200000 in
theorem rreadyL_any (oc : Option Addr) (l : List Ca) (cc : Nat) (oa : Option Addr) (bs : List (Option Nat)) (cp : Nat) (Fs : Nat → Nat → Prop) (sts : List (Option St)) (w : World) (hC : CaAt w oc l) (h : Qs Rr w oa bs Fs sts) (hl : l.length ≤ 1000) :
    Calls Tryz.prog 153 #[.slice oc l.length cc, .slice oa bs.length cp] w fun r w' => ∃ ob d, r = .returned (.slice ob (rdyL l sts).length d) ∧ w'.ownsRow w.heap.size 3 1 (.slice ob (rdyL l sts).length d) (rdyL l sts).length (ic (rdyL l sts)) ∧ Below w.heap.size w w' := by
  cases hi : Tryz.prog.info? 3 with
  | none => have := info_i; rw [hi] at this; cases this
  | some i0 =>
  have hx2 := info_i
  rw [hi] at hx2
  simp at hx2
  have INF := hide (And.intro hi hx2)
  clear hx2 hi
  have HC := hide hC
  have HQ := hide h
  clear hC h
  obtain ⟨P, hP0⟩ : ∃ P : Nat → Bool, P = cP l sts := ⟨_, rfl⟩
  rw [show rdyL l sts = ps (cP l sts) l.length from rfl, ← hP0]
  have HP0 := hide hP0
  clear hP0
  go_enter Tryz.func153, Tryz.ntmps153
  go_wp2_with fail
  go_loopw [5, 11] (fun rv i wr => ∃ (v : Value) (k : Nat), k ≤ l.length ∧ i = .int .i64 k ∧ rv = v ∧ wr.ownsRow w.heap.size 3 1 v (ps P k).length (ic (ps P k)) ∧ Below w.heap.size w wr) (fun _ i _ => l.length - (intOf i).toNat)
  case atStart => exact ⟨_, 0, Nat.zero_le _, rfl, rfl, World.ownsRow_nil _ _ _ _, Below.refl _ _⟩
  case round =>
    obtain ⟨v, k, hk, rfl, rfl, ho, hb⟩ := hrel
    by_cases hlt : k < l.length
    · have hlt' : (k : Int) < (l.length : Int) := by omega
      obtain ⟨x, hx⟩ : ∃ x, l[k]? = some x := ⟨_, List.getElem?_eq_getElem hlt⟩
      obtain ⟨b, off, rfl, q0, q1, q2⟩ := HC.out.below hb k x hx
      have SU := hide (ps_succ P k)
      have hpl := ps_len P k
      have PK : Hid (P k = crdy sts x) := by show _ = _; rw [HP0.out]; unfold cP; simp only [hx]
      have BX := below_alloc wr (.cells #[.bool x.sd, .int .i64 x.ch, .int .i64 x.v] 166)
      have XN := hide (heap_new wr (.cells #[.bool x.sd, .int .i64 x.ch, .int .i64 x.v] 166))
      have HB := hide (btr hb BX)
      have OW := hide (own_below ho BX)
      have Q1 := hide (HQ.out.below frR HB.out)
      have NM := hide (rnamed_any oa bs x.ch cp _ Q1.out.row)
      clear hb hx BX ho
      obtain ⟨X, hX⟩ : ∃ X, X = ps P k := ⟨_, rfl⟩
      rw [← hX] at SU hpl OW
      clear hX
      unfold crdy at PK
      rcases Q1.out.nm x.ch with ⟨e1, e2⟩ | ⟨B, st, e1, e2, _, _, _, _, q⟩
      · rw [e2] at PK
        rw [e1] at NM
        simp only [pt, Option.map_none] at NM
        have EX : Hid (ps P (k + 1) = X) := by show _ = _; rw [SU.out, PK.out]; simp
        clear e1 e2 Q1
        go_wp2_with fail
        generalize wr.alloc (.cells #[.bool x.sd, .int .i64 x.ch, .int .i64 x.v] 166) = W1 at XN HB OW NM ⊢
        generalize wr.heap.size = A at XN ⊢
        refine NM.out.mono ?_
        rintro r z2 ⟨rfl, rfl⟩
        have O3 : Hid (z2.ownsRow w.heap.size 3 1 u5 (ps P (k + 1)).length (ic (ps P (k + 1)))) := by
          show World.ownsRow _ _ _ _ _ _ _
          rw [EX.out]
          exact OW.out
        go_wp2_with fail
        go_roundw
        case rel =>
          first
            | exact ⟨_, k + 1, by omega, by go_num, rfl, O3.out, HB.out⟩
            | exact ⟨k + 1, by omega, by go_num, O3.out, HB.out⟩
        case measure => simp [intOf]; omega
      · rw [e2] at PK
        rw [e1] at NM
        simp only [pt, Option.map_some] at NM
        simp only at PK
        have RD := hide (rready_any B _ st x.sd _ q)
        clear e1 e2 Q1 q
        go_wp2_with fail
        generalize wr.alloc (.cells #[.bool x.sd, .int .i64 x.ch, .int .i64 x.v] 166) = W1 at XN HB OW NM RD ⊢
        generalize wr.heap.size = A at XN ⊢
        refine NM.out.mono ?_
        rintro r z1 ⟨rfl, rfl⟩
        have e0 : z1.cell? ⟨A, 0, none⟩ = some (.bool x.sd) := cell_of XN.out 0
        go_wp2_with fail
        refine RD.out.mono ?_
        rintro r z2 ⟨rfl, k2⟩
        have HB2 := hide (btr HB.out k2)
        have OW2 := hide (own_below OW.out k2)
        clear k2 HB OW NM RD e0 XN
        cases hP : rdy st x.sd
        · have EX : Hid (ps P (k + 1) = X) := by show _ = _; rw [SU.out, PK.out, hP]; simp
          have O3 : Hid (z2.ownsRow w.heap.size 3 1 u5 (ps P (k + 1)).length (ic (ps P (k + 1)))) := by
            show World.ownsRow _ _ _ _ _ _ _
            rw [EX.out]
            exact OW2.out
          go_wp2_with fail
          go_roundw
          case rel =>
            first
              | exact ⟨_, k + 1, by omega, by go_num, rfl, O3.out, HB2.out⟩
              | exact ⟨k + 1, by omega, by go_num, O3.out, HB2.out⟩
          case measure => simp [intOf]; omega
        · have EX : Hid (ps P (k + 1) = X ++ [(k : Int)]) := by show _ = _; rw [SU.out, PK.out, hP]; simp
          have BY := below_alloc z2 (.cells #[.int .i64 (k : Int)] 3)
          have OW3 := hide (own_below OW2.out BY)
          have HB3 := hide (btr HB2.out BY)
          have SRC := hide (cell_one_new z2 (.int .i64 (k : Int)) 3)
          clear BY OW2 HB2
          go_wp2_with (at_builtin; refine wpList_append_own _ rfl _ _ 67 rfl w.heap.size 3 i0 (.int .i64 0) 1 8 Tryz.underlying67 INF.out.1 INF.out.2.1 INF.out.2.2.1 INF.out.2.2.2 rfl (by decide) _ _ _ rfl OW3.out ⟨z2.heap.size, 0, none⟩ 1 1 [.int .i64 (k : Int)] rfl rfl ?c1 ?c2 ?c3 ?c4 ?c5 ?_)
          case c1 => exact SRC.out
          case c2 => exact ic_one [(k : Int)]
          case c3 => unfold maxLen; omega
          case c4 => omega
          case c5 => exact HB3.out.size
          intro v' w3 ho hg3 _
          have B3 : Hid (Below w.heap.size w w3) := HB3.out.grown hg3 HB3.out.size (fun x hx => (OW3.out.lt x hx).1)
          have O3 : Hid (w3.ownsRow w.heap.size 3 1 v' (ps P (k + 1)).length (ic (ps P (k + 1)))) := by
            show World.ownsRow _ _ _ _ _ _ _
            rw [EX.out, ic_app, List.length_append]
            exact ho
          clear ho hg3
          go_wp2_with fail
          go_roundw
          case rel =>
            first
              | exact ⟨v', k + 1, by omega, by go_num, rfl, O3.out, B3.out⟩
              | ((repeat apply Exists.intro); exact ⟨⟨v', k + 1, by omega, by go_num, rfl, O3.out, B3.out⟩, rfl⟩)
          case measure => simp [intOf]; omega
    · have hlt' : ¬ ((k : Int) < (l.length : Int)) := by omega
      obtain rfl : k = l.length := by omega
      obtain ⟨oa', c', hv', _, _⟩ := own_at ho
      subst hv'
      have HO := hide ho
      have HB := hide hb
      clear ho hb
      go_wp2_with fail
      go_ret
      exact ⟨oa', c', rfl, HO.out, HB.out⟩
end Fk
end Go.Proofs.YtblfimobiibmjaaGreat
/- Package fork: rehearse, over this seat's program. -/
namespace Go.Proofs.YtblfimobiibmjaaGreat
open Go.ChangeShapes Go.WideShapes Go.ChangeAt Go.RowKit
namespace Fk
open Ba Pe _root_.Go.Proofs.YtblfimobiibmjaaGreat.Pi Rp

theorem ps_mem {P : Nat → Bool} {n : Nat} {k : Nat} (hk : k < (ps P n).length) : ∃ p : Nat, nth (ps P n) k = (p : Int) ∧ p < n ∧ P p = true := by
  rw [nth_lt _ _ hk]
  have hm := List.getElem_mem hk
  unfold ps at hm
  obtain ⟨p, hp, e⟩ := List.mem_map.1 hm
  rw [List.mem_filter, List.mem_range] at hp
  exact ⟨p, e.symm, hp.1, hp.2⟩
/-- do two cases stand in one pew? -/
def smP (bs : List (Option Nat)) (c : Ca) (l : List Ca) : Nat → Bool := fun i => match l[i]? with | none => false | some o => decide (nmB bs o.ch = nmB bs c.ch) && (o.sd == c.sd)
theorem al_len (l : List Wt) (x : Wt) : (al l x).length ≤ l.length + 1 := by
  unfold al
  split
  · split <;> simp
  · omega
theorem ae_ok {l : List Wt} {x : Wt} (h : okb x = true) (hl : l.length ≠ 1024) : ae l x = 0 := by simp [ae, h, hl]
theorem own_at2 {w : World} {base : Nat} {v : Value} {l : List Int} (h : w.ownsRow base 3 1 v l.length (ic l)) : ∃ oa c, v = .slice oa l.length c ∧ At w oa l ∧ ∀ a, oa = some a → base ≤ a.block := by
  obtain ⟨oa, c, e, h1, h2⟩ := own_at h
  refine ⟨oa, c, e, h1, fun a ea => ?_⟩
  rcases h.2 with ⟨e2, h0⟩ | ⟨g, cap, cur, e2, hbase, _⟩
  · rw [e, ea] at e2
    cases e2
  · rw [e, ea] at e2
    simp only [Value.slice.injEq, Option.some.injEq] at e2
    rw [e2.1]
    exact hbase
theorem at_kf {w w' : World} {F : Nat → Prop} {oa : Option Addr} {l : List Int} (h : At w oa l) (k : KF F w w') (hn : ∀ a, oa = some a → ¬ F a.block) : At w' oa l := by
  intro j hj
  obtain ⟨b, off, e, h0⟩ := h j hj
  exact ⟨b, off, e, k.cell h0 (hn _ e)⟩
end Fk
end Go.Proofs.YtblfimobiibmjaaGreat
/- Package fork: Park's own facts. -/
namespace Go.Proofs.YtblfimobiibmjaaGreat
open Go.ChangeShapes Go.WideShapes Go.ChangeAt Go.RowKit
namespace Fk
open Ba Pe _root_.Go.Proofs.YtblfimobiibmjaaGreat.Pi Rp

/-- one case waits -/
def pk1 (g : Int) (p : Nat) (c : Ca) (s : List (Option St)) : List (Option St) := match nmB s c.ch with | none => s | some st => s.set c.ch.toNat (some (waitS st c.sd ⟨g, p, c.v⟩))
/-- the cases below k wait -/
def pkS (g : Int) (l : List Ca) (s : List (Option St)) : Nat → List (Option St)
  | 0 => s
  | k + 1 => match l[k]? with | none => pkS g l s k | some c => pk1 g k c (pkS g l s k)
/-- the cases at places wait -/
def pkL (g : Int) (l : List Ca) (s : List (Option St)) (L : List Int) : List (Option St) := L.foldl (fun s p => match l[p.toNat]? with | none => s | some c => pk1 g p.toNat c s) s
theorem pkL_app (g : Int) (l : List Ca) (s : List (Option St)) (L : List Int) (p : Nat) (c : Ca) (h : l[p]? = some c) : pkL g l s (L ++ [(p : Int)]) = pk1 g p c (pkL g l s L) := by
  unfold pkL
  rw [List.foldl_append]
  simp only [List.foldl_cons, List.foldl_nil, Int.toNat_natCast, h]
/-- has the case a channel? -/
def hasC (s : List (Option St)) (l : List Ca) : Nat → Bool := fun i => match l[i]? with | none => false | some c => (nmB s c.ch).isSome
theorem nmB_set {s : List (Option St)} {c d : Int} {st : St} (v : St) (h : nmB s c = some st) : nmB (s.set c.toNat (some v)) d = if d = c then some v else nmB s d := by
  unfold nmB at h ⊢
  split at h
  · cases h
  · rename_i e
    rw [List.length_set]
    by_cases ed : d = c
    · subst ed
      rw [if_neg e, if_pos rfl, List.getElem?_set_self (by omega)]
      rfl
    · rw [if_neg ed]
      split
      · rfl
      · rw [List.getElem?_set_ne (by omega)]
theorem nmB_at {s : List (Option St)} {c : Int} {st : St} (h : nmB s c = some st) : s[c.toNat]? = some (some st) := by
  unfold nmB at h
  split at h
  · cases h
  · cases e : s[c.toNat]? with
    | none => rw [e] at h; cases h
    | some o => rw [e] at h; exact congrArg some h
theorem pk1_none (g : Int) (p : Nat) (c : Ca) (s : List (Option St)) (d : Int) : nmB (pk1 g p c s) d = none ↔ nmB s d = none := by
  unfold pk1
  cases h : nmB s c.ch with
  | none => rfl
  | some st =>
    simp only
    rw [nmB_set _ h]
    by_cases e : d = c.ch
    · subst e
      rw [if_pos rfl, h]
      simp
    · rw [if_neg e]
theorem pkS_none (g : Int) (l : List Ca) (s : List (Option St)) (k : Nat) (d : Int) : nmB (pkS g l s k) d = none ↔ nmB s d = none := by
  induction k with
  | zero => rfl
  | succ k ih =>
    unfold pkS
    cases h : l[k]? with
    | none => exact ih
    | some c => exact (pk1_none g k c _ d).trans ih
theorem pk_ps (g : Int) (l : List Ca) (s : List (Option St)) (k : Nat) : pkL g l s (ps (hasC s l) k) = pkS g l s k := by
  induction k with
  | zero => rfl
  | succ k ih =>
    rw [ps_succ]
    unfold pkS
    cases h : l[k]? with
    | none =>
      have e : hasC s l k = false := by unfold hasC; rw [h]
      rw [e]
      simp only [Bool.false_eq_true, if_false]
      exact ih
    | some c =>
      cases hn : nmB s c.ch with
      | none =>
        have e : hasC s l k = false := by unfold hasC; rw [h]; simp only [hn]; rfl
        rw [e]
        simp only [Bool.false_eq_true, if_false]
        rw [ih]
        unfold pk1
        rw [(pkS_none g l s k c.ch).2 hn]
      | some st =>
        have e : hasC s l k = true := by unfold hasC; rw [h]; simp only [hn]; rfl
        rw [e]
        simp only [if_true]
        rw [pkL_app g l s _ k c h, ih]
/-- no case is ready for g, but for its own waiters -/
structure Iv (g : Int) (l : List Ca) (m : Nat) (s : List (Option St)) : Prop where
  no : ∀ c ∈ l, ∀ st, nmB s c.ch = some st → st.closed = false ∧ room st c.sd = false ∧ ∀ x ∈ own st (!c.sd), x.g = g
  le : ∀ (i : Nat) (st : St), s[i]? = some (some st) → ∀ b, (own st b).length ≤ m
theorem dr_nil {g : Int} {L : List Wt} (h : ∀ x ∈ L, x.g = g) : dr g L = [] := by
  unfold dr
  rw [List.filter_eq_nil_iff]
  intro x hx
  simp [h x hx]
theorem Iv.ok {g : Int} {l : List Ca} {m : Nat} {s : List (Option St)} (h : Iv g l m s) (hg : 0 ≤ g) (hm : m < 1024) {c : Ca} (hc : c ∈ l) {st : St} (hn : nmB s c.ch = some st) (p : Nat) : waitE st c.sd ⟨g, p, c.v⟩ = 0 ∧ waitS st c.sd ⟨g, p, c.v⟩ = if c.sd then { st with snd := st.snd ++ [⟨g, p, c.v⟩] } else { st with rcv := st.rcv ++ [⟨g, p, c.v⟩] } := by
  obtain ⟨h1, h2, h3⟩ := h.no c hc st hn
  have hl := h.le _ _ (nmB_at hn)
  have hr : rdyBut st c.sd g = false := by
    unfold rdyBut
    rw [h1, h2, dr_nil h3]
    rfl
  have ho : okb ⟨g, (p : Int), c.v⟩ = true := (okb_iff _).2 ⟨hg, by simp only; omega⟩
  unfold waitE waitS
  simp only [hr, Bool.false_eq_true, if_false]
  refine ⟨ae_ok ho (by have := hl c.sd; omega), ?_⟩
  have ht := hl true
  have hf := hl false
  unfold own at ht hf
  simp only [if_true, Bool.false_eq_true, if_false] at ht hf
  have e1 : al st.snd ⟨g, (p : Int), c.v⟩ = st.snd ++ [⟨g, (p : Int), c.v⟩] := by
    unfold al
    rw [if_pos ho, if_neg (by omega)]
  have e2 : al st.rcv ⟨g, (p : Int), c.v⟩ = st.rcv ++ [⟨g, (p : Int), c.v⟩] := by
    unfold al
    rw [if_pos ho, if_neg (by omega)]
  rw [e1, e2]
theorem Iv.step {g : Int} {l : List Ca} {m : Nat} {s : List (Option St)} (h : Iv g l m s) (hg : 0 ≤ g) (hm : m < 1024) {c : Ca} (hc : c ∈ l) (p : Nat) : Iv g l (m + 1) (pk1 g p c s) := by
  unfold pk1
  cases hn : nmB s c.ch with
  | none => exact ⟨h.no, fun i st hi b => Nat.le_succ_of_le (h.le i st hi b)⟩
  | some st =>
    simp only
    rw [(h.ok hg hm hc hn p).2]
    constructor
    · intro d hd st' hs
      rw [nmB_set _ hn] at hs
      by_cases e : d.ch = c.ch
      · rw [if_pos e] at hs
        rw [← e] at hn
        obtain ⟨h1, h2, h3⟩ := h.no d hd st hn
        cases hs
        cases hcs : c.sd
        · simp only [Bool.false_eq_true, if_false]
          refine ⟨h1, h2, ?_⟩
          cases hds : d.sd
          · rw [hds] at h3; exact h3
          · rw [hds] at h3
            intro x hx
            rcases List.mem_append.1 hx with q | q
            · exact h3 x q
            · rw [List.mem_singleton] at q; rw [q]
        · simp only [if_true]
          refine ⟨h1, h2, ?_⟩
          cases hds : d.sd
          · rw [hds] at h3
            intro x hx
            rcases List.mem_append.1 hx with q | q
            · exact h3 x q
            · rw [List.mem_singleton] at q; rw [q]
          · rw [hds] at h3; exact h3
      · rw [if_neg e] at hs
        exact h.no d hd st' hs
    · intro i st' hi b
      have hl := h.le _ _ (nmB_at hn)
      by_cases e : i = c.ch.toNat
      · subst e
        have hlt := (List.getElem?_eq_some_iff.1 (nmB_at hn)).1
        rw [List.getElem?_set_self hlt] at hi
        cases hi
        have ht := hl true
        have hf := hl false
        unfold own at ht hf ⊢
        simp only [if_true, Bool.false_eq_true, if_false] at ht hf
        cases c.sd <;> cases b <;> simp <;> omega
      · rw [List.getElem?_set_ne (fun q => e q.symm)] at hi
        exact Nat.le_succ_of_le (h.le i st' hi b)
theorem Iv.all {g : Int} {l : List Ca} {m : Nat} {s : List (Option St)} (h : Iv g l m s) (hg : 0 ≤ g) (k : Nat) (hm : m + k < 1024) : Iv g l (m + k) (pkS g l s k) := by
  induction k with
  | zero => exact h
  | succ k ih =>
    have i1 := ih (by omega)
    unfold pkS
    cases hk : l[k]? with
    | none => exact ⟨i1.no, fun i st hi b => by have := i1.le i st hi b; omega⟩
    | some c => exact i1.step hg (by omega) (List.mem_of_getElem? hk) k
theorem ps_nil {P : Nat → Bool} {n : Nat} (h : ps P n = []) (k : Nat) (hk : k < n) : P k = false := by
  unfold ps at h
  rw [List.map_eq_nil_iff, List.filter_eq_nil_iff] at h
  have := h k (List.mem_range.2 hk)
  simpa using this
theorem Iv.start {g : Int} {l : List Ca} {m : Nat} {s : List (Option St)} (h : rdyL l s = []) (hl : ∀ (i : Nat) (st : St), s[i]? = some (some st) → ∀ b, (own st b).length ≤ m) : Iv g l m s := by
  refine ⟨fun c hc st hn => ?_, hl⟩
  obtain ⟨k, hk⟩ := List.getElem?_of_mem hc
  have hkl := (List.getElem?_eq_some_iff.1 hk).1
  have q := ps_nil h k hkl
  simp only [hk] at q
  unfold crdy at q
  rw [hn] at q
  simp only at q
  unfold rdy at q
  simp only [Bool.or_eq_false_iff, decide_eq_false_iff_not, Nat.not_lt, Nat.le_zero] at q
  refine ⟨q.1.1, q.1.2, fun x hx => ?_⟩
  rw [List.eq_nil_of_length_eq_zero q.2] at hx
  cases hx
/-- what Park answers, and what it leaves -/
def pkBad (g : Int) (l : List Ca) : Bool := decide (g < 0) || decide (4 < l.length)
def pkE (g : Int) (l : List Ca) (s : List (Option St)) : Int := if pkBad g l = true then 1 else if 0 < (rdyL l s).length then 7 else 0
def pkN (g : Int) (l : List Ca) (s : List (Option St)) : Int := if pkBad g l = true then 0 else if 0 < (rdyL l s).length then 0 else ((ps (hasC s l) l.length).length : Int)
def pkA (g : Int) (l : List Ca) (s : List (Option St)) : List (Option St) := if pkBad g l = true then s else if 0 < (rdyL l s).length then s else pkS g l s l.length
end Fk
end Go.Proofs.YtblfimobiibmjaaGreat
/- Package pick: allBetween, take, over this seat's program. -/
namespace Go.Proofs.YtblfimobiibmjaaGreat
open Go.ChangeShapes Go.WideShapes Go.ChangeAt Go.RowKit
namespace Pk
open Ba

/-- all from lo to hi -/
def ab (lo hi : Int) (l : List Int) : Bool := l.all fun x => decide (lo ≤ x) && decide (x ≤ hi)
theorem ab_iff (lo hi : Int) (l : List Int) : ab lo hi l = true ↔ ∀ x ∈ l, lo ≤ x ∧ x ≤ hi := by
  simp [ab]
theorem ab_nth {lo hi : Int} {l : List Int} : ab lo hi l = true ↔ ∀ k, k < l.length → lo ≤ nth l k ∧ nth l k ≤ hi := by
  rw [ab_iff]
  constructor
  · intro h k hk
    rw [nth_lt l k hk]
    exact h _ (List.getElem_mem hk)
  · intro h x hx
    obtain ⟨k, hk, rfl⟩ := List.mem_iff_getElem.1 hx
    rw [← nth_lt l k hk]
    exact h k hk

theorem at_tail {w w' : World} {C i b off off' : Nat} {x : Int} {l : List Int} {v : Value} (h : At w (some ⟨b, off, none⟩) (x :: l)) (hb : b < C) (ho : 0 < l.length → off' = off + 1) (hw : w' = w.setCell ⟨C, i, none⟩ v) : At w' (some ⟨b, off', none⟩) l := by
  subst hw
  intro k hk
  obtain rfl := ho (by omega)
  obtain ⟨b', o', e, hc⟩ := ((KB.refl C w).setCell i v).at h.tail (fun a e => by cases e; show b ≠ C; omega) k hk
  exact ⟨b', o', e, hc⟩
theorem hmf : ∀ (fn : Fn) (first cap : Array Value) (w : World), (Instr.makeFunc fn first cap).run Tryz.prog w = .ok (.func fn first cap) w := fun _ _ _ _ => rfl

end Pk
end Go.Proofs.YtblfimobiibmjaaGreat
/- Package pick: Next, Draw, Left, fresh, New, Copy, over this seat's program. -/
namespace Go.Proofs.YtblfimobiibmjaaGreat
open Go.ChangeShapes Go.WideShapes Go.ChangeAt Go.RowKit
namespace Pk
open Ba

end Pk
end Go.Proofs.YtblfimobiibmjaaGreat
/- Package pick: fresh, New, Copy and the laws' own draws(), over this seat's program. -/
namespace Go.Proofs.YtblfimobiibmjaaGreat
open Go.ChangeShapes Go.WideShapes Go.ChangeAt Go.RowKit
namespace Pk
open Ba

theorem info_int : (Tryz.prog.info? 3).map (fun i => (i.zero, i.size, i.bytes)) = some (some (.int .i64 0), 1, 8) := by kernel_rfl
/-- what a new cursor is, or why there is none -/
def ne (p d : List Int) : Int := bif decide (200 < p.length) || decide (64 < d.length) then 2 else bif ab (-1) 1000 p && ab 0 1000 d then 0 else 4

theorem ne_zero {p d : List Int} (h : ne p d = 0) : p.length ≤ 200 ∧ d.length ≤ 64 ∧ ab (-1) 1000 p = true ∧ ab 0 1000 d = true := by
  unfold ne at h
  cases h1 : decide (200 < p.length) <;> cases h2 : decide (64 < d.length) <;> cases h3 : ab (-1) 1000 p <;> cases h4 : ab 0 1000 d <;> rw [h1, h2, h3, h4] at h <;> simp at h h1 h2 ⊢
  exact ⟨h1, h2⟩
end Pk
end Go.Proofs.YtblfimobiibmjaaGreat
/- Package pick: Copy, and the laws' own draws(), over this seat's program. -/
namespace Go.Proofs.YtblfimobiibmjaaGreat
open Go.ChangeShapes Go.WideShapes Go.ChangeAt Go.RowKit
namespace Pk
open Ba

end Pk
end Go.Proofs.YtblfimobiibmjaaGreat
/- Package pick: Of, and the reference's, over this seat's program. -/
namespace Go.Proofs.YtblfimobiibmjaaGreat
open Go.ChangeShapes Go.WideShapes Go.ChangeAt Go.RowKit
namespace Pk
open Ba

end Pk
end Go.Proofs.YtblfimobiibmjaaGreat
/- Package pick: Next and Draw of whatever cursor; the reference's, over this seat's program. -/
namespace Go.Proofs.YtblfimobiibmjaaGreat
open Go.ChangeShapes Go.WideShapes Go.ChangeAt Go.RowKit
namespace Pk
open Ba

def nok (p : List Int) : Bool := !p.isEmpty
def dv (d : List Int) (n : Int) : Int := if n < 1 ∨ 64 < n then 0 else if n = 1 then 0 else nth d 0 % n
def de (n : Int) : Int := if n < 1 ∨ 64 < n then 1 else 0
def dr (d : List Int) (n : Int) : List Int := if n < 1 ∨ 64 < n ∨ n = 1 then d else d.tail
theorem dr_sub {d : List Int} {n x : Int} (h : x ∈ dr d n) : x ∈ d := by
  unfold dr at h
  split at h
  · exact h
  · exact List.mem_of_mem_tail h
/-- the reference's cursor lies in block R: of lists below N, p and d are left -/
def RCur (w : World) (R N : Nat) (p d : List Int) : Prop :=
  ∃ oa ca ob cb P D p0 d0, w.heap[R]? = some (.cells #[.slice oa (p0 : List Int).length ca, .slice ob (d0 : List Int).length cb, .int .i64 ((P : Nat) : Int), .int .i64 ((D : Nat) : Int)] 170 (0, 0)) ∧ (At w oa p0 ∧ P ≤ p0.length ∧ p = p0.drop P ∧ p0.length ≤ 200 ∧ (0 < p0.length → ∀ a, oa = some a → a.block < N)) ∧ At w ob d0 ∧ D ≤ d0.length ∧ d = d0.drop D ∧ d0.length ≤ 64 ∧ (0 < d0.length → ∀ a, ob = some a → a.block < N)
theorem RCur.kb {w w' : World} {R N Q : Nat} {p d : List Int} (h : RCur w R N p d) (k : KB Q w w') (h1 : R ≠ Q) (h2 : N ≤ Q) : RCur w' R N p d := by
  obtain ⟨oa, ca, ob, cb, P, D, p0, d0, q0, ⟨q1, q2, q3, q4, q5⟩, q6, q7, q8, q9, q10⟩ := h
  exact ⟨oa, ca, ob, cb, P, D, p0, d0, k.heap q0 h1, ⟨k.at' q1 fun h a e => by have := q5 h a e; omega, q2, q3, q4, q5⟩, k.at' q6 fun h a e => by have := q10 h a e; omega, q7, q8, q9, q10⟩
theorem RCur.below {w w' : World} {R N : Nat} {p d : List Int} (h : RCur w R N p d) (hb : Below w.heap.size w w') : RCur w' R N p d := by
  obtain ⟨oa, ca, ob, cb, P, D, p0, d0, q0, ⟨q1, q2, q3, q4, q5⟩, q6, q7, q8, q9, q10⟩ := h
  exact ⟨oa, ca, ob, cb, P, D, p0, d0, heap_below q0 hb, ⟨q1.below hb, q2, q3, q4, q5⟩, q6.below hb, q7, q8, q9, q10⟩
theorem nth_drop (l : List Int) (P : Nat) : nth (l.drop P) 0 = nth l P := by simp [nth]
theorem nok_drop (l : List Int) (P : Nat) : nok (l.drop P) = decide (P < l.length) := by
  unfold nok
  cases h : l.drop P with
  | nil =>
    rw [List.drop_eq_nil_iff] at h
    simp [h]
  | cons x t =>
    have := congrArg List.length h
    simp at this
    simp
    omega

set_option maxHeartbeats 1600000 in
theorem rnext_any (R N : Nat) (p d : List Int) (w : World) (h : RCur w R N p d) (hN : N ≤ R) :
    Calls Tryz.prog 103 #[.pointer (some ⟨R, 0, none⟩)] w fun r w' => r = .returned (.tuple #[.int .i64 (nth p 0), .bool (nok p)]) ∧ RCur w' R N p.tail d ∧ KB R w w' := by
  obtain ⟨oa, ca, ob, cb, P, D, p0, d0, q0, ⟨q1, q2, q3, q4, q5⟩, q6, q7, q8, q9, q10⟩ := h
  subst q3 q8
  rw [nth_drop, nok_drop]
  have c0 := cell_of q0 0
  have c2 := cell_of q0 2
  have f2 := frozen_of q0 2
  simp at c0 c2
  have H := hide q0
  have H1 := hide q1
  have H6 := hide q6
  by_cases hP : P < p0.length
  · have hP' : decide ((p0.length : Int) ≤ (P : Int)) = false := by simp; omega
    have hPd : decide (P < p0.length) = true := by simp; omega
    rw [hPd]
    obtain ⟨b, off, rfl, hc⟩ := q1 P hP
    have hb : b < N := q5 (by omega) _ rfl
    have hc' : (w.setCell ⟨R, 2, none⟩ (.int .i64 ((P : Int) + 1))).cell? ⟨b, off + P, none⟩ = some (.int .i64 (nth p0 P)) := ((KB.refl R w).setCell 2 _).cell hc (by omega)
    have hlt' : (P : Int) < (p0.length : Int) := by omega
    have X := hide (Ba.heap_setCell_same q0 (i := 2) (.int .i64 ((P : Int) + 1)))
    have x0 := cell_of X.out 0
    have x2 := cell_of X.out 2
    simp at x0 x2
    clear q0 q1 q6
    go_enter Tryz.func103, Tryz.ntmps103
    go_wp2_with fail
    go_quiet (fail)
    go_wp2_with fail
    go_quiet (fail)
    go_wp2_with fail
    go_ret2
    refine ⟨rfl, ?_, by first | exact ((KB.refl R w).setCell 2 _).trans (KB.of (bdrew _ _)) | exact ((KB.of (bdrew _ _)).setCell 2 _).trans (KB.of (bdrew _ _))⟩
    refine RCur.below (w := w.setCell ⟨R, 2, none⟩ (.int .i64 ((P : Int) + 1))) ⟨some ⟨b, off, none⟩, ca, ob, cb, P + 1, D, p0, d0, ?_, ⟨((KB.refl R w).setCell 2 _).at' H1.out fun h a e => by have := q5 h a e; omega, by omega, by simp, q4, q5⟩, ((KB.refl R w).setCell 2 _).at' H6.out fun h a e => by have := q10 h a e; omega, q7, rfl, q9, q10⟩ (by first | exact bdrew _ _ | exact Below.refl _ _ | exact ⟨rfl, rfl, rfl, Nat.le_refl _, fun _ _ => rfl⟩)
    rw [X.out]
    rfl
  · have hP' : decide ((p0.length : Int) ≤ (P : Int)) = true := by simp; omega
    have hPd : decide (P < p0.length) = false := by simp; omega
    rw [hPd, nth_out p0 P (by omega)]
    clear q0 q1 q6
    go_enter Tryz.func103, Tryz.ntmps103
    go_wp2_with fail
    go_quiet (fail)
    go_wp2_with fail
    go_ret2
    refine ⟨rfl, RCur.below (w := w) ⟨oa, ca, ob, cb, P, D, p0, d0, H.out, ⟨H1.out, q2, ?_, q4, q5⟩, H6.out, q7, rfl, q9, q10⟩ (bdrew _ _), KB.of (bdrew _ _)⟩
    rw [List.drop_eq_nil_of_le (by omega)]
    rfl

set_option maxHeartbeats 1600000 in
theorem rdraw_any (R N : Nat) (p d : List Int) (n : Int) (w : World) (h : RCur w R N p d) (hN : N ≤ R) (hd : ∀ x ∈ d, 0 ≤ x) :
    Calls Tryz.prog 154 #[.pointer (some ⟨R, 0, none⟩), .int .i64 n] w fun r w' => r = .returned (.tuple #[.int .i64 (dv d n), .int .i64 (de n)]) ∧ RCur w' R N p (dr d n) ∧ KB R w w' := by
  by_cases h1 : n < 1 ∨ 64 < n
  · simp only [dv, de, dr, if_pos h1, if_pos (show n < 1 ∨ 64 < n ∨ n = 1 by omega)]
    have H := hide h
    clear h
    cases e1 : decide (n < 1)
    · have e2 : decide (64 < n) = true := by simp at e1 ⊢; omega
      clear h1
      go_enter Tryz.func154, Tryz.ntmps154
      go_wp2_with fail
      go_ret2
      exact ⟨rfl, H.out, KB.refl _ _⟩
    · clear h1
      go_enter Tryz.func154, Tryz.ntmps154
      go_wp2_with fail
      go_ret2
      exact ⟨rfl, H.out, KB.refl _ _⟩
  have e1 : decide (n < 1) = false := by simp; omega
  have e2 : decide (64 < n) = false := by simp; omega
  obtain ⟨oa, ca, ob, cb, P, D, p0, d0, q0, ⟨q1, q2, q3, q4, q5⟩, q6, q7, q8, q9, q10⟩ := h
  subst q3 q8
  have c1 := cell_of q0 1
  have c3 := cell_of q0 3
  have f3 := frozen_of q0 3
  simp at c1 c3
  have H := hide q0
  have H1 := hide q1
  have H6 := hide q6
  by_cases h2 : n = 1
  · subst h2
    simp only [dv, de, dr]
    clear q0 q1 q6
    go_enter Tryz.func154, Tryz.ntmps154
    go_wp2_with fail
    go_quiet (fail)
    go_wp2_with fail
    go_ret2
    exact ⟨rfl, RCur.below (w := w) ⟨oa, ca, ob, cb, P, D, p0, d0, H.out, ⟨H1.out, q2, rfl, q4, q5⟩, H6.out, q7, rfl, q9, q10⟩ (bdrew _ _), KB.of (bdrew _ _)⟩
  have e3 : (n == 1) = false := by rw [beq_eq_false_iff_ne]; exact h2
  simp only [dv, de, dr, if_neg h1, if_neg h2, if_neg (show ¬ (n < 1 ∨ 64 < n ∨ n = 1) by omega)]
  rw [nth_drop]
  have n1 : 2 ≤ n := by omega
  have n2 : n ≤ 64 := by omega
  clear h1 h2
  by_cases hP : D < d0.length
  · have hP' : decide ((d0.length : Int) ≤ (D : Int)) = false := by simp; omega
    obtain ⟨b, off, rfl, hc⟩ := q6 D hP
    have hb : b < N := q10 (by omega) _ rfl
    have hx : 0 ≤ nth d0 D := by
      refine hd _ ?_
      rw [← nth_drop, nth_lt _ 0 (by simp; omega)]
      exact List.getElem_mem _
    have hc' : (w.setCell ⟨R, 3, none⟩ (.int .i64 ((D : Int) + 1))).cell? ⟨b, off + D, none⟩ = some (.int .i64 (nth d0 D)) := ((KB.refl R w).setCell 3 _).cell hc (by omega)
    have hlt' : (D : Int) < (d0.length : Int) := by omega
    have X := hide (Ba.heap_setCell_same q0 (i := 3) (.int .i64 ((D : Int) + 1)))
    have x0 := cell_of X.out 1
    have x2 := cell_of X.out 3
    simp at x0 x2
    clear q0 q1 q6 hd
    go_enter Tryz.func154, Tryz.ntmps154
    go_wp2_with fail
    go_quiet (fail)
    go_wp2_with fail
    go_quiet (fail)
    go_wp2_with fail
    go_ret2
    refine ⟨by first | rfl | (rw [Int.tmod_eq_emod_of_nonneg hx]), ?_, by first | exact ((KB.refl R w).setCell 3 _).trans (KB.of (bdrew _ _)) | exact ((KB.of (bdrew _ _)).setCell 3 _).trans (KB.of (bdrew _ _))⟩
    refine RCur.below (w := w.setCell ⟨R, 3, none⟩ (.int .i64 ((D : Int) + 1))) ⟨oa, ca, some ⟨b, off, none⟩, cb, P, D + 1, p0, d0, ?_, ⟨((KB.refl R w).setCell 3 _).at' H1.out fun h a e => by have := q5 h a e; omega, by omega, rfl, q4, q5⟩, ((KB.refl R w).setCell 3 _).at' H6.out fun h a e => by have := q10 h a e; omega, by omega, by simp, q9, q10⟩ (by first | exact bdrew _ _ | exact Below.refl _ _ | exact ⟨rfl, rfl, rfl, Nat.le_refl _, fun _ _ => rfl⟩)
    rw [X.out]
    rfl
  · have hP' : decide ((d0.length : Int) ≤ (D : Int)) = true := by simp; omega
    rw [nth_out d0 D (by omega)]
    clear q0 q1 q6 hd
    go_enter Tryz.func154, Tryz.ntmps154
    go_wp2_with fail
    go_quiet (fail)
    go_wp2_with fail
    go_ret2
    refine ⟨by simp, RCur.below (w := w) ⟨oa, ca, ob, cb, P, D, p0, d0, H.out, ⟨H1.out, q2, rfl, q4, q5⟩, H6.out, q7, ?_, q9, q10⟩ (bdrew _ _), KB.of (bdrew _ _)⟩
    rw [List.drop_eq_nil_of_le (by omega)]
    rfl
end Pk
end Go.Proofs.YtblfimobiibmjaaGreat
/- A cursor of package pick whose lists lie above a bound (so that they are apart from what a loom changes). -/
namespace Go.Proofs.YtblfimobiibmjaaGreat
open Go.ChangeShapes Go.WideShapes Go.ChangeAt Go.RowKit
namespace Lk
open Ba Pk

end Lk
end Go.Proofs.YtblfimobiibmjaaGreat
/- A list of int among a law's arguments, opened. -/
namespace Go.Proofs.YtblfimobiibmjaaGreat
open Go.ChangeShapes Go.WideShapes Go.ChangeAt Go.RowKit
namespace Ba

section
variable {H : Type} {enc : TypeId × Value → H} {w : World}
theorem ints_open {fuel : Nat} {oa : Option Addr} {len cap : Nat} {x : DataW H × List MemPlace} (h : DataW.trod enc Tryz.prog w 0 (fun _ => true) true fuel 67 [.slice oa len cap] = some x) : ∃ l, l.length = len ∧ At w oa l ∧ len ≤ cap ∧ cap ≤ maxLen := by
  rcases open_ints Tryz.underlying67 Tryz.underlying3 (by kernel_rfl) h with ⟨hcs, _⟩ | ⟨x, l, c, zs, hcs, _, hl, hm, hz, _, hcell, hwz⟩
  · simp at hcs
    obtain ⟨rfl, rfl, rfl⟩ := hcs
    exact ⟨[], rfl, At.nil _ _, Nat.le_refl _, Nat.zero_le _⟩
  · simp at hcs
    obtain ⟨rfl, rfl, rfl⟩ := hcs
    simp at hz
    refine ⟨zs.take len, by simp; omega, fun k hk => ?_, hl, hm⟩
    have hk' : k < len ∧ k < zs.length := by simp at hk; omega
    obtain ⟨b, off, spot⟩ := x
    have hspot : spot = none := by simpa [Addr.add] using World.cell?_spot (hcell 0 (by omega))
    subst hspot
    have hc := hcell k hk'.2
    refine ⟨b, off, rfl, ?_⟩
    rw [nth_take zs len k hk'.1]
    rw [Addr.add_lit] at hc
    exact hc
end
end Ba
end Go.Proofs.YtblfimobiibmjaaGreat
/- A list of bool among a law's arguments, opened. -/
namespace Go.Proofs.YtblfimobiibmjaaGreat
open Go.ChangeShapes Go.WideShapes Go.ChangeAt Go.RowKit
namespace Ba

/-- the cells from oa on hold l -/
def BAt (w : World) (oa : Option Addr) (l : List Bool) : Prop :=
  ∀ k x, l[k]? = some x → ∃ b off, oa = some ⟨b, off, none⟩ ∧ w.cell? ⟨b, off + k, none⟩ = some (.bool x)
theorem BAt.below {w w' : World} {oa : Option Addr} {l : List Bool} (h : BAt w oa l) (hb : Below w.heap.size w w') : BAt w' oa l := by
  intro k x hk
  obtain ⟨b, off, he, hc⟩ := h k x hk
  exact ⟨b, off, he, (hb.cell (World.block_lt_of_cell? w _ hc)).trans hc⟩
theorem BAt.nil (w : World) (oa : Option Addr) : BAt w oa [] := fun _ _ hk => by simp at hk

section
variable {H : Type} {enc : TypeId × Value → H} {w : World}
theorem bools_open {fuel : Nat} {oa : Option Addr} {len cap : Nat} {x : DataW H × List MemPlace} (h : DataW.trod enc Tryz.prog w 0 (fun _ => true) true fuel 96 [.slice oa len cap] = some x) : ∃ l, l.length = len ∧ BAt w oa l ∧ len ≤ cap ∧ cap ≤ maxLen := by
  rcases Go.Deep.open_slice Tryz.underlying96 h with ⟨hcs, _⟩ | ⟨a, len', cap', m, n, D, Pl, hcs, _, hl, hm, hmm, _, hel⟩
  · simp at hcs
    obtain ⟨rfl, rfl, rfl⟩ := hcs
    exact ⟨[], rfl, BAt.nil _ _, Nat.le_refl _, Nat.zero_le _⟩
  · simp at hcs
    obtain ⟨rfl, rfl, rfl⟩ := hcs
    have hmc : m = cap := by simpa using hmm
    subst hmc
    have ce : Tryz.prog.cellsOf 4 = 1 := by kernel_rfl
    have key : ∀ i, i < len → ∃ b : Bool, w.cell? (a.add i) = some (.bool b) := by
      intro i hi
      obtain ⟨cs', h1, h2⟩ := hel i (by omega)
      rw [ce, Nat.mul_one] at h1
      obtain ⟨_, hlen, hcell⟩ := World.cells?_some h1
      obtain ⟨b, hb, _⟩ := DataW.trod_bool Tryz.underlying4 h2
      refine ⟨b, ?_⟩
      have := hcell 0 (by decide)
      rw [hb] at this
      simpa [Addr.add] using this
    have fam : ∃ f : Nat → Bool, ∀ i, i < len → w.cell? (a.add i) = some (.bool (f i)) := by
      refine ⟨fun i => if hi : i < len then Classical.choose (key i hi) else false, fun i hi => ?_⟩
      simp only [dif_pos hi]
      exact Classical.choose_spec (key i hi)
    obtain ⟨f, hf⟩ := fam
    refine ⟨(List.range len).map f, by simp, ?_, hl, hm⟩
    intro k c hk
    have hk2 : k < len := by
      have := (List.getElem?_eq_some_iff.1 hk).1
      simpa using this
    have hc : c = f k := by
      simp [hk2] at hk
      exact hk.symm
    subst hc
    have hspot : a.spot = none := by
      have := World.cell?_spot (hf 0 (by omega))
      simpa [Addr.add] using this
    obtain ⟨b, off, spot⟩ := a
    simp at hspot
    subst hspot
    have := hf k hk2
    rw [Addr.add_lit] at this
    exact ⟨b, off, rfl, this⟩
end
end Ba
end Go.Proofs.YtblfimobiibmjaaGreat
/- Package pick: Nth, over this seat's program. -/
namespace Go.Proofs.YtblfimobiibmjaaGreat
open Go.ChangeShapes Go.WideShapes Go.ChangeAt Go.RowKit
namespace Pk
open Ba

def ofx (p : Int) (l : List Int) : Int := if p < 0 then 0 else if l.length = 0 then 0 else nth l (p.toNat % l.length)
def ofe (p : Int) (l : List Int) : Int := if p < 0 then 1 else if l.length = 0 then 6 else 0
/-- how many of the first k are so -/
def cnt (l : List Bool) (k : Nat) : Nat := ((l.take k).filter id).length
theorem cnt_zero (l : List Bool) : cnt l 0 = 0 := by simp [cnt]
theorem cnt_t {l : List Bool} {k : Nat} (h : l[k]? = some true) : cnt l (k + 1) = cnt l k + 1 := by
  unfold cnt
  rw [List.take_add_one, h, List.filter_append]
  simp
theorem cnt_f {l : List Bool} {k : Nat} (h : l[k]? = some false) : cnt l (k + 1) = cnt l k := by
  unfold cnt
  rw [List.take_add_one, h, List.filter_append]
  simp
theorem cnt_le (l : List Bool) (k : Nat) : cnt l k ≤ k := by
  unfold cnt
  have h1 := List.length_filter_le id (l.take k)
  have h2 := List.length_take_le k l
  omega
theorem cnt_mono (l : List Bool) (k j : Nat) : cnt l k ≤ cnt l (k + j) := by
  induction j with
  | zero => exact Nat.le_refl _
  | succ j ih =>
    rw [← Nat.add_assoc]
    cases h : l[k + j]? with
    | none =>
      have : cnt l (k + j + 1) = cnt l (k + j) := by
        unfold cnt
        rw [List.take_add_one, h]
        simp
      omega
    | some b =>
      cases b
      · rw [cnt_f h]; exact ih
      · rw [cnt_t h]; omega
/-- what Nth answers -/
def NthIs (l : List Bool) (p : Int) (at_ : Int) (ok : Bool) : Prop :=
  (ok = true ∧ ∃ k : Nat, at_ = (k : Int) ∧ l[k]? = some true ∧ (cnt l k : Int) = p) ∨ (ok = false ∧ at_ = 0 ∧ ∀ k, l[k]? = some true → (cnt l k : Int) ≠ p)
def NthR (l : List Bool) (p : Int) (r : Ending) : Prop := ∃ at_ ok, r = .returned (.tuple #[.int .i64 at_, .bool ok]) ∧ NthIs l p at_ ok
theorem cnt_one {l : List Bool} {i j : Nat} (hi : l[i]? = some true) (hj : l[j]? = some true) (h : cnt l i = cnt l j) : i = j := by
  rcases Nat.lt_trichotomy i j with q | q | q
  · have := cnt_mono l (i + 1) (j - (i + 1))
    rw [show i + 1 + (j - (i + 1)) = j by omega, cnt_t hi] at this
    omega
  · exact q
  · have := cnt_mono l (j + 1) (i - (j + 1))
    rw [show j + 1 + (i - (j + 1)) = i by omega, cnt_t hj] at this
    omega

end Pk
end Go.Proofs.YtblfimobiibmjaaGreat
/- A loom's run, without memory: its state, and what each of its steps makes of it. -/
namespace Go.Proofs.YtblfimobiibmjaaGreat
open Go.ChangeShapes Go.WideShapes Go.ChangeAt Go.RowKit
namespace Lo
open Ba

abbrev Ev := En.Ev
abbrev Mb := Cr.Mb
abbrev OpD := De.OpD
abbrev Ca := Fk.Ca
abbrev St := _root_.Go.Proofs.YtblfimobiibmjaaGreat.Pi.St
abbrev Gt := _root_.Go.Proofs.YtblfimobiibmjaaGreat.Pi.Gt
abbrev Wt := Pe.Wt

/-- a loom: programs, what is left of plan and draws, goroutines, channels by names, their numbers, how many were made, the trace, whether one panicked -/
structure Lm where
  ps : List (List OpD)
  p : List Int
  d : List Int
  cr : List Mb
  sts : List (Option St)
  nm : List Int
  md : Int
  tr : List Ev
  pk : Bool
/-- a case of an operation -/
def cav (c : De.Cs) : Ca := ⟨c.send, c.ch, c.val⟩
def bareE (k g : Int) : Ev := ⟨k, g, -1, -1, -1, -1, false, false⟩
def tellS (s : Lm) (e : Ev) : Lm := { s with tr := s.tr ++ [e] }
def goS (s : Lm) (e : Ev) : Lm := tellS { s with cr := Cr.chL s.cr e.g 0 0 1 } e
def waitsS (s : Lm) (e : Ev) : Lm := tellS { s with cr := Cr.chL s.cr e.g 0 1 0 } e
def wakesS (s : Lm) (e : Ev) : Lm := tellS { s with sts := Fk.leaveS e.g s.sts, cr := Cr.chL s.cr e.g 1 0 1 } e
def opensS (s : Lm) (name : Int) (size : Int) : Lm := { s with sts := s.sts.set name.toNat (some (_root_.Go.Proofs.YtblfimobiibmjaaGreat.Pi.st0 size.toNat)), nm := s.nm.set name.toNat s.md, md := s.md + 1 }
/-- a name's number -/
def num (s : Lm) (c : Int) : Int := nth s.nm c.toNat
/-- what is told of a send or receive that is done -/
def tryV (s : Lm) (g at_ : Int) (c : Ca) (t : Gt) : Ev := ⟨if c.sd then 3 else 4, g, num s c.ch, at_, if c.sd then c.v else t.v, if t.wk then t.m.g else -1, c.sd, t.ok⟩
/-- and of whom it served -/
def servV (e : Ev) (t : Gt) : Ev := ⟨7, t.m.g, e.c, t.m.c, if e.s then e.v else t.m.v, e.g, !e.s, true⟩
structure Tr3 where
  s : Lm
  done : Bool
  fine : Bool
def tryF (s : Lm) (g at_ : Int) (c : Ca) : Tr3 :=
  if Fk.tryE s.sts c ≠ 0 ∨ (Fk.tryG s.sts c).rd = false then ⟨{ s with sts := Fk.tryS s.sts c }, false, Fk.tryE s.sts c == 0⟩
  else if (Fk.tryG s.sts c).wk then ⟨wakesS (goS { s with sts := Fk.tryS s.sts c } (tryV s g at_ c (Fk.tryG s.sts c))) (servV (tryV s g at_ c (Fk.tryG s.sts c)) (Fk.tryG s.sts c)), true, true⟩
  else ⟨goS { s with sts := Fk.tryS s.sts c } (tryV s g at_ c (Fk.tryG s.sts c)), true, true⟩
def waitN (sts : List (Option St)) (c : Ca) (g : Int) : List (Option St) := match Fk.nmB sts c.ch with
  | none => sts
  | some st => sts.set c.ch.toNat (some (_root_.Go.Proofs.YtblfimobiibmjaaGreat.Pi.waitS st c.sd ⟨g, -1, c.v⟩))
structure Tr2 where
  s : Lm
  fine : Bool
def aloneF (s : Lm) (g : Int) (c : Ca) : Tr2 :=
  if (tryF s g (-1) c).done || !(tryF s g (-1) c).fine then ⟨(tryF s g (-1) c).s, (tryF s g (-1) c).fine⟩
  else ⟨waitsS { (tryF s g (-1) c).s with sts := waitN (tryF s g (-1) c).s.sts c g } ⟨6, g, num s c.ch, -1, c.v, -1, c.sd, false⟩, true⟩
def cas (o : OpD) : List Ca := o.cases.map cav
def caseAt (o : OpD) (i : Int) : Ca := ((cas o)[i.toNat]?).getD ⟨false, 0, 0⟩
def chooseF (s : Lm) (g : Int) (o : OpD) : Tr2 :=
  if 0 < (Fk.rdyL (cas o) s.sts).length then
    ⟨(tryF { s with d := Pk.dr s.d (Fk.rdyL (cas o) s.sts).length } g (nth (Fk.rdyL (cas o) s.sts) (Pk.dv s.d (Fk.rdyL (cas o) s.sts).length).toNat) (caseAt o (nth (Fk.rdyL (cas o) s.sts) (Pk.dv s.d (Fk.rdyL (cas o) s.sts).length).toNat))).s,
     (tryF { s with d := Pk.dr s.d (Fk.rdyL (cas o) s.sts).length } g (nth (Fk.rdyL (cas o) s.sts) (Pk.dv s.d (Fk.rdyL (cas o) s.sts).length).toNat) (caseAt o (nth (Fk.rdyL (cas o) s.sts) (Pk.dv s.d (Fk.rdyL (cas o) s.sts).length).toNat))).fine⟩
  else if o.def_ then ⟨goS s (bareE 8 g), true⟩
  else ⟨waitsS { s with sts := Fk.pkA g (cas o) s.sts } ⟨6, g, -1, o.cases.length, 0, -1, false, false⟩, true⟩
/-- does it wait still? -/
def parked (s : Lm) (g : Int) : Bool := (Cr.one0 (Cr.gt s.cr g)).s == 1
/-- those that waited to receive are woken, one behind the other -/
def wakeAll (g c : Int) : Lm → List Wt → Lm
  | s, [] => s
  | s, x :: l => wakeAll g c (if parked s x.g then wakesS s ⟨7, x.g, c, x.c, 0, g, false, false⟩ else s) l
/-- the first that waits still -/
def first (s : Lm) : List Wt → Int
  | [] => -1
  | x :: l => if parked s x.g then x.g else first s l
structure TrW where
  s : Lm
  who : Int
def closesF (s : Lm) (g name : Int) : TrW := match Fk.nmB s.sts name with
  | none => ⟨s, g⟩
  | some st => if st.closed then ⟨s, g⟩ else
    ⟨wakeAll g (num s name) (goS { s with sts := s.sts.set name.toNat (some (_root_.Go.Proofs.YtblfimobiibmjaaGreat.Pi.closeS st)) } ⟨5, g, num s name, -1, -1, -1, false, false⟩) st.rcv,
     first (wakeAll g (num s name) (goS { s with sts := s.sts.set name.toNat (some (_root_.Go.Proofs.YtblfimobiibmjaaGreat.Pi.closeS st)) } ⟨5, g, num s name, -1, -1, -1, false, false⟩) st.rcv) st.snd⟩
def panicS (s : Lm) (who : Int) : Lm := tellS { s with pk := true } (bareE 12 who)
def doF (s : Lm) (g : Int) (o : OpD) : Lm :=
  if o.kind = 1 then goS { s with cr := Cr.spL s.cr o.a } ⟨1, g, -1, -1, o.a, Cr.spV s.cr o.a, false, false⟩
  else if o.kind = 2 then goS (opensS s o.a o.b) ⟨2, g, s.md, -1, o.b, -1, false, false⟩
  else if o.kind = 7 then goS s ⟨9, g, -1, -1, o.a, -1, false, false⟩
  else if o.kind = 8 then goS s ⟨10, g, -1, -1, o.a, -1, false, false⟩
  else if o.kind = 9 then tellS { s with cr := Cr.chL s.cr g 0 2 0 } (bareE 11 g)
  else if o.kind = 3 then (if (aloneF s g ⟨true, o.a, o.b⟩).fine then (aloneF s g ⟨true, o.a, o.b⟩).s else panicS (aloneF s g ⟨true, o.a, o.b⟩).s g)
  else if o.kind = 4 then (aloneF s g ⟨false, o.a, 0⟩).s
  else if o.kind = 5 then (if (closesF s g o.a).who = -1 then (closesF s g o.a).s else panicS (closesF s g o.a).s (closesF s g o.a).who)
  else if o.kind = 6 then (if (chooseF s g o).fine then (chooseF s g o).s else panicS (chooseF s g o).s g)
  else s
def verd (s : Lm) : Int := if s.pk then 3 else if Cr.ovr s.cr ≠ 0 then Cr.ovr s.cr else if s.p.length = 0 then 4 else 0
def exitO : OpD := ⟨9, 0, 0, [], false⟩
/-- a goroutine's next operation -/
def opOf (s : Lm) (g : Int) : OpD := (((s.ps[(Cr.one0 (Cr.gt s.cr g)).p.toNat]?).getD [])[(Cr.one0 (Cr.gt s.cr g)).q.toNat]?).getD exitO
def whoN (s : Lm) : Int := Pk.ofx (nth s.p 0) (Cr.abl s.cr)
def stepF (s : Lm) : Lm :=
  if verd s ≠ 0 then s
  else if nth s.p 0 = -1 then tellS { s with p := s.p.tail } (bareE 13 (-1))
  else doF { s with p := s.p.tail } (whoN s) (opOf s (whoN s))
def newS (sc : Sh.Sc) : Lm := ⟨sc.ps, sc.pl, sc.dr, [⟨0, 0, 0⟩], List.replicate 8 none, List.replicate 8 (-1), 0, [], false⟩
def stepsF : Nat → Lm → Lm
  | 0, s => s
  | n + 1, s => stepsF n (stepF s)
end Lo
end Go.Proofs.YtblfimobiibmjaaGreat
/- Package fork: Try, over this seat's program. -/
namespace Go.Proofs.YtblfimobiibmjaaGreat
open Go.ChangeShapes Go.WideShapes Go.ChangeAt Go.RowKit
namespace Fk
open Ba Pe _root_.Go.Proofs.YtblfimobiibmjaaGreat.Pi Rp

end Fk
end Go.Proofs.YtblfimobiibmjaaGreat
/- A loom in memory: its parts, each of a colour of its own, and what becomes of it when one part changes. -/
namespace Go.Proofs.YtblfimobiibmjaaGreat
open Go.ChangeShapes Go.WideShapes Go.ChangeAt Go.RowKit
namespace Lo
open Ba

/-- only blocks of colours in K have changed -/
structure Ch (K : Nat → Prop) (col col' : Nat → Nat) (w w' : World) : Prop where
  os : w'.os = w.os
  tape : w'.tape = w.tape
  output : w'.output = w.output
  size : w.heap.size ≤ w'.heap.size
  block : ∀ x, x < w.heap.size → ¬ K (col x) → w'.heap[x]? = w.heap[x]?
  old : ∀ x, x < w.heap.size → col' x = col x
/-- only blocks of colours below 6 have changed -/
structure Tr (col col' : Nat → Nat) (w w' : World) : Prop where
  os : w'.os = w.os
  tape : w'.tape = w.tape
  output : w'.output = w.output
  size : w.heap.size ≤ w'.heap.size
  block : ∀ x, x < w.heap.size → 6 ≤ col x → w'.heap[x]? = w.heap[x]?
  old : ∀ x, x < w.heap.size → col' x = col x
theorem Ch.tr {K : Nat → Prop} {col col' : Nat → Nat} {w w' : World} (h : Ch K col col' w w') (hk : ∀ c, K c → c < 6) : Tr col col' w w' :=
  ⟨h.os, h.tape, h.output, h.size, fun x hx hc => h.block x hx (fun e => by have := hk _ e; omega), h.old⟩
theorem Tr.refl (col : Nat → Nat) (w : World) : Tr col col w w := ⟨rfl, rfl, rfl, Nat.le_refl _, fun _ _ _ => rfl, fun _ _ => rfl⟩
theorem Tr.trans {c1 c2 c3 : Nat → Nat} {a b c : World} (h : Tr c1 c2 a b) (k : Tr c2 c3 b c) : Tr c1 c3 a c :=
  ⟨k.os.trans h.os, k.tape.trans h.tape, k.output.trans h.output, Nat.le_trans h.size k.size,
    fun x hx hc => (k.block x (Nat.lt_of_lt_of_le hx h.size) (by rw [h.old x hx]; exact hc)).trans (h.block x hx hc),
    fun x hx => (k.old x (Nat.lt_of_lt_of_le hx h.size)).trans (h.old x hx)⟩
theorem ext_ex (w : World) (col : Nat → Nat) (F : Nat → Prop) (k : Nat) : ∃ col' : Nat → Nat, (∀ x, x < w.heap.size → col' x = col x) ∧ (∀ x, w.heap.size ≤ x → F x → col' x = k) ∧ (∀ x, w.heap.size ≤ x → ¬ F x → col' x = 7) := by
  classical
  refine ⟨fun x => if x < w.heap.size then col x else if F x then k else 7, fun x hx => by simp [hx], fun x hx hf => ?_, fun x hx hf => ?_⟩
  · simp [Nat.not_lt.2 hx, hf]
  · simp [Nat.not_lt.2 hx, hf]

/-- the cells of the trace -/
def ec (l : List Ev) : List Value := l.flatMap fun e => (En.evc e).toList
theorem ec_app (l m : List Ev) : ec (l ++ m) = ec l ++ ec m := by simp [ec]
theorem ec_one (l : List Ev) : ∀ u ∈ ec l, u.oneCell' = true := by
  intro u hu
  simp only [ec, List.mem_flatMap] at hu
  obtain ⟨e, _, hu⟩ := hu
  simp [En.evc] at hu
  rcases hu with rfl | rfl | rfl | rfl | rfl | rfl | rfl | rfl <;> rfl
theorem ec_len (l : List Ev) : (ec l).length = l.length * 8 := by
  induction l with
  | nil => rfl
  | cons e l ih => simp [ec, En.evc] at ih ⊢; omega
/-- the cells of a loom -/
def lcs (pa : Option Addr) (n pc C B X : Nat) (nm : List Int) (md : Int) (ta : Option Addr) (tn tc : Nat) (pk : Bool) : Array Value :=
  #[.slice pa n pc, .pointer (some ⟨C, 0, none⟩), .pointer (some ⟨B, 0, none⟩), .slice (some ⟨X, 0, none⟩) 8 8, .int .i64 (nth nm 0), .int .i64 (nth nm 1), .int .i64 (nth nm 2), .int .i64 (nth nm 3), .int .i64 (nth nm 4), .int .i64 (nth nm 5), .int .i64 (nth nm 6), .int .i64 (nth nm 7), .int .i64 md, .slice ta tn tc, .bool pk]

section
variable {w w' : World} {col col' : Nat → Nat} {L N C B X : Nat} {FB : Nat → Prop} {pa : Option Addr} {pc : Nat} {bs : List (Option Nat)} {Fs : Nat → Nat → Prop} {ta : Option Addr} {tc : Nat} {s : Lm} {K : Nat → Prop}
theorem ch_below (K : Nat → Prop) (hb : Below w.heap.size w w') (ho : ∀ x, x < w.heap.size → col' x = col x) : Ch K col col' w w' := ⟨hb.os, hb.tape, hb.output, hb.size, fun x hx _ => hb.block x hx, ho⟩
end
theorem Tr.drew {col col' : Nat → Nat} {w w' : World} (h : Tr col col' w w') : Tr col col' w w'.drew := h.trans ((ch_below (fun _ => False) (bdrew1 w') (fun _ _ => rfl)).tr (fun _ e => e.elim))
theorem Tr.temp {col col' : Nat → Nat} {w w' : World} (h : Tr col col' w w') {z : Nat} (hz : w.heap.size ≤ z) (i : Nat) (v : Value) : Tr col col' w (w'.setCell ⟨z, i, none⟩ v) := by
  have kb := (KB.refl z w').setCell i v
  exact ⟨kb.os.trans h.os, kb.tape.trans h.tape, kb.output.trans h.output, Nat.le_trans h.size kb.size, fun x hx hc => (kb.block x (Nat.lt_of_lt_of_le hx h.size) (by omega)).trans (h.block x hx hc), h.old⟩
end Lo
end Go.Proofs.YtblfimobiibmjaaGreat
/- A loom tells an event, and has a goroutine go on, wait or be woken, over this seat's program. -/
namespace Go.Proofs.YtblfimobiibmjaaGreat
open Go.ChangeShapes Go.WideShapes Go.ChangeAt Go.RowKit
namespace Lo
open Ba

theorem info_ev : (Tryz.prog.info? 50).map (fun i => (i.zero, i.size, i.bytes)) = some (some (.agg #[.int .i64 0, .int .i64 0, .int .i64 0, .int .i64 0, .int .i64 0, .int .i64 0, .bool false, .bool false]), 8, 56) := by kernel_rfl
section
variable {w u w2 : World} {col : Nat → Nat} {L N C B X : Nat} {FB : Nat → Prop} {pa : Option Addr} {pc : Nat} {bs : List (Option Nat)} {Fs : Nat → Nat → Prop} {ta : Option Addr} {tc : Nat} {s : Lm}
end
theorem src8 (w : World) (e : Ev) (t : TypeId) : ∀ j u, (ec [e])[j]? = some u → ((w.alloc (.cells #[.int .i64 e.k, .int .i64 e.g, .int .i64 e.c, .int .i64 e.a, .int .i64 e.v, .int .i64 e.m, .bool e.s, .bool e.o] t)).alloc (.cells #[.int .i64 e.k, .int .i64 e.g, .int .i64 e.c, .int .i64 e.a, .int .i64 e.v, .int .i64 e.m, .bool e.s, .bool e.o] t)).drew.cell? ((⟨w.heap.size + 1, 0, none⟩ : Addr).add j) = some u := by
  intro j u hj
  have hn := En.heap_new2 w (.cells #[.int .i64 e.k, .int .i64 e.g, .int .i64 e.c, .int .i64 e.a, .int .i64 e.v, .int .i64 e.m, .bool e.s, .bool e.o] t) (.cells #[.int .i64 e.k, .int .i64 e.g, .int .i64 e.c, .int .i64 e.a, .int .i64 e.v, .int .i64 e.m, .bool e.s, .bool e.o] t)
  rw [Addr.add_lit, Nat.zero_add, cell_of (heap_below hn (bdrew1 _)), ← hj]
  simp [ec, En.evc]
theorem own_sl {w : World} {base : Nat} {e : TypeId} {v : Value} {n : Nat} {xs : List Value} (h : w.ownsRow base e 8 v n xs) : ∃ oa c, v = .slice oa n c := by
  rcases h.2 with ⟨rfl, rfl⟩ | ⟨b, cap, cur, rfl, _⟩
  · exact ⟨none, 0, rfl⟩
  · exact ⟨_, _, rfl⟩
/-- what was there and is no part of a loom stands -/
theorem Tr.heap {col col' : Nat → Nat} {w w' : World} (h : Tr col col' w w') {x : Nat} {o : Obj} (hx : w.heap[x]? = some o) (hc : col x = 7) : w'.heap[x]? = some o := (h.block x (heap_lt hx) (by omega)).trans hx
end Lo
end Go.Proofs.YtblfimobiibmjaaGreat
