/- The reference's channel: Close, Drop, over this seat's program. -/
import Derived.Test.YtdcmlimglajpkaaYb
import Derived.OwnWalk
namespace Go.Proofs.Ytdcmlimglajpkaa
open Go.ChangeShapes Go.WideShapes Go.ChangeAt Go.RowKit
namespace Rp
open Ba Pe _root_.Go.Proofs.Ytdcmlimglajpkaa.Pi

theorem own_wat' {w : World} {base : Nat} {oa : Option Addr} {n c : Nat} {l : List Wt} (h : w.ownsRow base 62 3 (.slice oa n c) l.length (wc l)) : WAt w oa l := by
  obtain ⟨ob, d, e, hA, _⟩ := owns_wat h
  cases e
  exact hA
theorem rclose_closed (G : Nat) (F : Nat → Prop) (st : St) (w : World) (h : Rr w G F st) (hc : st.closed = true) :
    Calls Try.prog 28 #[.pointer (some ⟨G, 0, none⟩)] w fun r w' => r = .returned (.tuple #[.slice none 0 0, .slice none 0 0, .int .i64 90]) ∧ w' = w := by
  obtain ⟨vL, vS, vQ, h⟩ := h
  have y4 : w.cell? ⟨G, 4, none⟩ = some (.bool true) := (cell_of h.hp 4).trans (by rw [hc]; rfl)
  clear h hc
  go_enter Try.func28, Try.ntmps28
  go_wp2_with fail
  go_ret3
  exact ⟨rfl, rfl⟩
set_option maxRecDepth 100000 in
set_option maxHeartbeats 1600000 in
theorem rclose_open (G : Nat) (F : Nat → Prop) (st : St) (w : World) (h : Rr w G F st) (hc : st.closed = false) :
    Calls Try.prog 28 #[.pointer (some ⟨G, 0, none⟩)] w fun r w' => ∃ oa ca ob cb, r = .returned (.tuple #[.slice oa st.rcv.length ca, .slice ob st.snd.length cb, .int .i64 0]) ∧ (WAt w' oa st.rcv ∧ WAt w' ob st.snd) ∧ KF F w w' ∧ ∃ F', Nw F' F w ∧ Rr w' G F' { st with snd := [], rcv := [], closed := true } := by
  obtain ⟨vL, vS, vQ, h⟩ := h
  have H := hide h
  obtain ⟨ol, cl, os, cs, oq, cq, ⟨rfl, _, _⟩, ⟨rfl, _, _⟩, rfl, _, _⟩ := h.read
  have y4 : w.cell? ⟨G, 4, none⟩ = some (.bool false) := (cell_of h.hp 4).trans (by rw [hc]; rfl)
  have y2 : w.cell? ⟨G, 2, none⟩ = some (.slice os st.snd.length cs) := cell_of h.hp 2
  have y3 : w.cell? ⟨G, 3, none⟩ = some (.slice oq st.rcv.length cq) := cell_of h.hp 3
  have f2 := frozen_of h.hp 2
  have f3 := frozen_of h.hp 3
  have f4 := frozen_of h.hp 4
  have P1 := hide (h.setClosed true)
  have P2 := hide (P1.out.newQ (N := w.heap.size) (l := []) (World.ownsRow_nil _ _ _ _) (fun k hk => H.out.bd k hk) (Nat.zero_le _))
  have P3 := hide (P2.out.newS (N := w.heap.size) (l := []) (World.ownsRow_nil _ _ _ _) (fun k hk => hk.elim (H.out.bd k) (fun e => by simp [Value.ownBlock] at e)) (Nat.zero_le _))
  clear h hc
  go_enter Try.func28, Try.ntmps28
  go_wp2_with fail
  go_ret3
  have K := ((((KF.refl F w).set H.out.fg 4 (.bool true)).set H.out.fg 3 (.slice none 0 0)).set H.out.fg 2 (.slice none 0 0))
  have KG := ((((KB.refl G w).setCell 4 (.bool true)).setCell 3 (.slice none 0 0)).setCell 2 (.slice none 0 0))
  refine ⟨oq, cq, os, ⟨cs, rfl⟩, ⟨?_, ?_⟩, K, _, ?_, P3.out.rr⟩
  · refine own_wat' (own_keep H.out.rq fun g e => KG.block g (H.out.bd g (H.out.fq g e)) (fun e2 => ?_))
    exact own_ty H.out.rq H.out.hp (by decide) (by rw [← e2]; exact e.symm)
  · refine own_wat' (own_keep H.out.rs fun g e => KG.block g (H.out.bd g (H.out.fs g e)) (fun e2 => ?_))
    exact own_ty H.out.rs H.out.hp (by decide) (by rw [← e2]; exact e.symm)
  · intro k hk
    rcases hk with (q | q) | q
    · exact .inl q
    · simp [Value.ownBlock] at q
    · simp [Value.ownBlock] at q
/-- Close, of whatever channel -/
theorem rclose_any (G : Nat) (F : Nat → Prop) (st : St) (w : World) (h : Rr w G F st) :
    Calls Try.prog 28 #[.pointer (some ⟨G, 0, none⟩)] w fun r w' => ∃ oa ca ob cb, r = .returned (.tuple #[.slice oa (closeL st false).length ca, .slice ob (closeL st true).length cb, .int .i64 (closeE st)]) ∧ (WAt w' oa (closeL st false) ∧ WAt w' ob (closeL st true)) ∧ KF F w w' ∧ ∃ F', Nw F' F w ∧ Rr w' G F' (closeS st) := by
  rcases Bool.eq_false_or_eq_true st.closed with hc | hc
  · rw [show closeL st false = [] by simp [closeL, hc], show closeL st true = [] by simp [closeL, hc], show closeE st = 90 by simp [closeE, hc], show closeS st = st by simp [closeS, hc]]
    refine (rclose_closed G F st w h hc).mono ?_
    rintro r w1 ⟨rfl, rfl⟩
    exact ⟨none, 0, none, 0, rfl, ⟨WAt.nil _ _, WAt.nil _ _⟩, KF.refl _ _, F, Nw.refl _ _, h⟩
  · rw [show closeL st false = st.rcv by simp [closeL, hc, Pi.own], show closeL st true = st.snd by simp [closeL, hc, Pi.own], show closeE st = 0 by simp [closeE, hc], show closeS st = { st with snd := [], rcv := [], closed := true } by simp [closeS, hc]]
    exact rclose_open G F st w h hc
set_option maxRecDepth 100000 in
set_option maxHeartbeats 3200000 in
theorem rdrop_any (G : Nat) (F : Nat → Prop) (st : St) (g : Int) (w : World) (h : Rr w G F st) :
    Calls Try.prog 37 #[.pointer (some ⟨G, 0, none⟩), .int .i64 g] w fun r w' => r = .returned (.int .i64 (dropN st g)) ∧ KF F w w' ∧ ∃ F', Nw F' F w ∧ Rr w' G F' (dropS st g) := by
  have hG := h.lt
  obtain ⟨vL, vS, vQ, h⟩ := h
  have FG := hide h.fg
  have BDF := hide h.bd
  obtain ⟨ol, cl, os, cs, oq, cq, ⟨rfl, _, _⟩, ⟨rfl, _, _⟩, rfl, _, _⟩ := h.read
  have y2 : w.cell? ⟨G, 2, none⟩ = some (.slice os st.snd.length cs) := cell_of h.hp 2
  have y3 : w.cell? ⟨G, 3, none⟩ = some (.slice oq st.rcv.length cq) := cell_of h.hp 3
  have l1 := h.les
  have l2 := h.leq
  have d1 := dr_len g st.snd
  have d2 := dr_len g st.rcv
  have P0 := hide h
  clear h
  unfold dropN dropS
  go_enter Try.func37, Try.ntmps37
  go_wp2_with fail
  go_quiet (fail)
  have P1 := hide (P0.out.below (bdrew w nq))
  have WO := hide (rwithout_any os st.snd cs g (w.drewN nq) (own_wat' P1.out.rs) l1)
  go_wp2_with fail
  refine WO.out.mono ?_
  rintro r w2 ⟨ob, d, rfl, o2, b2⟩
  have P2 := hide (P1.out.below b2)
  have O2 := hide o2
  have K2 := hide (KF.of (F := F) (btr (bdrew w nq) b2))
  have SZ2 : w.heap.size ≤ w2.heap.size := b2.size
  clear o2 b2 y2 y3 P1 WO
  have S3 := hide (P2.out.newS (N := w.heap.size) O2.out (fun k hk => BDF.out k hk) (by omega))
  have K3 := hide (K2.out.set FG.out 2 (.slice ob (dr g st.snd).length d))
  have NW3 : Hid (Nw (Fw F (.slice ob (dr g st.snd).length d)) F w) := Fw.nw (N := w.heap.size) O2.out (Nat.le_refl _)
  have e2 : w2.cell? ⟨G, 2, none⟩ = some (.slice os st.snd.length cs) := cell_of P2.out.hp 2
  have e3 : w2.cell? ⟨G, 3, none⟩ = some (.slice oq st.rcv.length cq) := cell_of P2.out.hp 3
  have f2 := frozen_of P2.out.hp 2
  have WO2 := hide (rwithout_any oq st.rcv cq g _ (own_wat' S3.out.rq) l2)
  generalize hX : dr g st.snd = X at O2 S3 K3 NW3 WO2 d1
  clear P2 O2
  go_wp2_with fail
  generalize w2.setCell ⟨G, 2, none⟩ (.slice ob X.length d) = W3 at S3 K3 WO2 ⊢
  generalize hFF : Fw F (.slice ob X.length d) = F3 at S3 NW3
  refine WO2.out.mono ?_
  rintro r w4 ⟨ob4, d4, rfl, o4, b4⟩
  have P4 := hide (S3.out.below b4)
  have O4 := hide o4
  have K4 := hide (K3.out.then b4)
  clear o4 b4 WO2 e2 e3 f2
  have S5 := hide (P4.out.newQ (N := W3.heap.size) O4.out (fun k hk => S3.out.bd k hk) (by omega))
  have NW5 : Hid (Nw (Fw F3 (.slice ob4 (dr g st.rcv).length d4)) F w) := NW3.out.trans (Fw.nw (N := W3.heap.size) O4.out (Nat.le_refl _)) K3.out.size
  have e2 : w4.cell? ⟨G, 2, none⟩ = some (.slice ob X.length d) := cell_of P4.out.hp 2
  have e3 : w4.cell? ⟨G, 3, none⟩ = some (.slice oq st.rcv.length cq) := cell_of P4.out.hp 3
  have f3 := frozen_of P4.out.hp 3
  generalize hY : dr g st.rcv = Y at O4 S5 NW5 d2
  go_wp2_with fail
  go_quiet (fail)
  go_wp2_with fail
  go_ret
  refine ⟨ret_int (by rw [hX, hY]; omega), (K4.out.set FG.out 3 _).then (bdrew _ _), _, NW5.out, ?_⟩
  rw [hX, hY]
  exact (S5.out.below (bdrew _ _)).rr
end Rp
end Go.Proofs.Ytdcmlimglajpkaa
