/- The reference's channel: Send, of whatever channel, over this seat's program. -/
import Derived.Test.YtdcmlimglajpkaaYc
namespace Go.Proofs.Ytdcmlimglajpkaa
open Go.ChangeShapes Go.WideShapes Go.ChangeAt Go.RowKit
namespace Rp
open Ba Pe _root_.Go.Proofs.Ytdcmlimglajpkaa.Pi

set_option maxRecDepth 100000 in
set_option maxHeartbeats 3200000 in
theorem rsend_full (G : Nat) (F : Nat → Prop) (st : St) (x : Int) (w : World) (h : Rr w G F st) (hc : st.closed = false) (hr : st.rcv = []) (hl : ¬ st.buf.length < st.size) :
    Calls Try.prog 47 #[.pointer (some ⟨G, 0, none⟩), .int .i64 x] w fun r w' => r = .returned (.tuple #[gv gz, .int .i64 0]) ∧ KF F w w' ∧ ∃ F', Nw F' F w ∧ Rr w' G F' st := by
  have hG := h.lt
  have NF : Hid (¬ F w.heap.size) := fun e => Nat.lt_irrefl _ (h.bd _ e)
  obtain ⟨vL, vS, vQ, h⟩ := h
  have P1 := hide (h.below (below_alloc w (.cells #[.bool false, .bool false, .bool false, .int .i64 0, .int .i64 0, .int .i64 0, .int .i64 0] 64)))
  have Z1 := hide (heap_new w (.cells #[.bool false, .bool false, .bool false, .int .i64 0, .int .i64 0, .int .i64 0, .int .i64 0] 64))
  obtain ⟨ol, cl, os, cs, oq, cq, ⟨rfl, _, _⟩, ⟨rfl, _, _⟩, rfl, _, _⟩ := h.read
  have y4 : (w.alloc (.cells #[.bool false, .bool false, .bool false, .int .i64 0, .int .i64 0, .int .i64 0, .int .i64 0] 64)).cell? ⟨G, 4, none⟩ = some (.bool false) := (cell_of P1.out.hp 4).trans (by rw [hc]; rfl)
  have y3 : (w.alloc (.cells #[.bool false, .bool false, .bool false, .int .i64 0, .int .i64 0, .int .i64 0, .int .i64 0] 64)).cell? ⟨G, 3, none⟩ = some (.slice oq 0 cq) := (cell_of P1.out.hp 3).trans (by rw [hr]; rfl)
  have y1 : (w.alloc (.cells #[.bool false, .bool false, .bool false, .int .i64 0, .int .i64 0, .int .i64 0, .int .i64 0] 64)).cell? ⟨G, 1, none⟩ = some (.slice ol st.buf.length cl) := cell_of P1.out.hp 1
  have y0 : (w.alloc (.cells #[.bool false, .bool false, .bool false, .int .i64 0, .int .i64 0, .int .i64 0, .int .i64 0] 64)).cell? ⟨G, 0, none⟩ = some (.int .i64 (st.size : Int)) := cell_of P1.out.hp 0
  have d1 : decide ((st.buf.length : Int) < (st.size : Int)) = false := decide_eq_false (by omega)
  clear h hc hr
  unfold gv gz
  have z0 : (w.alloc (.cells #[.bool false, .bool false, .bool false, .int .i64 0, .int .i64 0, .int .i64 0, .int .i64 0] 64)).cell? ⟨w.heap.size, 0, none⟩ = some (.bool false) := cell_of Z1.out 0
  have zf0 := frozen_of Z1.out 0
  have z1 : (w.alloc (.cells #[.bool false, .bool false, .bool false, .int .i64 0, .int .i64 0, .int .i64 0, .int .i64 0] 64)).cell? ⟨w.heap.size, 1, none⟩ = some (.bool false) := cell_of Z1.out 1
  have zf1 := frozen_of Z1.out 1
  have z2 : (w.alloc (.cells #[.bool false, .bool false, .bool false, .int .i64 0, .int .i64 0, .int .i64 0, .int .i64 0] 64)).cell? ⟨w.heap.size, 2, none⟩ = some (.bool false) := cell_of Z1.out 2
  have zf2 := frozen_of Z1.out 2
  have z3 : (w.alloc (.cells #[.bool false, .bool false, .bool false, .int .i64 0, .int .i64 0, .int .i64 0, .int .i64 0] 64)).cell? ⟨w.heap.size, 3, none⟩ = some (.int .i64 0) := cell_of Z1.out 3
  have zf3 := frozen_of Z1.out 3
  have z4 : (w.alloc (.cells #[.bool false, .bool false, .bool false, .int .i64 0, .int .i64 0, .int .i64 0, .int .i64 0] 64)).cell? ⟨w.heap.size, 4, none⟩ = some (.int .i64 0) := cell_of Z1.out 4
  have zf4 := frozen_of Z1.out 4
  have z5 : (w.alloc (.cells #[.bool false, .bool false, .bool false, .int .i64 0, .int .i64 0, .int .i64 0, .int .i64 0] 64)).cell? ⟨w.heap.size, 5, none⟩ = some (.int .i64 0) := cell_of Z1.out 5
  have zf5 := frozen_of Z1.out 5
  have z6 : (w.alloc (.cells #[.bool false, .bool false, .bool false, .int .i64 0, .int .i64 0, .int .i64 0, .int .i64 0] 64)).cell? ⟨w.heap.size, 6, none⟩ = some (.int .i64 0) := cell_of Z1.out 6
  have zf6 := frozen_of Z1.out 6
  go_enter Try.func47, Try.ntmps47
  go_wp2_with fail
  go_quiet (fail)
  go_wp2_with fail
  exact bodyPost_ret (results_row2 Try.results47 _ _ _ _ _ rfl rfl (loadVar_rgot (got_set (heap_below Z1.out (bdrew _ _)) _ _ _ _ _ _ _) rfl)) rfl ⟨rfl, rfin7 (KF.of (btr (below_alloc _ _) (bdrew _ _))) (Nw.refl _ _) (P1.out.below (bdrew _ _)).rr (Nat.le_refl _) NF.out _ _ _ _ _ _ _⟩
set_option maxRecDepth 100000 in
set_option maxHeartbeats 3200000 in
theorem rsend_room (G : Nat) (F : Nat → Prop) (st : St) (x : Int) (w : World) (h : Rr w G F st) (hc : st.closed = false) (hr : st.rcv = []) (hl : st.buf.length < st.size) (hs : st.sent < 1000000000) :
    Calls Try.prog 47 #[.pointer (some ⟨G, 0, none⟩), .int .i64 x] w fun r w' => r = .returned (.tuple #[gv ⟨true, false, false, 0, ⟨0, 0, 0⟩⟩, .int .i64 0]) ∧ KF F w w' ∧ ∃ F', Nw F' F w ∧ Rr w' G F' { st with buf := st.buf ++ [x], sent := st.sent + 1 } := by
  have hG := h.lt
  have NF : Hid (¬ F w.heap.size) := fun e => Nat.lt_irrefl _ (h.bd _ e)
  obtain ⟨vL, vS, vQ, h⟩ := h
  have FG := hide h.fg
  have BDF := hide h.bd
  have P1 := hide (h.below (below_alloc w (.cells #[.bool false, .bool false, .bool false, .int .i64 0, .int .i64 0, .int .i64 0, .int .i64 0] 64)))
  have Z1 := hide (heap_new w (.cells #[.bool false, .bool false, .bool false, .int .i64 0, .int .i64 0, .int .i64 0, .int .i64 0] 64))
  obtain ⟨ol, cl, os, cs, oq, cq, ⟨rfl, _, _⟩, ⟨rfl, _, _⟩, rfl, _, _⟩ := h.read
  have y4 : (w.alloc (.cells #[.bool false, .bool false, .bool false, .int .i64 0, .int .i64 0, .int .i64 0, .int .i64 0] 64)).cell? ⟨G, 4, none⟩ = some (.bool false) := (cell_of P1.out.hp 4).trans (by rw [hc]; rfl)
  have y3 : (w.alloc (.cells #[.bool false, .bool false, .bool false, .int .i64 0, .int .i64 0, .int .i64 0, .int .i64 0] 64)).cell? ⟨G, 3, none⟩ = some (.slice oq 0 cq) := (cell_of P1.out.hp 3).trans (by rw [hr]; rfl)
  have y1 : (w.alloc (.cells #[.bool false, .bool false, .bool false, .int .i64 0, .int .i64 0, .int .i64 0, .int .i64 0] 64)).cell? ⟨G, 1, none⟩ = some (.slice ol st.buf.length cl) := cell_of P1.out.hp 1
  have y0 : (w.alloc (.cells #[.bool false, .bool false, .bool false, .int .i64 0, .int .i64 0, .int .i64 0, .int .i64 0] 64)).cell? ⟨G, 0, none⟩ = some (.int .i64 (st.size : Int)) := cell_of P1.out.hp 0
  have d1 : decide ((st.buf.length : Int) < (st.size : Int)) = true := decide_eq_true (by omega)
  have sz := h.sz
  have bl := h.bl
  clear h hc hr
  unfold gv
  cases hi : Try.prog.info? 3 with
  | none => have := info_i; rw [hi] at this; cases this
  | some i0 =>
  have hx2 := info_i
  rw [hi] at hx2
  simp at hx2
  have INF := hide (And.intro hi hx2)
  clear hx2 hi
  have hW1 : (w.alloc (.cells #[.bool false, .bool false, .bool false, .int .i64 0, .int .i64 0, .int .i64 0, .int .i64 0] 64)).heap.size = w.heap.size + 1 := World.size_alloc _ _
  go_enter Try.func47, Try.ntmps47
  go_wp2_with fail
  go_quiet (fail)
  have BX := below_alloc ((w.alloc (.cells #[.bool false, .bool false, .bool false, .int .i64 0, .int .i64 0, .int .i64 0, .int .i64 0] 64)).drewN nq) (.cells #[.int .i64 x] 3)
  have B4 := hide (btr (btr (below_alloc w (.cells #[.bool false, .bool false, .bool false, .int .i64 0, .int .i64 0, .int .i64 0, .int .i64 0] 64)) (bdrew (w.alloc (.cells #[.bool false, .bool false, .bool false, .int .i64 0, .int .i64 0, .int .i64 0, .int .i64 0] 64)) nq)) BX)
  have P4 := hide (P1.out.below (btr (bdrew (w.alloc (.cells #[.bool false, .bool false, .bool false, .int .i64 0, .int .i64 0, .int .i64 0, .int .i64 0] 64)) nq) BX))
  have Z4 := hide (heap_below Z1.out (btr (bdrew (w.alloc (.cells #[.bool false, .bool false, .bool false, .int .i64 0, .int .i64 0, .int .i64 0, .int .i64 0] 64)) nq) BX))
  have src : ∀ j u, [Value.int .i64 x][j]? = some u → (((w.alloc (.cells #[.bool false, .bool false, .bool false, .int .i64 0, .int .i64 0, .int .i64 0, .int .i64 0] 64)).drewN nq).alloc (.cells #[.int .i64 x] 3)).cell? ((⟨(w.alloc (.cells #[.bool false, .bool false, .bool false, .int .i64 0, .int .i64 0, .int .i64 0, .int .i64 0] 64)).heap.size, 0, none⟩ : Addr).add j) = some u := cell_one_new ((w.alloc (.cells #[.bool false, .bool false, .bool false, .int .i64 0, .int .i64 0, .int .i64 0, .int .i64 0] 64)).drewN nq) (.int .i64 x) 3
  rw [hW1] at src
  have SRC := hide src
  clear BX src
  go_wp2_with (at_builtin; refine wpList_append_own_at _ rfl _ _ 22 rfl 0 3 i0 (.int .i64 0) 1 8 Try.underlying22 INF.out.1 INF.out.2.1 INF.out.2.2.1 INF.out.2.2.2 rfl (by decide) _ _ _ rfl P4.out.rl ⟨w.heap.size + 1, 0, none⟩ 1 1 [.int .i64 x] rfl rfl ?c1 ?c2 ?c3 ?c4 ?c5 ?_)
  case c1 => exact SRC.out
  case c2 => exact ic_one [x]
  case c3 => unfold maxLen; omega
  case c4 => omega
  case c5 => exact Nat.zero_le _
  intro v' w5 hown' hgrow _ hat
  have O5 : Hid (w5.ownsRow 0 3 1 v' (st.buf ++ [x]).length (ic (st.buf ++ [x]))) := by
    show World.ownsRow _ _ _ _ _ _ _
    rw [ic_app, List.length_append]
    exact hown'
  obtain ⟨ol', cl', rfl, _, _⟩ := own_at O5.out
  have hlen : (st.buf ++ [x]).length = st.buf.length + 1 := by simp
  have R5 := hide (P4.out.appL hgrow O5.out (by rw [hlen]; omega))
  have K5 := hide (KF.grown (KF.of (F := F) B4.out) hgrow (fun k e => .inl (P4.out.fl k e)))
  have N5 := hide (Fw.at (F := F) (w := w) hat P4.out.fl (by omega))
  have NZ : Hid (¬ Fw F (.slice ol' (st.buf ++ [x]).length cl') w.heap.size) := by
    rintro (q | q)
    · exact NF.out q
    · rcases hat with e | e
      · exact NF.out (P4.out.fl _ (e ▸ q))
      · rw [e, Option.some.injEq] at q
        omega
  have G5 := hide (heap_grown hgrow P4.out.hp (fun e => own_ty P4.out.rl P4.out.hp (by decide) e.symm))
  have Z5 := hide (heap_grown hgrow Z4.out (fun e => NF.out (P4.out.fl _ e)))
  clear hown' hgrow hat
  have g1 : w5.cell? ⟨G, 1, none⟩ = some (.slice ol st.buf.length cl) := cell_of G5.out 1
  have g5 : w5.cell? ⟨G, 5, none⟩ = some (.int .i64 (st.sent : Int)) := cell_of G5.out 5
  have gf1 := frozen_of G5.out 1
  have gf5 := frozen_of G5.out 5
  have hM3 : G ≠ w.heap.size := by omega
  have z0 : w5.cell? ⟨w.heap.size, 0, none⟩ = some (.bool false) := cell_of Z5.out 0
  have zf0 := frozen_of Z5.out 0
  have z1 : w5.cell? ⟨w.heap.size, 1, none⟩ = some (.bool false) := cell_of Z5.out 1
  have zf1 := frozen_of Z5.out 1
  have z2 : w5.cell? ⟨w.heap.size, 2, none⟩ = some (.bool false) := cell_of Z5.out 2
  have zf2 := frozen_of Z5.out 2
  have z3 : w5.cell? ⟨w.heap.size, 3, none⟩ = some (.int .i64 0) := cell_of Z5.out 3
  have zf3 := frozen_of Z5.out 3
  have z4 : w5.cell? ⟨w.heap.size, 4, none⟩ = some (.int .i64 0) := cell_of Z5.out 4
  have zf4 := frozen_of Z5.out 4
  have z5 : w5.cell? ⟨w.heap.size, 5, none⟩ = some (.int .i64 0) := cell_of Z5.out 5
  have zf5 := frozen_of Z5.out 5
  have z6 : w5.cell? ⟨w.heap.size, 6, none⟩ = some (.int .i64 0) := cell_of Z5.out 6
  have zf6 := frozen_of Z5.out 6
  go_wp2_with fail
  have R6 := R5.out.setSent (st.sent + 1) ((st.sent : Int) + 1) (by omega)
  rw [hlen] at R6
  have N6 := N5.out
  have NZ6 := NZ.out
  rw [hlen] at N6 NZ6
  exact bodyPost_ret (results_row2 Try.results47 _ _ _ _ _ rfl rfl (loadVar_rgot (got_set ((Below.heap_setCell _ _ _ _ (Ne.symm hM3)).trans ((Below.heap_setCell _ _ _ _ (Ne.symm hM3)).trans Z5.out)) _ _ _ _ _ _ _) rfl)) rfl ⟨rfl, rfin7 ((K5.out.set FG.out 1 _).set FG.out 5 _) N6 R6.rr (Nat.le_refl _) NZ6 _ _ _ _ _ _ _⟩
/-- Send, of whatever channel -/
theorem rsend_any (G : Nat) (F : Nat → Prop) (st : St) (x : Int) (w : World) (h : Rr w G F st) (hs : st.sent < 1000000000) (hg : st.got < 1000000000) :
    Calls Try.prog 47 #[.pointer (some ⟨G, 0, none⟩), .int .i64 x] w fun r w' => r = .returned (.tuple #[gv (sendG st), .int .i64 (sendE st)]) ∧ KF F w w' ∧ ∃ F', Nw F' F w ∧ Rr w' G F' (sendS st x) := by
  rcases Bool.eq_false_or_eq_true st.closed with hc | hc
  · rw [show sendG st = gz by simp [sendG, hc], show sendE st = 90 by simp [sendE, hc], show sendS st x = st by simp [sendS, hc]]
    exact rsend_closed G F st x w h hc
  · rw [show sendE st = 0 by simp [sendE, hc]]
    cases hr : st.rcv with
    | cons y t =>
      rw [show sendG st = ⟨true, false, true, 0, y⟩ by simp [sendG, hc, hr], show sendS st x = { st with rcv := t, sent := st.sent + 1, got := st.got + 1 } by simp [sendS, hc, hr]]
      exact rsend_woke G F st x y t w h hc hr hs hg
    | nil =>
      by_cases hl : st.buf.length < st.size
      · rw [show sendG st = ⟨true, false, false, 0, ⟨0, 0, 0⟩⟩ by simp [sendG, hc, hr, hl], show sendS st x = { st with buf := st.buf ++ [x], sent := st.sent + 1 } by simp [sendS, hc, hr, hl]]
        exact rsend_room G F st x w h hc hr hl hs
      · rw [show sendG st = gz by simp [sendG, hc, hr, hl], show sendS st x = st by simp [sendS, hc, hr, hl]]
        exact rsend_full G F st x w h hc hr hl
end Rp
end Go.Proofs.Ytdcmlimglajpkaa
