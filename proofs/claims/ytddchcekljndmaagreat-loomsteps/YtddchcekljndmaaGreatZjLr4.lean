import Derived.Test.YtddchcekljndmaaGreatZjLr3
import Derived.Lib.AppendZeros
import Derived.Deep.RegionWith
/- The reference's channel: New, Ready, behind, without, over this seat's program. -/
namespace Go.Proofs.YtddchcekljndmaaGreat
open Go.ChangeShapes Go.WideShapes Go.ChangeAt Go.RowKit
namespace Rp
open Ba Pe _root_.Go.Proofs.YtddchcekljndmaaGreat.Pi

theorem info_rw : (Tryz.prog.info? 133).map (fun i => (i.zero, i.size, i.bytes)) = some (some (wv ⟨0, 0, 0⟩), 3, 24) := by kernel_rfl
theorem info_i : (Tryz.prog.info? 3).map (fun i => (i.zero, i.size, i.bytes)) = some (some (.int .i64 0), 1, 8) := by kernel_rfl
theorem rnew_ok (s : Nat) (w : World) (h : s ≤ 4) :
    Calls Tryz.prog 86 #[.int .i64 (s : Int)] w fun r w' => ∃ G F, r = .returned (.tuple #[.pointer (some ⟨G, 0, none⟩), .int .i64 0]) ∧ Rr w' G F (st0 s) ∧ (∀ k, F k → w.heap.size ≤ k) ∧ Below w.heap.size w w' := by
  have d1 : decide ((s : Int) < 0) = false := decide_eq_false (by omega)
  have d2 : decide (4 < (s : Int)) = false := decide_eq_false (by omega)
  go_enter Tryz.func86, Tryz.ntmps86
  go_wp2_with fail
  go_ret2
  have hs := World.size_alloc w (.cells #[.int .i64 (s : Int), .slice none 0 0, .slice none 0 0, .slice none 0 0, .bool false, .int .i64 0, .int .i64 0] 137)
  exact ⟨w.heap.size, fun k => k = w.heap.size, rfl, RO.rr ⟨heap_new _ _, World.ownsRow_nil _ _ _ _, World.ownsRow_nil _ _ _ _, World.ownsRow_nil _ _ _ _, fun g e => by simp [Value.ownBlock] at e, rfl, fun g e => by simp [Value.ownBlock] at e, fun g e => by simp [Value.ownBlock] at e, fun g e => by simp [Value.ownBlock] at e, fun k (e : k = _) => by rw [hs]; omega, Nat.zero_le _, Nat.zero_le _, Nat.zero_le _, h⟩, fun k (e : k = _) => by omega, below_alloc _ _⟩
/-- what a walk reads of the channel -/
theorem RO.read {w : World} {G : Nat} {F : Nat → Prop} {vL vS vQ : Value} {st : St} (h : RO w G F vL vS vQ st) : ∃ ol cl os cs oq cq, (vL = .slice ol st.buf.length cl ∧ At w ol st.buf ∧ st.buf.length ≤ cl) ∧ (vS = .slice os st.snd.length cs ∧ WAt w os st.snd ∧ st.snd.length ≤ cs) ∧ (vQ = .slice oq st.rcv.length cq ∧ WAt w oq st.rcv ∧ st.rcv.length ≤ cq) := by
  obtain ⟨ol, cl, h1, h2, h3⟩ := own_at h.rl
  obtain ⟨os, cs, g1, g2, g3, _⟩ := owns_wat h.rs
  obtain ⟨oq, cq, k1, k2, k3, _⟩ := owns_wat h.rq
  exact ⟨ol, cl, os, cs, oq, cq, ⟨h1, h2, h3⟩, ⟨g1, g2, g3⟩, k1, k2, k3⟩
set_option maxRecDepth 100000 in
set_option maxHeartbeats 1600000 in
theorem rready_any (G : Nat) (F : Nat → Prop) (st : St) (b : Bool) (w : World) (h : Rr w G F st) :
    Calls Tryz.prog 76 #[.pointer (some ⟨G, 0, none⟩), .bool b] w fun r w' => r = .returned (.bool (rdy st b)) ∧ Below w.heap.size w w' := by
  obtain ⟨vL, vS, vQ, h⟩ := h
  obtain ⟨ol, cl, os, cs, oq, cq, ⟨rfl, _, _⟩, ⟨rfl, _, _⟩, rfl, _, _⟩ := h.read
  have y0 : w.cell? ⟨G, 0, none⟩ = some (.int .i64 (st.size : Int)) := cell_of h.hp 0
  have y1 : w.cell? ⟨G, 1, none⟩ = some (.slice ol st.buf.length cl) := cell_of h.hp 1
  have y2 : w.cell? ⟨G, 2, none⟩ = some (.slice os st.snd.length cs) := cell_of h.hp 2
  have y3 : w.cell? ⟨G, 3, none⟩ = some (.slice oq st.rcv.length cq) := cell_of h.hp 3
  have y4 : w.cell? ⟨G, 4, none⟩ = some (.bool st.closed) := cell_of h.hp 4
  clear h
  unfold rdy room own
  cases b
  · simp only [Bool.false_eq_true, if_false, Bool.not_false, if_true]
    rw [Bool.or_assoc, Bool.or_comm (decide (0 < st.buf.length)), ← Bool.or_assoc]
    clear y0 y3
    generalize st.snd.length = n1 at y2 ⊢
    generalize st.buf.length = n2 at y1 ⊢
    generalize st.closed = cl0 at y4 ⊢
    have e1 : decide (0 < (n1 : Int)) = decide (0 < n1) := by simp
    have e2 : decide (0 < (n2 : Int)) = decide (0 < n2) := by simp
    cases cl0
    · by_cases h1 : 0 < n1
      · have d1 : decide (0 < n1) = true := decide_eq_true h1
        rw [d1] at e1 ⊢
        go_enter Tryz.func76, Tryz.ntmps76
        go_wp2_with fail
        go_ret
        exact ⟨ret_bool (by simp), Below.refl _ _⟩
      · have d1 : decide (0 < n1) = false := decide_eq_false h1
        rw [d1] at e1 ⊢
        go_enter Tryz.func76, Tryz.ntmps76
        go_wp2_with fail
        go_ret
        exact ⟨ret_bool (by simp), Below.refl _ _⟩
    · skip
      go_enter Tryz.func76, Tryz.ntmps76
      go_wp2_with fail
      go_ret
      exact ⟨ret_bool (by simp), Below.refl _ _⟩
  · simp only [if_true, Bool.not_true, Bool.false_eq_true, if_false]
    rw [Bool.or_assoc, Bool.or_comm (decide (st.buf.length < st.size)), ← Bool.or_assoc]
    clear y2
    generalize st.rcv.length = n1 at y3 ⊢
    generalize st.buf.length = n2 at y1 ⊢
    generalize st.size = n3 at y0 ⊢
    generalize st.closed = cl0 at y4 ⊢
    have e1 : decide (0 < (n1 : Int)) = decide (0 < n1) := by simp
    have e2 : decide ((n2 : Int) < (n3 : Int)) = decide (n2 < n3) := by simp
    cases cl0
    · by_cases h1 : 0 < n1
      · have d1 : decide (0 < n1) = true := decide_eq_true h1
        rw [d1] at e1 ⊢
        go_enter Tryz.func76, Tryz.ntmps76
        go_wp2_with fail
        go_quiet (fail)
        go_wp2_with fail
        go_ret
        exact ⟨ret_bool (by simp), bdrew _ _⟩
      · have d1 : decide (0 < n1) = false := decide_eq_false h1
        rw [d1] at e1 ⊢
        go_enter Tryz.func76, Tryz.ntmps76
        go_wp2_with fail
        go_quiet (fail)
        go_wp2_with fail
        go_ret
        exact ⟨ret_bool (by simp), bdrew _ _⟩
    · skip
      go_enter Tryz.func76, Tryz.ntmps76
      go_wp2_with fail
      go_quiet (fail)
      go_wp2_with fail
      go_ret
      exact ⟨ret_bool (by simp), bdrew _ _⟩

set_option maxRecDepth 100000 in
set_option maxHeartbeats 1600000 in
theorem rbehind_any (oa : Option Addr) (x : Wt) (l : List Wt) (c : Nat) (w : World) (hA : WAt w oa (x :: l)) (hc : l.length + 1 ≤ c) (hl : l.length ≤ 1024) :
    Calls Tryz.prog 148 #[.slice oa (l.length + 1) c] w fun r w' => ∃ ob d, r = .returned (.slice ob l.length d) ∧ w'.ownsRow w.heap.size 133 3 (.slice ob l.length d) l.length (wc l) ∧ Below w.heap.size w w' := by
  cases hi : Tryz.prog.info? 133 with
  | none => have := info_rw; rw [hi] at this; cases this
  | some i0 =>
  have hx2 := info_rw
  rw [hi] at hx2
  simp at hx2
  have INF := hide (And.intro hi hx2)
  clear hx2 hi
  obtain ⟨b, off, rfl, a0, a1, a2⟩ := hA 0 x rfl
  have HA1 := hide hA
  clear hA a0 a1 a2
  have hsrc : ∀ off' : Nat, (0 < l.length → off' = off + 3) → ∃ ob d W, (Builtin.append_ #[135, 135] 135 #[.slice none 0 0, .slice (some ⟨b, off', none⟩) l.length (c - 1)]).run Tryz.prog w = .ok (.slice ob l.length d) W ∧ W.ownsRow w.heap.size 133 3 (.slice ob l.length d) l.length (wc l) ∧ Below w.heap.size w W := by
    intro off' ho
    obtain ⟨v', W, hr, h2, h5, _⟩ := run_append_own (P := Tryz.prog) w w.heap.size 135 135 133 i0 (wv ⟨0, 0, 0⟩) 3 24 Tryz.underlying135 INF.out.1 INF.out.2.1 INF.out.2.2.1 INF.out.2.2.2 rfl (by decide) (.slice none 0 0) 0 [] (World.ownsRow_nil _ _ _ _) ⟨b, off', none⟩ l.length (c - 1) (wc l) (wc_len l) (by
      intro j u hj
      have hjl : j < l.length * 3 := by
        have := (List.getElem?_eq_some_iff.1 hj).1
        rw [wc_len] at this
        exact this
      obtain rfl := ho (by omega)
      have hq : j / 3 < l.length := by omega
      obtain ⟨y, hy⟩ : ∃ y, l[j / 3]? = some y := ⟨_, List.getElem?_eq_getElem hq⟩
      obtain ⟨b', o', e, g0, g1, g2⟩ := HA1.out (j / 3 + 1) y (by simpa using hy)
      simp at e
      obtain ⟨rfl, rfl⟩ := e
      obtain ⟨k0, k1, k2⟩ := wc_at l (j / 3) y hy
      rw [Addr.add_lit]
      have hm : j % 3 = 0 ∨ j % 3 = 1 ∨ j % 3 = 2 := by omega
      rcases hm with hm | hm | hm
      · rw [show off + 3 + j = off + (j / 3 + 1) * 3 by omega, g0]
        rw [show j / 3 * 3 = j by omega, hj] at k0
        exact k0.symm
      · rw [show off + 3 + j = off + (j / 3 + 1) * 3 + 1 by omega, g1]
        rw [show j / 3 * 3 + 1 = j by omega, hj] at k1
        exact k1.symm
      · rw [show off + 3 + j = off + (j / 3 + 1) * 3 + 2 by omega, g2]
        rw [show j / 3 * 3 + 2 = j by omega, hj] at k2
        exact k2.symm) (wc_one l) (by unfold maxLen; omega) (by omega) (Nat.le_refl _)
    rw [Nat.zero_add, List.nil_append] at h2
    obtain ⟨ob, d, rfl, _, _⟩ := owns_wat h2
    exact ⟨ob, d, W, hr, h2, (Below.refl _ _).grown h5 (Nat.le_refl _) (fun x hx => by cases hx)⟩
  by_cases hc1 : c = 1
  · obtain rfl := hc1
    obtain rfl : l = [] := List.eq_nil_of_length_eq_zero (by omega)
    obtain ⟨ob, d, W, hr, ho, hb⟩ := hsrc off (fun h => by simp at h)
    have HR : Hid ((Builtin.append_ #[135, 135] 135 #[.slice none 0 0, .slice (some ⟨b, off, none⟩) 0 0]).run Tryz.prog w = .ok (.slice ob 0 d) W) := hr
    have HO := hide ho
    have HB := hide hb
    clear ho hb hr hsrc
    go_enter Tryz.func148, Tryz.ntmps148
    go_wp2_with (at_builtin; refine Lib.wpList_append_run _ rfl _ _ 135 135 rfl _ _ rfl rfl _ _ HR.out ?_)
    go_ret
    exact ⟨ob, d, rfl, HO.out, HB.out⟩
  · obtain ⟨ob, d, W, hr, ho, hb⟩ := hsrc (off + 3) (fun _ => rfl)
    have HR := hide hr
    have HO := hide ho
    have HB := hide hb
    clear ho hb hr hsrc
    go_enter Tryz.func148, Tryz.ntmps148
    go_wp2_with (at_builtin; refine Lib.wpList_append_run _ rfl _ _ 135 135 rfl _ _ rfl rfl _ _ HR.out ?_)
    go_ret
    exact ⟨ob, d, rfl, HO.out, HB.out⟩
set_option maxRecDepth 100000 in
set_option maxHeartbeats 1600000 in
theorem rwithout_any (oa : Option Addr) (l : List Wt) (c : Nat) (g : Int) (w : World) (hA : WAt w oa l) (hle : l.length ≤ 1024) :
    Calls Tryz.prog 105 #[.slice oa l.length c, .int .i64 g] w fun r w' => ∃ ob d, r = .returned (.slice ob (dr g l).length d) ∧ w'.ownsRow w.heap.size 133 3 (.slice ob (dr g l).length d) (dr g l).length (wc (dr g l)) ∧ Below w.heap.size w w' := by
  have HA := hide hA
  clear hA
  cases hi : Tryz.prog.info? 133 with
  | none => have := info_rw; rw [hi] at this; cases this
  | some i0 =>
  have hx2 := info_rw
  rw [hi] at hx2
  simp at hx2
  have INF := hide (And.intro hi hx2)
  clear hx2 hi
  go_enter Tryz.func105, Tryz.ntmps105
  go_wp2_with fail
  go_loopw [5, 10] (fun rv i wr => ∃ (v : Value) (k : Nat), k ≤ l.length ∧ i = .int .i64 k ∧ rv = v ∧ wr.ownsRow w.heap.size 133 3 v (dr g (l.take k)).length (wc (dr g (l.take k))) ∧ Below w.heap.size w wr) (fun _ i _ => l.length - (intOf i).toNat)
  case atStart => exact ⟨_, 0, Nat.zero_le _, rfl, rfl, World.ownsRow_nil _ _ _ _, Below.refl _ _⟩
  case round =>
    obtain ⟨v, k, hk, rfl, rfl, ho, hb⟩ := hrel
    by_cases hlt : k < l.length
    · have hlt' : (k : Int) < (l.length : Int) := by omega
      obtain ⟨x, hx⟩ : ∃ x, l[k]? = some x := ⟨_, List.getElem?_eq_getElem hlt⟩
      obtain ⟨b, off, rfl, q0, q1, q2⟩ := HA.out.below hb k x hx
      have DT := hide (dr_take (g := g) hx)
      have hdl : (dr g (l.take k)).length ≤ k := by
        have h1 := dr_len g (l.take k)
        have h2 := List.length_take_le k l
        omega
      clear hx
      obtain ⟨X, hX⟩ : ∃ X, X = dr g (l.take k) := ⟨_, rfl⟩
      rw [← hX] at DT hdl ho
      clear hX
      have BX := below_alloc wr (.cells #[.int .i64 x.g, .int .i64 x.c, .int .i64 x.v] 133)
      cases hg : x.g == g
      · have hg' : (x.g != g) = true := by simp [bne, hg]
        have EX : Hid (dr g (l.take (k + 1)) = X ++ [x]) := by
          show _ = _
          have := DT.out
          rw [hg] at this
          simpa using this
        have OW1 := own_below ho BX
        have HB1 := btr hb BX
        clear ho hb BX DT
        have BY := below_alloc (wr.alloc (.cells #[.int .i64 x.g, .int .i64 x.c, .int .i64 x.v] 133)) (.cells #[.int .i64 x.g, .int .i64 x.c, .int .i64 x.v] 133)
        have OW := hide (own_below OW1 BY)
        have HB := hide (btr HB1 BY)
        have SR := src3 (wr.alloc (.cells #[.int .i64 x.g, .int .i64 x.c, .int .i64 x.v] 133)) x 133
        rw [World.size_alloc] at SR
        have SRC := hide SR
        clear OW1 HB1 BY SR
        go_wp2_with (at_builtin; refine wpList_append_own _ rfl _ _ 135 rfl w.heap.size 133 i0 (wv ⟨0, 0, 0⟩) 3 24 Tryz.underlying135 INF.out.1 INF.out.2.1 INF.out.2.2.1 INF.out.2.2.2 rfl (by decide) _ _ _ rfl OW.out ⟨wr.heap.size + 1, 0, none⟩ 1 1 (wc [x]) rfl rfl ?c1 ?c2 ?c3 ?c4 ?c5 ?_)
        case c1 => first | exact SRC.out | exact fun j u hj => hj
        case c2 => exact wc_one _
        case c3 => unfold maxLen; omega
        case c4 => omega
        case c5 => first | exact HB.out.size | (have := HB.out.size; rw [World.size_alloc, World.size_alloc] at this; exact this)
        intro v' w3 ho hg3 _
        have B3 : Hid (Below w.heap.size w w3) := HB.out.grown hg3 HB.out.size (fun x hx => (OW.out.lt x hx).1)
        have O3 : Hid (w3.ownsRow w.heap.size 133 3 v' (dr g (l.take (k + 1))).length (wc (dr g (l.take (k + 1))))) := by
          show World.ownsRow _ _ _ _ _ _ _
          rw [EX.out, wc_app, List.length_append]
          exact ho
        clear ho hg3
        go_wp2_with fail
        go_roundw
        case rel =>
          first
            | exact ⟨v', k + 1, by omega, by go_num, rfl, O3.out, B3.out⟩
            | ((repeat apply Exists.intro); exact ⟨⟨v', k + 1, by omega, by go_num, rfl, O3.out, B3.out⟩, rfl⟩)
        case measure => simp [intOf]; omega
      · have hg' : (x.g != g) = false := by simp [bne, hg]
        have EX : Hid (dr g (l.take (k + 1)) = X) := by
          show _ = _
          have := DT.out
          rw [hg] at this
          simpa using this
        have O3 : Hid ((wr.alloc (.cells #[.int .i64 x.g, .int .i64 x.c, .int .i64 x.v] 133)).ownsRow w.heap.size 133 3 u5 (dr g (l.take (k + 1))).length (wc (dr g (l.take (k + 1))))) := by
          show World.ownsRow _ _ _ _ _ _ _
          rw [EX.out]
          exact own_below ho BX
        have B3 := hide (btr hb BX)
        clear ho hb BX DT
        go_wp2_with fail
        go_roundw
        case rel =>
          first
            | exact ⟨_, k + 1, by omega, by go_num, rfl, O3.out, B3.out⟩
            | exact ⟨k + 1, by omega, by go_num, O3.out, B3.out⟩
        case measure => simp [intOf]; omega
    · have hlt' : ¬ ((k : Int) < (l.length : Int)) := by omega
      rw [List.take_of_length_le (by omega)] at ho
      obtain ⟨oa', c', hv', _, _⟩ := owns_wat ho
      subst hv'
      have HO := hide ho
      have HB := hide hb
      clear ho hb
      go_wp2_with fail
      go_ret
      exact ⟨oa', c', rfl, HO.out, HB.out⟩
end Rp
end Go.Proofs.YtddchcekljndmaaGreat
/- Package pipe: ready, Ready, over this seat's program. -/
namespace Go.Proofs.YtddchcekljndmaaGreat
open Go.ChangeShapes Go.WideShapes Go.ChangeAt Go.RowKit
namespace Pi
open Ba Pe

theorem ready_nil (b : Bool) (f : Value) (w : World) :
    Calls Tryz.prog 118 #[.pointer none, .bool b, f] w fun r w' => r = .returned (.bool false) ∧ w' = w := by
  go_enter Tryz.func118, Tryz.ntmps118
  go_wp2_with fail
  go_ret
  exact ⟨rfl, rfl⟩
set_option maxHeartbeats 1600000 in
theorem ready_g (n : FuncId) (caps : Array Value) (hn : ∀ (a : Array Value) (u : World), (callFunc n a).run Tryz.prog u = .ok (.enter n a) u) (b : Bool) (B : Nat) (F : Nat → Prop) (st : St) (send : Bool) (w : World) (h : Pp w B F st)
    (CL : Calls Tryz.prog n (#[.bool (!send)] ++ caps) w fun r w' => r = .returned (.bool b) ∧ Below w.heap.size w w') :
    Calls Tryz.prog 118 #[.pointer (some ⟨B, 0, none⟩), .bool send, .func (.func n) #[] caps] w fun r w' => r = .returned (.bool (st.closed || room st send || b)) ∧ Below w.heap.size w w' := by
  have PP := hide h
  have LN := hide (len_any B F st w h)
  have CP := hide (cap_any B F st w h)
  have CC := hide CL
  obtain ⟨R, S, Q, FS, FQ, h⟩ := h
  have y5 := cell_of h.hp 5
  simp at y5
  clear h CL
  have hd0 : decide (0 < (st.buf.length : Int)) = decide (0 < st.buf.length) := by simp
  have hd1 : decide ((st.buf.length : Int) < (st.size : Int)) = decide (st.buf.length < st.size) := by simp
  unfold room
  cases send
  · simp only [Bool.false_eq_true, if_false]
    cases hc : st.closed
    · cases he : decide (0 < st.buf.length)
      · rw [he] at hd0
        rw [hc] at y5
        go_enter Tryz.func118, Tryz.ntmps118
        go_wp2_with fail
        refine LN.out.mono ?_
        rintro r w1 ⟨rfl, rfl⟩
        go_wp2_with fail
        refine CC.out.mono ?_
        rintro r w2 ⟨rfl, b2⟩
        have B2 := hide b2
        clear b2
        go_wp2_with fail
        go_ret
        exact ⟨ret_bool (by simp), B2.out⟩
      · rw [he] at hd0
        rw [hc] at y5
        go_enter Tryz.func118, Tryz.ntmps118
        go_wp2_with fail
        refine LN.out.mono ?_
        rintro r w1 ⟨rfl, rfl⟩
        go_wp2_with fail
        go_ret
        exact ⟨ret_bool (by simp), Below.refl _ _⟩
    · rw [hc] at y5
      go_enter Tryz.func118, Tryz.ntmps118
      go_wp2_with fail
      refine LN.out.mono ?_
      rintro r w1 ⟨rfl, rfl⟩
      go_wp2_with fail
      go_ret
      exact ⟨ret_bool (by simp), Below.refl _ _⟩
  · simp only [if_true]
    cases hc : st.closed
    · cases he : decide (st.buf.length < st.size)
      · rw [he] at hd1
        rw [hc] at y5
        go_enter Tryz.func118, Tryz.ntmps118
        go_wp2_with fail
        refine LN.out.mono ?_
        rintro r w1 ⟨rfl, rfl⟩
        go_wp2_with fail
        refine LN.out.mono ?_
        rintro r w1 ⟨rfl, rfl⟩
        go_wp2_with fail
        refine CP.out.mono ?_
        rintro r w1 ⟨rfl, rfl⟩
        go_wp2_with fail
        refine CC.out.mono ?_
        rintro r w2 ⟨rfl, b2⟩
        have B2 := hide b2
        clear b2
        go_wp2_with fail
        go_ret
        exact ⟨ret_bool (by simp), B2.out⟩
      · rw [he] at hd1
        rw [hc] at y5
        go_enter Tryz.func118, Tryz.ntmps118
        go_wp2_with fail
        refine LN.out.mono ?_
        rintro r w1 ⟨rfl, rfl⟩
        go_wp2_with fail
        refine LN.out.mono ?_
        rintro r w1 ⟨rfl, rfl⟩
        go_wp2_with fail
        refine CP.out.mono ?_
        rintro r w1 ⟨rfl, rfl⟩
        go_wp2_with fail
        go_ret
        exact ⟨ret_bool (by simp), Below.refl _ _⟩
    · rw [hc] at y5
      go_enter Tryz.func118, Tryz.ntmps118
      go_wp2_with fail
      refine LN.out.mono ?_
      rintro r w1 ⟨rfl, rfl⟩
      go_wp2_with fail
      refine LN.out.mono ?_
      rintro r w1 ⟨rfl, rfl⟩
      go_wp2_with fail
      refine CP.out.mono ?_
      rintro r w1 ⟨rfl, rfl⟩
      go_wp2_with fail
      go_ret
      exact ⟨ret_bool (by simp), Below.refl _ _⟩
theorem Ready_nil (b : Bool) (w : World) :
    Calls Tryz.prog 128 #[.pointer none, .bool b] w fun r w' => r = .returned (.bool false) ∧ Below w.heap.size w w' := by
  have hm := hmf
  go_enter Tryz.func128, Tryz.ntmps128
  go_wp2_with fail
  refine (ready_nil b _ _).mono ?_
  rintro r w1 ⟨rfl, rfl⟩
  go_wp2_with fail
  go_ret
  exact ⟨rfl, below_alloc _ _⟩
set_option maxRecDepth 100000 in
theorem Ready_any (B : Nat) (F : Nat → Prop) (st : St) (b : Bool) (w : World) (h : Pp w B F st) :
    Calls Tryz.prog 128 #[.pointer (some ⟨B, 0, none⟩), .bool b] w fun r w' => r = .returned (.bool (rdy st b)) ∧ Below w.heap.size w w' := by
  have hm := hmf
  have BA := hide (below_alloc w (.cells #[.pointer (some ⟨B, 0, none⟩)] 150))
  have PA := hide (h.below BA.out)
  have R1 := hide (ready1_any B F st (!b) w.heap.size _ PA.out (cell_of (heap_new _ _) 0))
  have R2 := hide (ready_g 145 #[.pointer (some ⟨w.heap.size, 0, none⟩)] (fun _ _ => by rfl) (decide (0 < (own st (!b)).length)) B F st b _ PA.out (R1.out.mono (by rintro r w1 ⟨rfl, rfl⟩; exact ⟨rfl, Below.refl _ _⟩)))
  clear h R1
  unfold rdy
  generalize (st.closed || room st b || decide (0 < (own st (!b)).length)) = q at R2 ⊢
  go_enter Tryz.func128, Tryz.ntmps128
  go_wp2_with fail
  refine R2.out.mono ?_
  rintro r w1 ⟨rfl, b1⟩
  have B1 := hide (btr BA.out b1)
  clear b1
  go_wp2_with fail
  go_ret
  exact ⟨rfl, B1.out⟩
end Pi
end Go.Proofs.YtddchcekljndmaaGreat
/- Package pipe: Send, out, Recv, over this seat's program. -/
namespace Go.Proofs.YtddchcekljndmaaGreat
open Go.ChangeShapes Go.WideShapes Go.ChangeAt Go.RowKit
namespace Pi
open Ba Pe

theorem size_got : (Tryz.prog.info? 160).map (·.size) = some 7 := by kernel_rfl
theorem loadVar_got {w : World} {b : Nat} {c : Array Value} {t : TypeId} (h : w.heap[b]? = some (.cells c t (0, 0))) (hc : c.size = 7) : (loadVar 160 ⟨b, 0, none⟩).run Tryz.prog w = .ok (.agg c) w :=
  run_loadVar_row w b t _ _ _ _ h Tryz.underlying160 rfl (by rw [size_got, hc])
theorem got_set {w : World} {b : Nat} {x0 x1 x2 x3 x4 x5 x6 : Value} {t : TypeId} (h : w.heap[b]? = some (.cells #[x0, x1, x2, x3, x4, x5, x6] t (0, 0))) (u0 u1 u2 u3 u4 u5 u6 : Value) : (((((((w.setCell ⟨b, 0, none⟩ u0).setCell ⟨b, 1, none⟩ u1).setCell ⟨b, 2, none⟩ u2).setCell ⟨b, 3, none⟩ u3).setCell ⟨b, 4, none⟩ u4).setCell ⟨b, 5, none⟩ u5).setCell ⟨b, 6, none⟩ u6).heap[b]? = some (.cells #[u0, u1, u2, u3, u4, u5, u6] t (0, 0)) := by
  rw [Ba.heap_setCell_same (Ba.heap_setCell_same (Ba.heap_setCell_same (Ba.heap_setCell_same (Ba.heap_setCell_same (Ba.heap_setCell_same (Ba.heap_setCell_same h u0) u1) u2) u3) u4) u5) u6]
  rfl
/-- the result's cells, a new block, are laid last -/
theorem fin7 {w A : World} {B Z : Nat} {F F' : Nat → Prop} {st : St} (k : KF F w A) (i : Nw F' F w) (p : Pp A B F' st) (hz : w.heap.size ≤ Z) (hn : ¬ F' Z) (u0 u1 u2 u3 u4 u5 u6 : Value) :
    KF F w (((((((A.setCell ⟨Z, 0, none⟩ u0).setCell ⟨Z, 1, none⟩ u1).setCell ⟨Z, 2, none⟩ u2).setCell ⟨Z, 3, none⟩ u3).setCell ⟨Z, 4, none⟩ u4).setCell ⟨Z, 5, none⟩ u5).setCell ⟨Z, 6, none⟩ u6) ∧ ∃ F', Nw F' F w ∧ Pp (((((((A.setCell ⟨Z, 0, none⟩ u0).setCell ⟨Z, 1, none⟩ u1).setCell ⟨Z, 2, none⟩ u2).setCell ⟨Z, 3, none⟩ u3).setCell ⟨Z, 4, none⟩ u4).setCell ⟨Z, 5, none⟩ u5).setCell ⟨Z, 6, none⟩ u6) B F' st := by
  have K := (((((((KB.refl Z A).setCell 0 u0).setCell 1 u1).setCell 2 u2).setCell 3 u3).setCell 4 u4).setCell 5 u5).setCell 6 u6
  exact ⟨((((((k.setNew hz 0 u0).setNew hz 1 u1).setNew hz 2 u2).setNew hz 3 u3).setNew hz 4 u4).setNew hz 5 u5).setNew hz 6 u6, F', i, p.sm fun x hx => K.block x (p.bd x hx) (fun e => hn (e ▸ hx))⟩

theorem send_nil (x : Int) (w : World) :
    Calls Tryz.prog 136 #[.pointer none, .int .i64 x] w fun r w' => r = .returned (.tuple #[gv gz, .int .i64 0]) ∧ Below w.heap.size w w' := by
  go_enter Tryz.func136, Tryz.ntmps136
  go_wp2_with fail
  first
    | exact bodyPost_ret (results_row2 Tryz.results136 _ _ _ _ _ rfl rfl (loadVar_got (heap_new _ _) rfl)) rfl ⟨rfl, below_alloc _ _⟩
    | exact bodyPost_ret (results_row2 Tryz.results136 _ _ _ _ _ rfl rfl (loadVar_got (got_set (heap_new _ _) _ _ _ _ _ _ _) rfl)) rfl ⟨rfl, (((((((below_alloc _ _).setCell (Nat.le_refl _) _).setCell (Nat.le_refl _) _).setCell (Nat.le_refl _) _).setCell (Nat.le_refl _) _).setCell (Nat.le_refl _) _).setCell (Nat.le_refl _) _).setCell (Nat.le_refl _) _⟩
set_option maxHeartbeats 3200000 in
theorem send_closed (B : Nat) (F : Nat → Prop) (st : St) (x : Int) (w : World) (h : Pp w B F st) (hc : st.closed = true) :
    Calls Tryz.prog 136 #[.pointer (some ⟨B, 0, none⟩), .int .i64 x] w fun r w' => r = .returned (.tuple #[gv gz, .int .i64 90]) ∧ KF F w w' ∧ ∃ F', Nw F' F w ∧ Pp w' B F' st := by
  have hB := h.lt
  have P1 := hide (h.below (below_alloc w (.cells #[.bool false, .bool false, .bool false, .int .i64 0, .int .i64 0, .int .i64 0, .int .i64 0] 160)))
  have Z1 := hide (heap_new w (.cells #[.bool false, .bool false, .bool false, .int .i64 0, .int .i64 0, .int .i64 0, .int .i64 0] 160))
  have NF : Hid (¬ F w.heap.size) := fun e => Nat.lt_irrefl _ (h.bd _ e)
  have y5 : (w.alloc (.cells #[.bool false, .bool false, .bool false, .int .i64 0, .int .i64 0, .int .i64 0, .int .i64 0] 160)).cell? ⟨B, 5, none⟩ = some (.bool true) := by
    obtain ⟨R, S, Q, FS, FQ, h'⟩ := P1.out
    have := cell_of h'.hp 5
    rw [hc] at this
    exact this
  clear h hc
  go_enter Tryz.func136, Tryz.ntmps136
  go_wp2_with fail
  first
    | exact bodyPost_ret (results_row2 Tryz.results136 _ _ _ _ _ rfl rfl (loadVar_got Z1.out rfl)) rfl ⟨rfl, KF.of (below_alloc _ _), F, Nw.refl _ _, P1.out⟩
    | exact bodyPost_ret (results_row2 Tryz.results136 _ _ _ _ _ rfl rfl (loadVar_got (got_set Z1.out _ _ _ _ _ _ _) rfl)) rfl ⟨rfl, fin7 (KF.of (below_alloc _ _)) (Nw.refl _ _) P1.out (Nat.le_refl _) NF.out _ _ _ _ _ _ _⟩
end Pi
end Go.Proofs.YtddchcekljndmaaGreat
/- The reference's channel: Send, over this seat's program. -/
namespace Go.Proofs.YtddchcekljndmaaGreat
open Go.ChangeShapes Go.WideShapes Go.ChangeAt Go.RowKit
namespace Rp
open Ba Pe _root_.Go.Proofs.YtddchcekljndmaaGreat.Pi

theorem size_rgot : (Tryz.prog.info? 169).map (·.size) = some 7 := by kernel_rfl
theorem loadVar_rgot {w : World} {b : Nat} {c : Array Value} {t : TypeId} (h : w.heap[b]? = some (.cells c t (0, 0))) (hc : c.size = 7) : (loadVar 169 ⟨b, 0, none⟩).run Tryz.prog w = .ok (.agg c) w :=
  run_loadVar_row w b t _ _ _ _ h Tryz.underlying169 rfl (by rw [size_rgot, hc])
/-- the result's cells, a new block, are laid last -/
theorem rfin7 {w A : World} {G Z : Nat} {F F' : Nat → Prop} {st : St} (k : KF F w A) (i : Nw F' F w) (p : Rr A G F' st) (hz : w.heap.size ≤ Z) (hn : ¬ F' Z) (u0 u1 u2 u3 u4 u5 u6 : Value) :
    KF F w (((((((A.setCell ⟨Z, 0, none⟩ u0).setCell ⟨Z, 1, none⟩ u1).setCell ⟨Z, 2, none⟩ u2).setCell ⟨Z, 3, none⟩ u3).setCell ⟨Z, 4, none⟩ u4).setCell ⟨Z, 5, none⟩ u5).setCell ⟨Z, 6, none⟩ u6) ∧ ∃ F', Nw F' F w ∧ Rr (((((((A.setCell ⟨Z, 0, none⟩ u0).setCell ⟨Z, 1, none⟩ u1).setCell ⟨Z, 2, none⟩ u2).setCell ⟨Z, 3, none⟩ u3).setCell ⟨Z, 4, none⟩ u4).setCell ⟨Z, 5, none⟩ u5).setCell ⟨Z, 6, none⟩ u6) G F' st := by
  have K := (((((((KB.refl Z A).setCell 0 u0).setCell 1 u1).setCell 2 u2).setCell 3 u3).setCell 4 u4).setCell 5 u5).setCell 6 u6
  exact ⟨((((((k.setNew hz 0 u0).setNew hz 1 u1).setNew hz 2 u2).setNew hz 3 u3).setNew hz 4 u4).setNew hz 5 u5).setNew hz 6 u6, F', i, p.sm fun x hx => K.block x (p.bd x hx) (fun e => hn (e ▸ hx))⟩
set_option maxHeartbeats 3200000 in
theorem rsend_closed (G : Nat) (F : Nat → Prop) (st : St) (x : Int) (w : World) (h : Rr w G F st) (hc : st.closed = true) :
    Calls Tryz.prog 133 #[.pointer (some ⟨G, 0, none⟩), .int .i64 x] w fun r w' => r = .returned (.tuple #[gv gz, .int .i64 90]) ∧ KF F w w' ∧ ∃ F', Nw F' F w ∧ Rr w' G F' st := by
  have hG := h.lt
  have P1 := hide (h.below (below_alloc w (.cells #[.bool false, .bool false, .bool false, .int .i64 0, .int .i64 0, .int .i64 0, .int .i64 0] 169)))
  have Z1 := hide (heap_new w (.cells #[.bool false, .bool false, .bool false, .int .i64 0, .int .i64 0, .int .i64 0, .int .i64 0] 169))
  have NF : Hid (¬ F w.heap.size) := fun e => Nat.lt_irrefl _ (h.bd _ e)
  have y4 : (w.alloc (.cells #[.bool false, .bool false, .bool false, .int .i64 0, .int .i64 0, .int .i64 0, .int .i64 0] 169)).cell? ⟨G, 4, none⟩ = some (.bool true) := by
    obtain ⟨vL, vS, vQ, h'⟩ := P1.out
    have := cell_of h'.hp 4
    rw [hc] at this
    exact this
  clear h hc
  go_enter Tryz.func133, Tryz.ntmps133
  go_wp2_with fail
  first
    | exact bodyPost_ret (results_row2 Tryz.results133 _ _ _ _ _ rfl rfl (loadVar_rgot Z1.out rfl)) rfl ⟨rfl, KF.of (below_alloc _ _), F, Nw.refl _ _, P1.out⟩
    | exact bodyPost_ret (results_row2 Tryz.results133 _ _ _ _ _ rfl rfl (loadVar_rgot (got_set Z1.out _ _ _ _ _ _ _) rfl)) rfl ⟨rfl, rfin7 (KF.of (below_alloc _ _)) (Nw.refl _ _) P1.out (Nat.le_refl _) NF.out _ _ _ _ _ _ _⟩
set_option maxRecDepth 100000 in
set_option maxHeartbeats 3200000 in
theorem rsend_woke (G : Nat) (F : Nat → Prop) (st : St) (x : Int) (y : Wt) (t : List Wt) (w : World) (h : Rr w G F st) (hc : st.closed = false) (hr : st.rcv = y :: t) (hs : st.sent < 1000000000) (hg : st.got < 1000000000) :
    Calls Tryz.prog 133 #[.pointer (some ⟨G, 0, none⟩), .int .i64 x] w fun r w' => r = .returned (.tuple #[gv ⟨true, false, true, 0, y⟩, .int .i64 0]) ∧ KF F w w' ∧ ∃ F', Nw F' F w ∧ Rr w' G F' { st with rcv := t, sent := st.sent + 1, got := st.got + 1 } := by
  have hG := h.lt
  have NF : Hid (¬ F w.heap.size) := fun e => Nat.lt_irrefl _ (h.bd _ e)
  obtain ⟨vL, vS, vQ, h⟩ := h
  have FG := hide h.fg
  have BDF := hide h.bd
  have b1 := below_alloc w (.cells #[.bool false, .bool false, .bool false, .int .i64 0, .int .i64 0, .int .i64 0, .int .i64 0] 169)
  have b2 := below_alloc (w.alloc (.cells #[.bool false, .bool false, .bool false, .int .i64 0, .int .i64 0, .int .i64 0, .int .i64 0] 169)) (.cells #[.int .i64 y.g, .int .i64 y.c, .int .i64 y.v] 133)
  have P1 := hide (h.below b1)
  have P2 := hide (h.below (btr b1 b2))
  have Z2 := hide (heap_below (heap_new w (.cells #[.bool false, .bool false, .bool false, .int .i64 0, .int .i64 0, .int .i64 0, .int .i64 0] 169)) b2)
  have BB := hide (btr b1 b2)
  have hm2 := heap_new (w.alloc (.cells #[.bool false, .bool false, .bool false, .int .i64 0, .int .i64 0, .int .i64 0, .int .i64 0] 169)) (.cells #[.int .i64 y.g, .int .i64 y.c, .int .i64 y.v] 133)
  rw [World.size_alloc] at hm2
  have M2 := hide hm2
  obtain ⟨oq, cq, eq1, hAQ, hcq, _⟩ := owns_wat P1.out.rq
  subst eq1
  have hle := h.leq
  rw [hr] at hAQ hcq hle
  rw [List.length_cons] at hcq hle
  have y4 : (w.alloc (.cells #[.bool false, .bool false, .bool false, .int .i64 0, .int .i64 0, .int .i64 0, .int .i64 0] 169)).cell? ⟨G, 4, none⟩ = some (.bool false) := (cell_of P1.out.hp 4).trans (by rw [hc]; rfl)
  have y3 : (w.alloc (.cells #[.bool false, .bool false, .bool false, .int .i64 0, .int .i64 0, .int .i64 0, .int .i64 0] 169)).cell? ⟨G, 3, none⟩ = some (.slice oq (t.length + 1) cq) := (cell_of P1.out.hp 3).trans (by rw [hr]; rfl)
  have y3' : ((w.alloc (.cells #[.bool false, .bool false, .bool false, .int .i64 0, .int .i64 0, .int .i64 0, .int .i64 0] 169)).alloc (.cells #[.int .i64 y.g, .int .i64 y.c, .int .i64 y.v] 133)).cell? ⟨G, 3, none⟩ = some (.slice oq (t.length + 1) cq) := (cell_of P2.out.hp 3).trans (by rw [hr]; rfl)
  obtain ⟨b, off, rfl, q0, q1, q2⟩ := hAQ 0 y rfl
  rw [Nat.zero_mul, Nat.add_zero] at q0 q1 q2
  have BE := hide (rbehind_any _ y t cq _ (hAQ.below b2) hcq (by omega))
  have hpos : decide (0 < ((t.length : Int) + 1)) = true := decide_eq_true (by omega)
  have hS2 : ((w.alloc (.cells #[.bool false, .bool false, .bool false, .int .i64 0, .int .i64 0, .int .i64 0, .int .i64 0] 169)).alloc (.cells #[.int .i64 y.g, .int .i64 y.c, .int .i64 y.v] 133)).heap.size = w.heap.size + 2 := by rw [World.size_alloc, World.size_alloc]
  clear h hc hr hAQ b1 b2 hm2
  unfold gv
  go_enter Tryz.func133, Tryz.ntmps133
  go_wp2_with fail
  generalize (w.alloc (.cells #[.bool false, .bool false, .bool false, .int .i64 0, .int .i64 0, .int .i64 0, .int .i64 0] 169)).alloc (.cells #[.int .i64 y.g, .int .i64 y.c, .int .i64 y.v] 133) = W2 at P2 Z2 BB M2 BE hS2 y3' ⊢
  refine BE.out.mono ?_
  rintro r w3 ⟨ob, d, rfl, o3, b3⟩
  have P3 := hide (P2.out.below b3)
  have Z3 := hide (heap_below Z2.out b3)
  have M3 := hide (heap_below M2.out b3)
  have B3 := hide (btr BB.out b3)
  have O3 := hide o3
  have hM1 : w.heap.size + 1 ≠ G := by omega
  have hM3 : G ≠ w.heap.size := by omega
  clear o3 b3 BE BB Z2 M2 P2 P1 y3 y3' y4 q0 q1 q2
  have m0 : w3.cell? ⟨w.heap.size + 1, 0, none⟩ = some (.int .i64 y.g) := cell_of M3.out 0
  have m1 : w3.cell? ⟨w.heap.size + 1, 1, none⟩ = some (.int .i64 y.c) := cell_of M3.out 1
  have m2 : w3.cell? ⟨w.heap.size + 1, 2, none⟩ = some (.int .i64 y.v) := cell_of M3.out 2
  have g3 : w3.cell? ⟨G, 3, none⟩ = some (.slice (some ⟨b, off, none⟩) st.rcv.length cq) := cell_of P3.out.hp 3
  have g5 : w3.cell? ⟨G, 5, none⟩ = some (.int .i64 (st.sent : Int)) := cell_of P3.out.hp 5
  have g6 : w3.cell? ⟨G, 6, none⟩ = some (.int .i64 (st.got : Int)) := cell_of P3.out.hp 6
  have gf3 := frozen_of P3.out.hp 3
  have gf5 := frozen_of P3.out.hp 5
  have gf6 := frozen_of P3.out.hp 6
  have z0 : w3.cell? ⟨w.heap.size, 0, none⟩ = some (.bool false) := cell_of Z3.out 0
  have zf0 := frozen_of Z3.out 0
  have z1 : w3.cell? ⟨w.heap.size, 1, none⟩ = some (.bool false) := cell_of Z3.out 1
  have zf1 := frozen_of Z3.out 1
  have z2 : w3.cell? ⟨w.heap.size, 2, none⟩ = some (.bool false) := cell_of Z3.out 2
  have zf2 := frozen_of Z3.out 2
  have z3 : w3.cell? ⟨w.heap.size, 3, none⟩ = some (.int .i64 0) := cell_of Z3.out 3
  have zf3 := frozen_of Z3.out 3
  have z4 : w3.cell? ⟨w.heap.size, 4, none⟩ = some (.int .i64 0) := cell_of Z3.out 4
  have zf4 := frozen_of Z3.out 4
  have z5 : w3.cell? ⟨w.heap.size, 5, none⟩ = some (.int .i64 0) := cell_of Z3.out 5
  have zf5 := frozen_of Z3.out 5
  have z6 : w3.cell? ⟨w.heap.size, 6, none⟩ = some (.int .i64 0) := cell_of Z3.out 6
  have zf6 := frozen_of Z3.out 6
  go_wp2_with fail
  have R1 := ((P3.out.newQ O3.out (fun k hk => by have := BDF.out k hk; omega) (by omega)).setSent (st.sent + 1) ((st.sent : Int) + 1) (by omega)).setGot (st.got + 1) ((st.got : Int) + 1) (by omega)
  have NN : Nw (Fw F (.slice ob t.length d)) F w := Fw.nw O3.out (by omega)
  have NZ : ¬ Fw F (.slice ob t.length d) w.heap.size := by
    rintro (q | q)
    · exact NF.out q
    · have := (own_blk O3.out _ q).1
      omega
  exact bodyPost_ret (results_row2 Tryz.results133 _ _ _ _ _ rfl rfl (loadVar_rgot (got_set ((Below.heap_setCell _ _ _ _ (Ne.symm hM3)).trans ((Below.heap_setCell _ _ _ _ (Ne.symm hM3)).trans ((Below.heap_setCell _ _ _ _ (Ne.symm hM3)).trans Z3.out))) _ _ _ _ _ _ _) rfl)) rfl ⟨rfl, rfin7 ((((KF.of (F := F) B3.out).set FG.out 3 _).set FG.out 5 _).set FG.out 6 _) NN R1.rr (Nat.le_refl _) NZ _ _ _ _ _ _ _⟩
end Rp
end Go.Proofs.YtddchcekljndmaaGreat
/- Package pipe: Send, over this seat's program. -/
namespace Go.Proofs.YtddchcekljndmaaGreat
open Go.ChangeShapes Go.WideShapes Go.ChangeAt Go.RowKit
namespace Pi
open Ba Pe

set_option maxHeartbeats 3200000 in
theorem send_woke (B : Nat) (F : Nat → Prop) (st : St) (x : Int) (y : Wt) (t : List Wt) (w : World) (h : Pp w B F st) (hc : st.closed = false) (hr : st.rcv = y :: t) (hs : st.sent < 1000000000) (hg : st.got < 1000000000) :
    Calls Tryz.prog 136 #[.pointer (some ⟨B, 0, none⟩), .int .i64 x] w fun r w' => r = .returned (.tuple #[gv ⟨true, false, true, 0, y⟩, .int .i64 0]) ∧ KF F w w' ∧ ∃ F', Nw F' F w ∧ Pp w' B F' { st with rcv := t, sent := st.sent + 1, got := st.got + 1 } := by
  have hB := h.lt
  have NF : Hid (¬ F w.heap.size) := fun e => Nat.lt_irrefl _ (h.bd _ e)
  obtain ⟨R, S, Q, FS, FQ, h⟩ := h
  have P1 := hide (h.below (below_alloc w (.cells #[.bool false, .bool false, .bool false, .int .i64 0, .int .i64 0, .int .i64 0, .int .i64 0] 160)))
  have Z1 := hide (heap_new w (.cells #[.bool false, .bool false, .bool false, .int .i64 0, .int .i64 0, .int .i64 0, .int .i64 0] 160))
  have y5 : (w.alloc (.cells #[.bool false, .bool false, .bool false, .int .i64 0, .int .i64 0, .int .i64 0, .int .i64 0] 160)).cell? ⟨B, 5, none⟩ = some (.bool false) := (cell_of P1.out.hp 5).trans (by rw [hc]; rfl)
  have y2 : (w.alloc (.cells #[.bool false, .bool false, .bool false, .int .i64 0, .int .i64 0, .int .i64 0, .int .i64 0] 160)).cell? ⟨B, 2, none⟩ = some (.pointer (some ⟨Q, 0, none⟩)) := cell_of P1.out.hp 2
  have TK := hide (take_any Q FQ st.rcv _ P1.out.pq)
  have FB := hide h.fb
  rw [hr] at TK
  have HR := hide hr
  clear h hc hr
  unfold gv
  go_enter Tryz.func136, Tryz.ntmps136
  go_wp2_with fail
  refine TK.out.mono ?_
  rintro r w2 ⟨rfl, k2, p2⟩
  obtain ⟨P2, K2, N2⟩ := P1.out.rcv k2 (Nw.refl _ _) p2
  have PP2 := hide (P2.below (below_alloc w2 (.cells #[.int .i64 y.g, .int .i64 y.c, .int .i64 y.v] 158)))
  have M3 := hide (heap_new w2 (.cells #[.int .i64 y.g, .int .i64 y.c, .int .i64 y.v] 158))
  have Z3 := hide (heap_below (k2.heap Z1.out (fun e => NF.out (P1.out.fq _ e))) (below_alloc w2 (.cells #[.int .i64 y.g, .int .i64 y.c, .int .i64 y.v] 158)))
  have KK := hide (((KF.of (F := F) (below_alloc w (.cells #[.bool false, .bool false, .bool false, .int .i64 0, .int .i64 0, .int .i64 0, .int .i64 0] 160))).trans K2 (Nw.refl _ _)).then (below_alloc w2 (.cells #[.int .i64 y.g, .int .i64 y.c, .int .i64 y.v] 158)))
  have N3 : Hid (Nw (fun x => F x ∨ FQ x) F w) := fun k hk => hk.elim .inl (fun q => .inl (P1.out.fq k q))
  have NF3 : Hid (¬ (F w.heap.size ∨ FQ w.heap.size)) := fun e => e.elim NF.out (fun q => NF.out (P1.out.fq _ q))
  have hz2 : w.heap.size < w2.heap.size := by have := k2.size; rw [World.size_alloc] at this; omega
  have hM1 : w2.heap.size ≠ B := by omega
  have hM2 : w2.heap.size ≠ w.heap.size := by omega
  have hM3 : B ≠ w.heap.size := by omega
  clear k2 p2 P2 K2 N2 TK P1 Z1 y5 y2
  unfold wv
  simp only [fw, fo, List.isEmpty_cons, Bool.not_false]
  have q0 : (w2.alloc (.cells #[.int .i64 y.g, .int .i64 y.c, .int .i64 y.v] 158)).cell? ⟨w2.heap.size, 0, none⟩ = some (.int .i64 y.g) := cell_of M3.out 0
  have q1 : (w2.alloc (.cells #[.int .i64 y.g, .int .i64 y.c, .int .i64 y.v] 158)).cell? ⟨w2.heap.size, 1, none⟩ = some (.int .i64 y.c) := cell_of M3.out 1
  have q2 : (w2.alloc (.cells #[.int .i64 y.g, .int .i64 y.c, .int .i64 y.v] 158)).cell? ⟨w2.heap.size, 2, none⟩ = some (.int .i64 y.v) := cell_of M3.out 2
  have z0 : (w2.alloc (.cells #[.int .i64 y.g, .int .i64 y.c, .int .i64 y.v] 158)).cell? ⟨w.heap.size, 0, none⟩ = some (.bool false) := cell_of Z3.out 0
  have zf0 := frozen_of Z3.out 0
  have z1 : (w2.alloc (.cells #[.int .i64 y.g, .int .i64 y.c, .int .i64 y.v] 158)).cell? ⟨w.heap.size, 1, none⟩ = some (.bool false) := cell_of Z3.out 1
  have zf1 := frozen_of Z3.out 1
  have z2 : (w2.alloc (.cells #[.int .i64 y.g, .int .i64 y.c, .int .i64 y.v] 158)).cell? ⟨w.heap.size, 2, none⟩ = some (.bool false) := cell_of Z3.out 2
  have zf2 := frozen_of Z3.out 2
  have z3 : (w2.alloc (.cells #[.int .i64 y.g, .int .i64 y.c, .int .i64 y.v] 158)).cell? ⟨w.heap.size, 3, none⟩ = some (.int .i64 0) := cell_of Z3.out 3
  have zf3 := frozen_of Z3.out 3
  have z4 : (w2.alloc (.cells #[.int .i64 y.g, .int .i64 y.c, .int .i64 y.v] 158)).cell? ⟨w.heap.size, 4, none⟩ = some (.int .i64 0) := cell_of Z3.out 4
  have zf4 := frozen_of Z3.out 4
  have z5 : (w2.alloc (.cells #[.int .i64 y.g, .int .i64 y.c, .int .i64 y.v] 158)).cell? ⟨w.heap.size, 5, none⟩ = some (.int .i64 0) := cell_of Z3.out 5
  have zf5 := frozen_of Z3.out 5
  have z6 : (w2.alloc (.cells #[.int .i64 y.g, .int .i64 y.c, .int .i64 y.v] 158)).cell? ⟨w.heap.size, 6, none⟩ = some (.int .i64 0) := cell_of Z3.out 6
  have zf6 := frozen_of Z3.out 6
  have p3 : (w2.alloc (.cells #[.int .i64 y.g, .int .i64 y.c, .int .i64 y.v] 158)).cell? ⟨B, 3, none⟩ = some (.int .i64 (st.sent : Int)) := cell_of PP2.out.hp 3
  have p4 : (w2.alloc (.cells #[.int .i64 y.g, .int .i64 y.c, .int .i64 y.v] 158)).cell? ⟨B, 4, none⟩ = some (.int .i64 (st.got : Int)) := cell_of PP2.out.hp 4
  have pf3 := frozen_of PP2.out.hp 3
  have pf4 := frozen_of PP2.out.hp 4
  go_wp2_with fail
  exact bodyPost_ret (results_row2 Tryz.results136 _ _ _ _ _ rfl rfl (loadVar_got (got_set ((Below.heap_setCell _ _ _ _ (Ne.symm hM3)).trans ((Below.heap_setCell _ _ _ _ (Ne.symm hM3)).trans Z3.out)) _ _ _ _ _ _ _) rfl)) rfl ⟨rfl, fin7 ((KK.out.set FB.out 3 _).set FB.out 4 _) N3.out ((PP2.out.setSent (st.sent + 1) _ (by omega)).setGot (st.got + 1) _ (by omega)).pp (Nat.le_refl _) NF3.out _ _ _ _ _ _ _⟩
set_option maxHeartbeats 3200000 in
theorem send_room (B : Nat) (F : Nat → Prop) (st : St) (x : Int) (w : World) (h : Pp w B F st) (hc : st.closed = false) (hr : st.rcv = []) (hl : st.buf.length < st.size) (hs : st.sent < 1000000000) :
    Calls Tryz.prog 136 #[.pointer (some ⟨B, 0, none⟩), .int .i64 x] w fun r w' => r = .returned (.tuple #[gv ⟨true, false, false, 0, ⟨0, 0, 0⟩⟩, .int .i64 0]) ∧ KF F w w' ∧ ∃ F', Nw F' F w ∧ Pp w' B F' { st with buf := st.buf ++ [x], sent := st.sent + 1 } := by
  have hB := h.lt
  have NF : Hid (¬ F w.heap.size) := fun e => Nat.lt_irrefl _ (h.bd _ e)
  obtain ⟨R, S, Q, FS, FQ, h⟩ := h
  have P1 := hide (h.below (below_alloc w (.cells #[.bool false, .bool false, .bool false, .int .i64 0, .int .i64 0, .int .i64 0, .int .i64 0] 160)))
  have Z1 := hide (heap_new w (.cells #[.bool false, .bool false, .bool false, .int .i64 0, .int .i64 0, .int .i64 0, .int .i64 0] 160))
  have y5 : (w.alloc (.cells #[.bool false, .bool false, .bool false, .int .i64 0, .int .i64 0, .int .i64 0, .int .i64 0] 160)).cell? ⟨B, 5, none⟩ = some (.bool false) := (cell_of P1.out.hp 5).trans (by rw [hc]; rfl)
  have y2 : (w.alloc (.cells #[.bool false, .bool false, .bool false, .int .i64 0, .int .i64 0, .int .i64 0, .int .i64 0] 160)).cell? ⟨B, 2, none⟩ = some (.pointer (some ⟨Q, 0, none⟩)) := cell_of P1.out.hp 2
  have TK := hide (take_none Q _ (by have := P1.out.pq.pw; rw [hr] at this; exact this))
  have FB := hide h.fb
  have FR := hide h.fr
  clear h hc hr
  unfold gv
  go_enter Tryz.func136, Tryz.ntmps136
  go_wp2_with fail
  refine TK.out.mono ?_
  rintro r w2 ⟨rfl, b2⟩
  have bb := btr b2 (below_alloc w2 (.cells #[.int .i64 0, .int .i64 0, .int .i64 0] 158))
  have P3 := hide (P1.out.below bb)
  have Z3 := hide (heap_below Z1.out bb)
  have K3 := hide (KF.of (F := F) (btr (below_alloc w (.cells #[.bool false, .bool false, .bool false, .int .i64 0, .int .i64 0, .int .i64 0, .int .i64 0] 160)) bb))
  have y0 : (w2.alloc (.cells #[.int .i64 0, .int .i64 0, .int .i64 0] 158)).cell? ⟨B, 0, none⟩ = some (.pointer (some ⟨R, 0, none⟩)) := cell_of P3.out.hp 0
  have PU := hide (Rn.push_ok R st.size st.buf x _ P3.out.rg hl)
  have hM3 : B ≠ w.heap.size := by omega
  clear b2 bb TK P1 Z1 y5 y2
  unfold wv
  go_wp2_with fail
  generalize w2.alloc (.cells #[.int .i64 0, .int .i64 0, .int .i64 0] 158) = W3 at P3 Z3 K3 PU y0 ⊢
  refine PU.out.mono ?_
  rintro r w4 ⟨rfl, r4, k4⟩
  have P4 := hide (P3.out.ring k4 r4)
  have Z4 := hide (k4.heap Z3.out (fun e => NF.out (e ▸ FR.out)))
  have K4 := hide (K3.out.trans (KF.kb (F := F) k4 FR.out) (Nw.refl _ _))
  clear r4 k4 y0
  have z0 : w4.cell? ⟨w.heap.size, 0, none⟩ = some (.bool false) := cell_of Z4.out 0
  have zf0 := frozen_of Z4.out 0
  have z1 : w4.cell? ⟨w.heap.size, 1, none⟩ = some (.bool false) := cell_of Z4.out 1
  have zf1 := frozen_of Z4.out 1
  have z2 : w4.cell? ⟨w.heap.size, 2, none⟩ = some (.bool false) := cell_of Z4.out 2
  have zf2 := frozen_of Z4.out 2
  have z3 : w4.cell? ⟨w.heap.size, 3, none⟩ = some (.int .i64 0) := cell_of Z4.out 3
  have zf3 := frozen_of Z4.out 3
  have z4 : w4.cell? ⟨w.heap.size, 4, none⟩ = some (.int .i64 0) := cell_of Z4.out 4
  have zf4 := frozen_of Z4.out 4
  have z5 : w4.cell? ⟨w.heap.size, 5, none⟩ = some (.int .i64 0) := cell_of Z4.out 5
  have zf5 := frozen_of Z4.out 5
  have z6 : w4.cell? ⟨w.heap.size, 6, none⟩ = some (.int .i64 0) := cell_of Z4.out 6
  have zf6 := frozen_of Z4.out 6
  have p3 : w4.cell? ⟨B, 3, none⟩ = some (.int .i64 (st.sent : Int)) := cell_of P4.out.hp 3
  have pf3 := frozen_of P4.out.hp 3
  go_wp2_with fail
  exact bodyPost_ret (results_row2 Tryz.results136 _ _ _ _ _ rfl rfl (loadVar_got (got_set ((Below.heap_setCell _ _ _ _ (Ne.symm hM3)).trans Z4.out) _ _ _ _ _ _ _) rfl)) rfl ⟨rfl, fin7 (K4.out.set FB.out 3 _) (Nw.refl _ _) (P4.out.setSent (st.sent + 1) _ (by omega)).pp (Nat.le_refl _) NF.out _ _ _ _ _ _ _⟩
set_option maxHeartbeats 3200000 in
theorem send_full (B : Nat) (F : Nat → Prop) (st : St) (x : Int) (w : World) (h : Pp w B F st) (hc : st.closed = false) (hr : st.rcv = []) (hl : st.buf.length = st.size) :
    Calls Tryz.prog 136 #[.pointer (some ⟨B, 0, none⟩), .int .i64 x] w fun r w' => r = .returned (.tuple #[gv gz, .int .i64 0]) ∧ KF F w w' ∧ ∃ F', Nw F' F w ∧ Pp w' B F' st := by
  have hB := h.lt
  have NF : Hid (¬ F w.heap.size) := fun e => Nat.lt_irrefl _ (h.bd _ e)
  obtain ⟨R, S, Q, FS, FQ, h⟩ := h
  have P1 := hide (h.below (below_alloc w (.cells #[.bool false, .bool false, .bool false, .int .i64 0, .int .i64 0, .int .i64 0, .int .i64 0] 160)))
  have Z1 := hide (heap_new w (.cells #[.bool false, .bool false, .bool false, .int .i64 0, .int .i64 0, .int .i64 0, .int .i64 0] 160))
  have y5 : (w.alloc (.cells #[.bool false, .bool false, .bool false, .int .i64 0, .int .i64 0, .int .i64 0, .int .i64 0] 160)).cell? ⟨B, 5, none⟩ = some (.bool false) := (cell_of P1.out.hp 5).trans (by rw [hc]; rfl)
  have y2 : (w.alloc (.cells #[.bool false, .bool false, .bool false, .int .i64 0, .int .i64 0, .int .i64 0, .int .i64 0] 160)).cell? ⟨B, 2, none⟩ = some (.pointer (some ⟨Q, 0, none⟩)) := cell_of P1.out.hp 2
  have TK := hide (take_none Q _ (by have := P1.out.pq.pw; rw [hr] at this; exact this))
  clear h hc hr
  unfold gv gz
  go_enter Tryz.func136, Tryz.ntmps136
  go_wp2_with fail
  refine TK.out.mono ?_
  rintro r w2 ⟨rfl, b2⟩
  have bb := btr b2 (below_alloc w2 (.cells #[.int .i64 0, .int .i64 0, .int .i64 0] 158))
  have P3 := hide (P1.out.below bb)
  have Z3 := hide (heap_below Z1.out bb)
  have K3 := hide (KF.of (F := F) (btr (below_alloc w (.cells #[.bool false, .bool false, .bool false, .int .i64 0, .int .i64 0, .int .i64 0, .int .i64 0] 160)) bb))
  have y0 : (w2.alloc (.cells #[.int .i64 0, .int .i64 0, .int .i64 0] 158)).cell? ⟨B, 0, none⟩ = some (.pointer (some ⟨R, 0, none⟩)) := cell_of P3.out.hp 0
  have PU := hide (Rn.push_full R st.size st.buf x _ P3.out.rg hl)
  clear b2 bb TK P1 Z1 y5 y2
  unfold wv
  go_wp2_with fail
  generalize w2.alloc (.cells #[.int .i64 0, .int .i64 0, .int .i64 0] 158) = W3 at P3 Z3 K3 PU y0 ⊢
  refine PU.out.mono ?_
  rintro r w4 ⟨rfl, rfl⟩
  have Z4 := Z3
  have z0 : w4.cell? ⟨w.heap.size, 0, none⟩ = some (.bool false) := cell_of Z4.out 0
  have zf0 := frozen_of Z4.out 0
  have z1 : w4.cell? ⟨w.heap.size, 1, none⟩ = some (.bool false) := cell_of Z4.out 1
  have zf1 := frozen_of Z4.out 1
  have z2 : w4.cell? ⟨w.heap.size, 2, none⟩ = some (.bool false) := cell_of Z4.out 2
  have zf2 := frozen_of Z4.out 2
  have z3 : w4.cell? ⟨w.heap.size, 3, none⟩ = some (.int .i64 0) := cell_of Z4.out 3
  have zf3 := frozen_of Z4.out 3
  have z4 : w4.cell? ⟨w.heap.size, 4, none⟩ = some (.int .i64 0) := cell_of Z4.out 4
  have zf4 := frozen_of Z4.out 4
  have z5 : w4.cell? ⟨w.heap.size, 5, none⟩ = some (.int .i64 0) := cell_of Z4.out 5
  have zf5 := frozen_of Z4.out 5
  have z6 : w4.cell? ⟨w.heap.size, 6, none⟩ = some (.int .i64 0) := cell_of Z4.out 6
  have zf6 := frozen_of Z4.out 6
  go_wp2_with fail
  exact bodyPost_ret (results_row2 Tryz.results136 _ _ _ _ _ rfl rfl (loadVar_got (got_set Z3.out _ _ _ _ _ _ _) rfl)) rfl ⟨rfl, fin7 K3.out (Nw.refl _ _) P3.out.pp (Nat.le_refl _) NF.out _ _ _ _ _ _ _⟩
/-- Send, of whatever channel -/
theorem send_any (B : Nat) (F : Nat → Prop) (st : St) (x : Int) (w : World) (h : Pp w B F st) (hs : st.sent < 1000000000) (hg : st.got < 1000000000) :
    Calls Tryz.prog 136 #[.pointer (some ⟨B, 0, none⟩), .int .i64 x] w fun r w' => r = .returned (.tuple #[gv (sendG st), .int .i64 (sendE st)]) ∧ KF F w w' ∧ ∃ F', Nw F' F w ∧ Pp w' B F' (sendS st x) := by
  have hle : st.buf.length ≤ st.size := by
    obtain ⟨R, S, Q, FS, FQ, h⟩ := h
    exact h.rg.le
  rcases Bool.eq_false_or_eq_true st.closed with hc | hc
  · rw [show sendG st = gz by simp [sendG, hc], show sendE st = 90 by simp [sendE, hc], show sendS st x = st by simp [sendS, hc]]
    exact send_closed B F st x w h hc
  · rw [show sendE st = 0 by simp [sendE, hc]]
    cases hr : st.rcv with
    | cons y t =>
      rw [show sendG st = ⟨true, false, true, 0, y⟩ by simp [sendG, hc, hr], show sendS st x = { st with rcv := t, sent := st.sent + 1, got := st.got + 1 } by simp [sendS, hc, hr]]
      exact send_woke B F st x y t w h hc hr hs hg
    | nil =>
      by_cases hl : st.buf.length < st.size
      · rw [show sendG st = ⟨true, false, false, 0, ⟨0, 0, 0⟩⟩ by simp [sendG, hc, hr, hl], show sendS st x = { st with buf := st.buf ++ [x], sent := st.sent + 1 } by simp [sendS, hc, hr, hl]]
        exact send_room B F st x w h hc hr hl hs
      · rw [show sendG st = gz by simp [sendG, hc, hr, hl], show sendS st x = st by simp [sendS, hc, hr, hl]]
        exact send_full B F st x w h hc hr (by omega)
end Pi
end Go.Proofs.YtddchcekljndmaaGreat
/- Package pipe: out, over this seat's program. -/
namespace Go.Proofs.YtddchcekljndmaaGreat
open Go.ChangeShapes Go.WideShapes Go.ChangeAt Go.RowKit
namespace Pi
open Ba Pe

theorem out_pop (B : Nat) (F : Nat → Prop) (st : St) (y : Wt) (x : Int) (b : List Int) (w : World) (h : Pp w B F st) (hb : st.buf = x :: b) :
    Calls Tryz.prog 152 #[.pointer (some ⟨B, 0, none⟩), wv y, .bool false] w fun r w' => r = .returned (.int .i64 x) ∧ KF F w w' ∧ Pp w' B F { st with buf := b } := by
  obtain ⟨R, S, Q, FS, FQ, h⟩ := h
  have BA := hide (below_alloc w (.cells #[.int .i64 y.g, .int .i64 y.c, .int .i64 y.v] 158))
  have P1 := hide (h.below BA.out)
  have y0 : (w.alloc (.cells #[.int .i64 y.g, .int .i64 y.c, .int .i64 y.v] 158)).cell? ⟨B, 0, none⟩ = some (.pointer (some ⟨R, 0, none⟩)) := cell_of P1.out.hp 0
  have PO := hide (Rn.pop_some R st.size x b _ (by have := P1.out.rg; rw [hb] at this; exact this))
  clear h hb
  unfold wv
  go_enter Tryz.func152, Tryz.ntmps152
  go_wp2_with fail
  refine PO.out.mono ?_
  rintro r w2 ⟨rfl, r2, k2⟩
  have P2 := hide (P1.out.ring k2 r2)
  have K2 := hide ((KF.of (F := F) BA.out).trans (KF.kb (F := F) k2 P1.out.fr) (Nw.refl _ _))
  clear r2 k2
  go_wp2_with fail
  go_ret
  exact ⟨rfl, K2.out, P2.out.pp⟩
set_option maxHeartbeats 1600000 in
theorem out_turn (B : Nat) (F : Nat → Prop) (st : St) (y : Wt) (x : Int) (b : List Int) (w : World) (h : Pp w B F st) (hb : st.buf = x :: b) :
    Calls Tryz.prog 152 #[.pointer (some ⟨B, 0, none⟩), wv y, .bool true] w fun r w' => r = .returned (.int .i64 x) ∧ KF F w w' ∧ Pp w' B F { st with buf := b ++ [y.v] } := by
  obtain ⟨R, S, Q, FS, FQ, h⟩ := h
  have BA := hide (below_alloc w (.cells #[.int .i64 y.g, .int .i64 y.c, .int .i64 y.v] 158))
  have P1 := hide (h.below BA.out)
  have hB : B < w.heap.size := h.bd B h.fb
  have y0 : (w.alloc (.cells #[.int .i64 y.g, .int .i64 y.c, .int .i64 y.v] 158)).cell? ⟨B, 0, none⟩ = some (.pointer (some ⟨R, 0, none⟩)) := cell_of P1.out.hp 0
  have TN := hide (Rn.turn_any R st.size (x :: b) y.v (w.alloc (.cells #[.int .i64 y.g, .int .i64 y.c, .int .i64 y.v] 158)).drew (by have := P1.out.rg.below (bdrew1 _); rw [hb] at this; exact this))
  clear h hb
  unfold wv
  go_enter Tryz.func152, Tryz.ntmps152
  go_wp2_with fail
  go_region_with (go_at_call 158; refine TN.out.mono ?_; rintro r w2 ⟨rfl, r2, k2⟩)
  all_goals
    have P2 := hide ((P1.out.below (bdrew1 _)).ring k2 r2)
    have K2 := hide ((KF.of (F := F) (btr BA.out (bdrew1 _))).trans (KF.kb (F := F) k2 P1.out.fr) (Nw.refl _ _))
    clear r2 k2
    simp only [Rn.oe, List.length_cons, Nat.add_one_ne_zero, if_false, show nth (x :: b) 0 = x from rfl]
    go_wp2_with fail
    go_ret
    exact ⟨rfl, K2.out, P2.out.pp⟩
set_option maxHeartbeats 1600000 in
theorem out_none (B : Nat) (F : Nat → Prop) (st : St) (y : Wt) (w : World) (h : Pp w B F st) (hb : st.buf = []) :
    Calls Tryz.prog 152 #[.pointer (some ⟨B, 0, none⟩), wv y, .bool true] w fun r w' => r = .returned (.int .i64 y.v) ∧ KF F w w' ∧ Pp w' B F st := by
  obtain ⟨R, S, Q, FS, FQ, h⟩ := h
  have BA := hide (below_alloc w (.cells #[.int .i64 y.g, .int .i64 y.c, .int .i64 y.v] 158))
  have P1 := hide (h.below BA.out)
  have hB : B < w.heap.size := h.bd B h.fb
  have y0 : (w.alloc (.cells #[.int .i64 y.g, .int .i64 y.c, .int .i64 y.v] 158)).cell? ⟨B, 0, none⟩ = some (.pointer (some ⟨R, 0, none⟩)) := cell_of P1.out.hp 0
  have TN := hide (Rn.turn_any R st.size [] y.v (w.alloc (.cells #[.int .i64 y.g, .int .i64 y.c, .int .i64 y.v] 158)).drew (by have := P1.out.rg.below (bdrew1 _); rw [hb] at this; exact this))
  have HB := hide hb
  have NR : Hid (w.heap.size ≠ R) := by have := h.bd R h.fr; show _ ≠ _; omega
  have M1 := hide (heap_new w (.cells #[.int .i64 y.g, .int .i64 y.c, .int .i64 y.v] 158))
  clear h hb
  unfold wv
  go_enter Tryz.func152, Tryz.ntmps152
  go_wp2_with fail
  go_region_with (go_at_call 158; refine TN.out.mono ?_; rintro r w2 ⟨rfl, r2, k2⟩; have m2 := (cell_of (k2.heap (heap_below M1.out (bdrew1 _)) NR.out) 2).trans (show _ = some (.int .i64 y.v) from rfl))
  all_goals
    have P2 : Hid (Pp w2 B F st) := by
      have := ((P1.out.below (bdrew1 _)).ring k2 r2).pp
      rw [show Rn.tl [] y.v = [] from rfl, ← HB.out] at this
      exact this
    have K2 := hide ((KF.of (F := F) (btr BA.out (bdrew1 _))).trans (KF.kb (F := F) k2 P1.out.fr) (Nw.refl _ _))
    clear r2 k2
    simp only [Rn.oe, List.length_nil, if_true]
    go_wp2_with fail
    go_ret
    exact ⟨rfl, K2.out, P2.out⟩
end Pi
end Go.Proofs.YtddchcekljndmaaGreat
/- Package pipe: Recv, over this seat's program. -/
namespace Go.Proofs.YtddchcekljndmaaGreat
open Go.ChangeShapes Go.WideShapes Go.ChangeAt Go.RowKit
namespace Pi
open Ba Pe

theorem results_row1 {fn : Func} {p : Tmp} {ty : TypeId} (h : fn.results = #[.cell p ty]) (tmps : Array Value) (w : World) (g : Nat) (cs : Array Value)
    (hp : tmps.getD p undef = .pointer (some ⟨g, 0, none⟩)) (hl : (loadVar ty ⟨g, 0, none⟩).run Tryz.prog w = .ok (.agg cs) w) :
    (results fn tmps).run Tryz.prog w = .ok (.agg cs) w := by
  have hp' : tmps[p]?.getD undef = .pointer (some ⟨g, 0, none⟩) := by simpa using hp
  simp [results, h, hp', asAddr, hl]
theorem recv_nil (w : World) :
    Calls Tryz.prog 137 #[.pointer none] w fun r w' => r = .returned (gv gz) ∧ Below w.heap.size w w' := by
  go_enter Tryz.func137, Tryz.ntmps137
  go_wp2_with fail
  first
    | exact bodyPost_ret (results_row1 Tryz.results137 _ _ _ _ rfl (loadVar_got (heap_new _ _) rfl)) rfl ⟨rfl, below_alloc _ _⟩
    | exact bodyPost_ret (results_row1 Tryz.results137 _ _ _ _ rfl (loadVar_got (got_set (heap_new _ _) _ _ _ _ _ _ _) rfl)) rfl ⟨rfl, (((((((below_alloc _ _).setCell (Nat.le_refl _) _).setCell (Nat.le_refl _) _).setCell (Nat.le_refl _) _).setCell (Nat.le_refl _) _).setCell (Nat.le_refl _) _).setCell (Nat.le_refl _) _).setCell (Nat.le_refl _) _⟩
set_option maxHeartbeats 3200000 in
theorem recv_none (B : Nat) (F : Nat → Prop) (st : St) (w : World) (h : Pp w B F st) (hb : st.buf = []) (hs : st.snd = []) :
    Calls Tryz.prog 137 #[.pointer (some ⟨B, 0, none⟩)] w fun r w' => r = .returned (gv ⟨st.closed, false, false, 0, ⟨0, 0, 0⟩⟩) ∧ KF F w w' ∧ ∃ F', Nw F' F w ∧ Pp w' B F' st := by
  have hB := h.lt
  have NF : Hid (¬ F w.heap.size) := fun e => Nat.lt_irrefl _ (h.bd _ e)
  obtain ⟨R, S, Q, FS, FQ, h⟩ := h
  have P1 := hide (h.below (below_alloc w (.cells #[.bool false, .bool false, .bool false, .int .i64 0, .int .i64 0, .int .i64 0, .int .i64 0] 160)))
  have Z1 := hide (heap_new w (.cells #[.bool false, .bool false, .bool false, .int .i64 0, .int .i64 0, .int .i64 0, .int .i64 0] 160))
  have y0 : (w.alloc (.cells #[.bool false, .bool false, .bool false, .int .i64 0, .int .i64 0, .int .i64 0, .int .i64 0] 160)).cell? ⟨B, 0, none⟩ = some (.pointer (some ⟨R, 0, none⟩)) := cell_of P1.out.hp 0
  have y1 : (w.alloc (.cells #[.bool false, .bool false, .bool false, .int .i64 0, .int .i64 0, .int .i64 0, .int .i64 0] 160)).cell? ⟨B, 1, none⟩ = some (.pointer (some ⟨S, 0, none⟩)) := cell_of P1.out.hp 1
  have y5 : (w.alloc (.cells #[.bool false, .bool false, .bool false, .int .i64 0, .int .i64 0, .int .i64 0, .int .i64 0] 160)).cell? ⟨B, 5, none⟩ = some (.bool st.closed) := cell_of P1.out.hp 5
  have LR := hide (Rn.len_any R st.size [] _ (by have := P1.out.rg; rw [hb] at this; exact this))
  have LS := hide (Pe.len_any S [] _ (by have := P1.out.ps.pw; rw [hs] at this; exact this))
  have H := hide h
  clear h hb hs
  unfold gv
  go_enter Tryz.func137, Tryz.ntmps137
  go_wp2_with fail
  refine LR.out.mono ?_
  rintro r w2 ⟨rfl, rfl⟩
  go_wp2_with fail
  refine LS.out.mono ?_
  rintro r w2 ⟨rfl, rfl⟩
  go_wp2_with fail
  first
    | exact bodyPost_ret (results_row1 Tryz.results137 _ _ _ _ rfl (loadVar_got (heap_new _ _) rfl)) rfl ⟨rfl, KF.of (below_alloc _ _), F, Nw.refl _ _, (H.out.below (below_alloc _ _)).pp⟩
    | exact bodyPost_ret (results_row1 Tryz.results137 _ _ _ _ rfl (loadVar_got (got_set Z1.out _ _ _ _ _ _ _) rfl)) rfl ⟨rfl, fin7 (KF.of (below_alloc _ _)) (Nw.refl _ _) P1.out.pp (Nat.le_refl _) NF.out _ _ _ _ _ _ _⟩
set_option maxRecDepth 100000 in
set_option maxHeartbeats 6400000 in
theorem recv_buf (B : Nat) (F : Nat → Prop) (st : St) (x : Int) (b : List Int) (w : World) (h : Pp w B F st) (hb : st.buf = x :: b) (hs : st.snd = []) (hg : st.got < 1000000000) :
    Calls Tryz.prog 137 #[.pointer (some ⟨B, 0, none⟩)] w fun r w' => r = .returned (gv ⟨true, true, false, x, ⟨0, 0, 0⟩⟩) ∧ KF F w w' ∧ ∃ F', Nw F' F w ∧ Pp w' B F' { st with buf := b, got := st.got + 1 } := by
  have hB := h.lt
  have NF : Hid (¬ F w.heap.size) := fun e => Nat.lt_irrefl _ (h.bd _ e)
  obtain ⟨R, S, Q, FS, FQ, h⟩ := h
  have P1 := hide (h.below (below_alloc w (.cells #[.bool false, .bool false, .bool false, .int .i64 0, .int .i64 0, .int .i64 0, .int .i64 0] 160)))
  have Z1 := hide (heap_new w (.cells #[.bool false, .bool false, .bool false, .int .i64 0, .int .i64 0, .int .i64 0, .int .i64 0] 160))
  have y0 : (w.alloc (.cells #[.bool false, .bool false, .bool false, .int .i64 0, .int .i64 0, .int .i64 0, .int .i64 0] 160)).cell? ⟨B, 0, none⟩ = some (.pointer (some ⟨R, 0, none⟩)) := cell_of P1.out.hp 0
  have y1 : (w.alloc (.cells #[.bool false, .bool false, .bool false, .int .i64 0, .int .i64 0, .int .i64 0, .int .i64 0] 160)).cell? ⟨B, 1, none⟩ = some (.pointer (some ⟨S, 0, none⟩)) := cell_of P1.out.hp 1
  have LR := hide (Rn.len_any R st.size (x :: b) _ (by have := P1.out.rg; rw [hb] at this; exact this))
  have TK := hide (take_any S FS ([]) _ (by have := P1.out.ps; rw [hs] at this; exact this))
  have FB := hide h.fb
  have HB := hide hb
  have HS := hide hs
  clear h hb hs
  unfold gv
  have hlen : (((x :: b).length : Int) == 0) = false := by rw [beq_eq_false_iff_ne, List.length_cons]; omega
  generalize hN : (x :: b).length = N at LR hlen
  clear hN
  go_enter Tryz.func137, Tryz.ntmps137
  go_wp2_with fail
  refine LR.out.mono ?_
  rintro r w1 ⟨rfl, rfl⟩
  go_wp2_with fail
  refine TK.out.mono ?_
  rintro r w2 ⟨rfl, k2, p2⟩
  obtain ⟨P2, K2, N2⟩ := P1.out.snd k2 (Nw.refl _ _) p2
  have P3 := hide (P2.below (below_alloc w2 (.cells #[.int .i64 (⟨0, 0, 0⟩ : Wt).g, .int .i64 (⟨0, 0, 0⟩ : Wt).c, .int .i64 (⟨0, 0, 0⟩ : Wt).v] 158)))
  have M3 := hide (heap_new w2 (.cells #[.int .i64 (⟨0, 0, 0⟩ : Wt).g, .int .i64 (⟨0, 0, 0⟩ : Wt).c, .int .i64 (⟨0, 0, 0⟩ : Wt).v] 158))
  have Z3 := hide (heap_below (k2.heap Z1.out (fun e => NF.out (P1.out.fs _ e))) (below_alloc w2 (.cells #[.int .i64 (⟨0, 0, 0⟩ : Wt).g, .int .i64 (⟨0, 0, 0⟩ : Wt).c, .int .i64 (⟨0, 0, 0⟩ : Wt).v] 158)))
  have K3 := hide (((KF.of (F := F) (below_alloc w (.cells #[.bool false, .bool false, .bool false, .int .i64 0, .int .i64 0, .int .i64 0, .int .i64 0] 160))).trans K2 (Nw.refl _ _)).then (below_alloc w2 (.cells #[.int .i64 (⟨0, 0, 0⟩ : Wt).g, .int .i64 (⟨0, 0, 0⟩ : Wt).c, .int .i64 (⟨0, 0, 0⟩ : Wt).v] 158)))
  have N3 : Hid (Nw (fun x => F x ∨ FS x) F w) := fun k hk => hk.elim .inl (fun q => .inl (P1.out.fs k q))
  have NF3 : Hid (¬ (F w.heap.size ∨ FS w.heap.size)) := fun e => e.elim NF.out (fun q => NF.out (P1.out.fs _ q))
  have NM3 : Hid (¬ (F w2.heap.size ∨ FS w2.heap.size)) := fun e => Nat.lt_irrefl _ (P2.bd _ e)
  have hz2 : w.heap.size < w2.heap.size := by have := k2.size; rw [World.size_alloc] at this; omega
  have hM1 : w2.heap.size ≠ B := by omega
  have hM2 : w2.heap.size ≠ w.heap.size := by omega
  have hM3 : B ≠ w.heap.size := by omega
  clear k2 p2 P2 K2 N2 TK P1 Z1 y0 y1
  unfold wv
  simp only [fw, fo, List.isEmpty_nil, Bool.not_true]
  have p3 : (w2.alloc (.cells #[.int .i64 (⟨0, 0, 0⟩ : Wt).g, .int .i64 (⟨0, 0, 0⟩ : Wt).c, .int .i64 (⟨0, 0, 0⟩ : Wt).v] 158)).cell? ⟨B, 3, none⟩ = some (.int .i64 (st.sent : Int)) := cell_of P3.out.hp 3
  have p4 : (w2.alloc (.cells #[.int .i64 (⟨0, 0, 0⟩ : Wt).g, .int .i64 (⟨0, 0, 0⟩ : Wt).c, .int .i64 (⟨0, 0, 0⟩ : Wt).v] 158)).cell? ⟨B, 4, none⟩ = some (.int .i64 (st.got : Int)) := cell_of P3.out.hp 4
  have pf3 := frozen_of P3.out.hp 3
  have pf4 := frozen_of P3.out.hp 4
  have P4 := hide (P3.out.setGot (st.got + 1) ((st.got : Int) + 1) (by omega))
  have M4 := hide ((Below.heap_setCell (w2.alloc (.cells #[.int .i64 (⟨0, 0, 0⟩ : Wt).g, .int .i64 (⟨0, 0, 0⟩ : Wt).c, .int .i64 (⟨0, 0, 0⟩ : Wt).v] 158)) ⟨B, 4, none⟩ (.int .i64 ((st.got : Int) + 1)) _ hM1).trans M3.out)
  have Z4 := hide ((Below.heap_setCell (w2.alloc (.cells #[.int .i64 (⟨0, 0, 0⟩ : Wt).g, .int .i64 (⟨0, 0, 0⟩ : Wt).c, .int .i64 (⟨0, 0, 0⟩ : Wt).v] 158)) ⟨B, 4, none⟩ (.int .i64 ((st.got : Int) + 1)) _ (Ne.symm hM3)).trans Z3.out)
  have K4 := hide (K3.out.set FB.out 4 (.int .i64 ((st.got : Int) + 1)))
  go_wp2_with fail
  generalize (w2.alloc (.cells #[.int .i64 (⟨0, 0, 0⟩ : Wt).g, .int .i64 (⟨0, 0, 0⟩ : Wt).c, .int .i64 (⟨0, 0, 0⟩ : Wt).v] 158)).setCell ⟨B, 4, none⟩ (.int .i64 ((st.got : Int) + 1)) = W4 at P4 M4 Z4 K4 ⊢
  generalize w2.heap.size = M at M4 NM3 hM1 hM2 ⊢
  clear p3 p4 pf3 pf4 P3 M3 Z3 K3
  have m0 : W4.cell? ⟨M, 0, none⟩ = some (.int .i64 (⟨0, 0, 0⟩ : Wt).g) := cell_of M4.out 0
  have m1 : W4.cell? ⟨M, 1, none⟩ = some (.int .i64 (⟨0, 0, 0⟩ : Wt).c) := cell_of M4.out 1
  have m2 : W4.cell? ⟨M, 2, none⟩ = some (.int .i64 (⟨0, 0, 0⟩ : Wt).v) := cell_of M4.out 2
  have OU := hide (out_pop B _ _ ⟨0, 0, 0⟩ x b W4.drew (P4.out.below (bdrew1 _)).pp HB.out)
  unfold wv at OU
  go_region_with (go_at_call 152; refine OU.out.mono ?_; rintro r w5 ⟨rfl, k5, p5⟩; have M5 := hide (k5.heap (heap_below M4.out (bdrew1 _)) NM3.out); have Z5 := hide (k5.heap (heap_below Z4.out (bdrew1 _)) NF3.out); have n0 := (cell_of M5.out 0).trans (show _ = some (.int .i64 (⟨0, 0, 0⟩ : Wt).g) from rfl); have n1 := (cell_of M5.out 1).trans (show _ = some (.int .i64 (⟨0, 0, 0⟩ : Wt).c) from rfl); have n2 := (cell_of M5.out 2).trans (show _ = some (.int .i64 (⟨0, 0, 0⟩ : Wt).v) from rfl); have z0 := (cell_of Z5.out 0).trans (show _ = some (Value.bool false) from rfl); have zf0 := frozen_of Z5.out 0; have z1 := (cell_of Z5.out 1).trans (show _ = some (Value.bool false) from rfl); have zf1 := frozen_of Z5.out 1; have z2 := (cell_of Z5.out 2).trans (show _ = some (Value.bool false) from rfl); have zf2 := frozen_of Z5.out 2; have z3 := (cell_of Z5.out 3).trans (show _ = some (.int .i64 0) from rfl); have zf3 := frozen_of Z5.out 3; have z4 := (cell_of Z5.out 4).trans (show _ = some (.int .i64 0) from rfl); have zf4 := frozen_of Z5.out 4; have z5 := (cell_of Z5.out 5).trans (show _ = some (.int .i64 0) from rfl); have zf5 := frozen_of Z5.out 5; have z6 := (cell_of Z5.out 6).trans (show _ = some (.int .i64 0) from rfl); have zf6 := frozen_of Z5.out 6)
  all_goals
    go_wp2_with fail
    exact bodyPost_ret (results_row1 Tryz.results137 _ _ _ _ rfl (loadVar_got (got_set Z5.out _ _ _ _ _ _ _) rfl)) rfl ⟨rfl, fin7 ((K4.out.then (bdrew1 _)).trans k5 N3.out) N3.out (by have q := p5; rw [show ([] : List Wt).tail = st.snd by rw [HS.out]; rfl] at q; exact q) (Nat.le_refl _) NF3.out _ _ _ _ _ _ _⟩
set_option maxRecDepth 100000 in
set_option maxHeartbeats 6400000 in
theorem recv_both (B : Nat) (F : Nat → Prop) (st : St) (x : Int) (b : List Int) (y : Wt) (t : List Wt) (w : World) (h : Pp w B F st) (hb : st.buf = x :: b) (hs : st.snd = y :: t) (hn : st.sent < 1000000000) (hg : st.got < 1000000000) :
    Calls Tryz.prog 137 #[.pointer (some ⟨B, 0, none⟩)] w fun r w' => r = .returned (gv ⟨true, true, true, x, y⟩) ∧ KF F w w' ∧ ∃ F', Nw F' F w ∧ Pp w' B F' { st with buf := b ++ [y.v], snd := t, sent := st.sent + 1, got := st.got + 1 } := by
  have hB := h.lt
  have NF : Hid (¬ F w.heap.size) := fun e => Nat.lt_irrefl _ (h.bd _ e)
  obtain ⟨R, S, Q, FS, FQ, h⟩ := h
  have P1 := hide (h.below (below_alloc w (.cells #[.bool false, .bool false, .bool false, .int .i64 0, .int .i64 0, .int .i64 0, .int .i64 0] 160)))
  have Z1 := hide (heap_new w (.cells #[.bool false, .bool false, .bool false, .int .i64 0, .int .i64 0, .int .i64 0, .int .i64 0] 160))
  have y0 : (w.alloc (.cells #[.bool false, .bool false, .bool false, .int .i64 0, .int .i64 0, .int .i64 0, .int .i64 0] 160)).cell? ⟨B, 0, none⟩ = some (.pointer (some ⟨R, 0, none⟩)) := cell_of P1.out.hp 0
  have y1 : (w.alloc (.cells #[.bool false, .bool false, .bool false, .int .i64 0, .int .i64 0, .int .i64 0, .int .i64 0] 160)).cell? ⟨B, 1, none⟩ = some (.pointer (some ⟨S, 0, none⟩)) := cell_of P1.out.hp 1
  have LR := hide (Rn.len_any R st.size (x :: b) _ (by have := P1.out.rg; rw [hb] at this; exact this))
  have TK := hide (take_any S FS (y :: t) _ (by have := P1.out.ps; rw [hs] at this; exact this))
  have FB := hide h.fb
  have HB := hide hb
  clear h hb hs
  unfold gv
  have hlen : (((x :: b).length : Int) == 0) = false := by rw [beq_eq_false_iff_ne, List.length_cons]; omega
  generalize hN : (x :: b).length = N at LR hlen
  clear hN
  go_enter Tryz.func137, Tryz.ntmps137
  go_wp2_with fail
  refine LR.out.mono ?_
  rintro r w1 ⟨rfl, rfl⟩
  go_wp2_with fail
  refine TK.out.mono ?_
  rintro r w2 ⟨rfl, k2, p2⟩
  obtain ⟨P2, K2, N2⟩ := P1.out.snd k2 (Nw.refl _ _) p2
  have P3 := hide (P2.below (below_alloc w2 (.cells #[.int .i64 y.g, .int .i64 y.c, .int .i64 y.v] 158)))
  have M3 := hide (heap_new w2 (.cells #[.int .i64 y.g, .int .i64 y.c, .int .i64 y.v] 158))
  have Z3 := hide (heap_below (k2.heap Z1.out (fun e => NF.out (P1.out.fs _ e))) (below_alloc w2 (.cells #[.int .i64 y.g, .int .i64 y.c, .int .i64 y.v] 158)))
  have K3 := hide (((KF.of (F := F) (below_alloc w (.cells #[.bool false, .bool false, .bool false, .int .i64 0, .int .i64 0, .int .i64 0, .int .i64 0] 160))).trans K2 (Nw.refl _ _)).then (below_alloc w2 (.cells #[.int .i64 y.g, .int .i64 y.c, .int .i64 y.v] 158)))
  have N3 : Hid (Nw (fun x => F x ∨ FS x) F w) := fun k hk => hk.elim .inl (fun q => .inl (P1.out.fs k q))
  have NF3 : Hid (¬ (F w.heap.size ∨ FS w.heap.size)) := fun e => e.elim NF.out (fun q => NF.out (P1.out.fs _ q))
  have NM3 : Hid (¬ (F w2.heap.size ∨ FS w2.heap.size)) := fun e => Nat.lt_irrefl _ (P2.bd _ e)
  have hz2 : w.heap.size < w2.heap.size := by have := k2.size; rw [World.size_alloc] at this; omega
  have hM1 : w2.heap.size ≠ B := by omega
  have hM2 : w2.heap.size ≠ w.heap.size := by omega
  have hM3 : B ≠ w.heap.size := by omega
  clear k2 p2 P2 K2 N2 TK P1 Z1 y0 y1
  unfold wv
  simp only [fw, fo, List.isEmpty_cons, Bool.not_false]
  have p3 : (w2.alloc (.cells #[.int .i64 y.g, .int .i64 y.c, .int .i64 y.v] 158)).cell? ⟨B, 3, none⟩ = some (.int .i64 (st.sent : Int)) := cell_of P3.out.hp 3
  have p4 : (w2.alloc (.cells #[.int .i64 y.g, .int .i64 y.c, .int .i64 y.v] 158)).cell? ⟨B, 4, none⟩ = some (.int .i64 (st.got : Int)) := cell_of P3.out.hp 4
  have pf3 := frozen_of P3.out.hp 3
  have pf4 := frozen_of P3.out.hp 4
  have P4 := hide ((P3.out.setSent (st.sent + 1) ((st.sent : Int) + 1) (by omega)).setGot (st.got + 1) ((st.got : Int) + 1) (by omega))
  have M4 := hide ((Below.heap_setCell ((w2.alloc (.cells #[.int .i64 y.g, .int .i64 y.c, .int .i64 y.v] 158)).setCell ⟨B, 3, none⟩ (.int .i64 ((st.sent : Int) + 1))) ⟨B, 4, none⟩ (.int .i64 ((st.got : Int) + 1)) _ hM1).trans ((Below.heap_setCell (w2.alloc (.cells #[.int .i64 y.g, .int .i64 y.c, .int .i64 y.v] 158)) ⟨B, 3, none⟩ (.int .i64 ((st.sent : Int) + 1)) _ hM1).trans M3.out))
  have Z4 := hide ((Below.heap_setCell ((w2.alloc (.cells #[.int .i64 y.g, .int .i64 y.c, .int .i64 y.v] 158)).setCell ⟨B, 3, none⟩ (.int .i64 ((st.sent : Int) + 1))) ⟨B, 4, none⟩ (.int .i64 ((st.got : Int) + 1)) _ (Ne.symm hM3)).trans ((Below.heap_setCell (w2.alloc (.cells #[.int .i64 y.g, .int .i64 y.c, .int .i64 y.v] 158)) ⟨B, 3, none⟩ (.int .i64 ((st.sent : Int) + 1)) _ (Ne.symm hM3)).trans Z3.out))
  have K4 := hide ((K3.out.set FB.out 3 (.int .i64 ((st.sent : Int) + 1))).set FB.out 4 (.int .i64 ((st.got : Int) + 1)))
  go_wp2_with fail
  generalize ((w2.alloc (.cells #[.int .i64 y.g, .int .i64 y.c, .int .i64 y.v] 158)).setCell ⟨B, 3, none⟩ (.int .i64 ((st.sent : Int) + 1))).setCell ⟨B, 4, none⟩ (.int .i64 ((st.got : Int) + 1)) = W4 at P4 M4 Z4 K4 ⊢
  generalize w2.heap.size = M at M4 NM3 hM1 hM2 ⊢
  clear p3 p4 pf3 pf4 P3 M3 Z3 K3
  have m0 : W4.cell? ⟨M, 0, none⟩ = some (.int .i64 y.g) := cell_of M4.out 0
  have m1 : W4.cell? ⟨M, 1, none⟩ = some (.int .i64 y.c) := cell_of M4.out 1
  have m2 : W4.cell? ⟨M, 2, none⟩ = some (.int .i64 y.v) := cell_of M4.out 2
  have OU := hide (out_turn B _ _ y x b W4.drew (P4.out.below (bdrew1 _)).pp HB.out)
  unfold wv at OU
  go_region_with (go_at_call 152; refine OU.out.mono ?_; rintro r w5 ⟨rfl, k5, p5⟩; have M5 := hide (k5.heap (heap_below M4.out (bdrew1 _)) NM3.out); have Z5 := hide (k5.heap (heap_below Z4.out (bdrew1 _)) NF3.out); have n0 := (cell_of M5.out 0).trans (show _ = some (.int .i64 y.g) from rfl); have n1 := (cell_of M5.out 1).trans (show _ = some (.int .i64 y.c) from rfl); have n2 := (cell_of M5.out 2).trans (show _ = some (.int .i64 y.v) from rfl); have z0 := (cell_of Z5.out 0).trans (show _ = some (Value.bool false) from rfl); have zf0 := frozen_of Z5.out 0; have z1 := (cell_of Z5.out 1).trans (show _ = some (Value.bool false) from rfl); have zf1 := frozen_of Z5.out 1; have z2 := (cell_of Z5.out 2).trans (show _ = some (Value.bool false) from rfl); have zf2 := frozen_of Z5.out 2; have z3 := (cell_of Z5.out 3).trans (show _ = some (.int .i64 0) from rfl); have zf3 := frozen_of Z5.out 3; have z4 := (cell_of Z5.out 4).trans (show _ = some (.int .i64 0) from rfl); have zf4 := frozen_of Z5.out 4; have z5 := (cell_of Z5.out 5).trans (show _ = some (.int .i64 0) from rfl); have zf5 := frozen_of Z5.out 5; have z6 := (cell_of Z5.out 6).trans (show _ = some (.int .i64 0) from rfl); have zf6 := frozen_of Z5.out 6)
  all_goals
    go_wp2_with fail
    exact bodyPost_ret (results_row1 Tryz.results137 _ _ _ _ rfl (loadVar_got (got_set Z5.out _ _ _ _ _ _ _) rfl)) rfl ⟨rfl, fin7 ((K4.out.then (bdrew1 _)).trans k5 N3.out) N3.out p5 (Nat.le_refl _) NF3.out _ _ _ _ _ _ _⟩
set_option maxRecDepth 100000 in
set_option maxHeartbeats 6400000 in
theorem recv_snd (B : Nat) (F : Nat → Prop) (st : St) (y : Wt) (t : List Wt) (w : World) (h : Pp w B F st) (hb : st.buf = []) (hs : st.snd = y :: t) (hn : st.sent < 1000000000) (hg : st.got < 1000000000) :
    Calls Tryz.prog 137 #[.pointer (some ⟨B, 0, none⟩)] w fun r w' => r = .returned (gv ⟨true, true, true, y.v, y⟩) ∧ KF F w w' ∧ ∃ F', Nw F' F w ∧ Pp w' B F' { st with snd := t, sent := st.sent + 1, got := st.got + 1 } := by
  have hB := h.lt
  have NF : Hid (¬ F w.heap.size) := fun e => Nat.lt_irrefl _ (h.bd _ e)
  obtain ⟨R, S, Q, FS, FQ, h⟩ := h
  have P1 := hide (h.below (below_alloc w (.cells #[.bool false, .bool false, .bool false, .int .i64 0, .int .i64 0, .int .i64 0, .int .i64 0] 160)))
  have Z1 := hide (heap_new w (.cells #[.bool false, .bool false, .bool false, .int .i64 0, .int .i64 0, .int .i64 0, .int .i64 0] 160))
  have y0 : (w.alloc (.cells #[.bool false, .bool false, .bool false, .int .i64 0, .int .i64 0, .int .i64 0, .int .i64 0] 160)).cell? ⟨B, 0, none⟩ = some (.pointer (some ⟨R, 0, none⟩)) := cell_of P1.out.hp 0
  have y1 : (w.alloc (.cells #[.bool false, .bool false, .bool false, .int .i64 0, .int .i64 0, .int .i64 0, .int .i64 0] 160)).cell? ⟨B, 1, none⟩ = some (.pointer (some ⟨S, 0, none⟩)) := cell_of P1.out.hp 1
  have LR := hide (Rn.len_any R st.size ([]) _ (by have := P1.out.rg; rw [hb] at this; exact this))
  have LS := hide (Pe.len_any S (y :: t) _ (by have := P1.out.ps.pw; rw [hs] at this; exact this))
  have TK := hide (take_any S FS (y :: t) _ (by have := P1.out.ps; rw [hs] at this; exact this))
  have FB := hide h.fb
  have HB := hide hb
  clear h hb hs
  unfold gv
  have hlen : (((y :: t).length : Int) == 0) = false := by rw [beq_eq_false_iff_ne, List.length_cons]; omega
  generalize hN : (y :: t).length = N at LS hlen
  clear hN
  go_enter Tryz.func137, Tryz.ntmps137
  go_wp2_with fail
  refine LR.out.mono ?_
  rintro r w1 ⟨rfl, rfl⟩
  go_wp2_with fail
  refine LS.out.mono ?_
  rintro r w1 ⟨rfl, rfl⟩
  go_wp2_with fail
  refine TK.out.mono ?_
  rintro r w2 ⟨rfl, k2, p2⟩
  obtain ⟨P2, K2, N2⟩ := P1.out.snd k2 (Nw.refl _ _) p2
  have P3 := hide (P2.below (below_alloc w2 (.cells #[.int .i64 y.g, .int .i64 y.c, .int .i64 y.v] 158)))
  have M3 := hide (heap_new w2 (.cells #[.int .i64 y.g, .int .i64 y.c, .int .i64 y.v] 158))
  have Z3 := hide (heap_below (k2.heap Z1.out (fun e => NF.out (P1.out.fs _ e))) (below_alloc w2 (.cells #[.int .i64 y.g, .int .i64 y.c, .int .i64 y.v] 158)))
  have K3 := hide (((KF.of (F := F) (below_alloc w (.cells #[.bool false, .bool false, .bool false, .int .i64 0, .int .i64 0, .int .i64 0, .int .i64 0] 160))).trans K2 (Nw.refl _ _)).then (below_alloc w2 (.cells #[.int .i64 y.g, .int .i64 y.c, .int .i64 y.v] 158)))
  have N3 : Hid (Nw (fun x => F x ∨ FS x) F w) := fun k hk => hk.elim .inl (fun q => .inl (P1.out.fs k q))
  have NF3 : Hid (¬ (F w.heap.size ∨ FS w.heap.size)) := fun e => e.elim NF.out (fun q => NF.out (P1.out.fs _ q))
  have NM3 : Hid (¬ (F w2.heap.size ∨ FS w2.heap.size)) := fun e => Nat.lt_irrefl _ (P2.bd _ e)
  have hz2 : w.heap.size < w2.heap.size := by have := k2.size; rw [World.size_alloc] at this; omega
  have hM1 : w2.heap.size ≠ B := by omega
  have hM2 : w2.heap.size ≠ w.heap.size := by omega
  have hM3 : B ≠ w.heap.size := by omega
  clear k2 p2 P2 K2 N2 TK P1 Z1 y0 y1
  unfold wv
  simp only [fw, fo, List.isEmpty_cons, Bool.not_false]
  have p3 : (w2.alloc (.cells #[.int .i64 y.g, .int .i64 y.c, .int .i64 y.v] 158)).cell? ⟨B, 3, none⟩ = some (.int .i64 (st.sent : Int)) := cell_of P3.out.hp 3
  have p4 : (w2.alloc (.cells #[.int .i64 y.g, .int .i64 y.c, .int .i64 y.v] 158)).cell? ⟨B, 4, none⟩ = some (.int .i64 (st.got : Int)) := cell_of P3.out.hp 4
  have pf3 := frozen_of P3.out.hp 3
  have pf4 := frozen_of P3.out.hp 4
  have P4 := hide ((P3.out.setSent (st.sent + 1) ((st.sent : Int) + 1) (by omega)).setGot (st.got + 1) ((st.got : Int) + 1) (by omega))
  have M4 := hide ((Below.heap_setCell ((w2.alloc (.cells #[.int .i64 y.g, .int .i64 y.c, .int .i64 y.v] 158)).setCell ⟨B, 3, none⟩ (.int .i64 ((st.sent : Int) + 1))) ⟨B, 4, none⟩ (.int .i64 ((st.got : Int) + 1)) _ hM1).trans ((Below.heap_setCell (w2.alloc (.cells #[.int .i64 y.g, .int .i64 y.c, .int .i64 y.v] 158)) ⟨B, 3, none⟩ (.int .i64 ((st.sent : Int) + 1)) _ hM1).trans M3.out))
  have Z4 := hide ((Below.heap_setCell ((w2.alloc (.cells #[.int .i64 y.g, .int .i64 y.c, .int .i64 y.v] 158)).setCell ⟨B, 3, none⟩ (.int .i64 ((st.sent : Int) + 1))) ⟨B, 4, none⟩ (.int .i64 ((st.got : Int) + 1)) _ (Ne.symm hM3)).trans ((Below.heap_setCell (w2.alloc (.cells #[.int .i64 y.g, .int .i64 y.c, .int .i64 y.v] 158)) ⟨B, 3, none⟩ (.int .i64 ((st.sent : Int) + 1)) _ (Ne.symm hM3)).trans Z3.out))
  have K4 := hide ((K3.out.set FB.out 3 (.int .i64 ((st.sent : Int) + 1))).set FB.out 4 (.int .i64 ((st.got : Int) + 1)))
  go_wp2_with fail
  generalize ((w2.alloc (.cells #[.int .i64 y.g, .int .i64 y.c, .int .i64 y.v] 158)).setCell ⟨B, 3, none⟩ (.int .i64 ((st.sent : Int) + 1))).setCell ⟨B, 4, none⟩ (.int .i64 ((st.got : Int) + 1)) = W4 at P4 M4 Z4 K4 ⊢
  generalize w2.heap.size = M at M4 NM3 hM1 hM2 ⊢
  clear p3 p4 pf3 pf4 P3 M3 Z3 K3
  have m0 : W4.cell? ⟨M, 0, none⟩ = some (.int .i64 y.g) := cell_of M4.out 0
  have m1 : W4.cell? ⟨M, 1, none⟩ = some (.int .i64 y.c) := cell_of M4.out 1
  have m2 : W4.cell? ⟨M, 2, none⟩ = some (.int .i64 y.v) := cell_of M4.out 2
  have OU := hide (out_none B _ _ y W4.drew (P4.out.below (bdrew1 _)).pp HB.out)
  unfold wv at OU
  go_region_with (go_at_call 152; refine OU.out.mono ?_; rintro r w5 ⟨rfl, k5, p5⟩; have M5 := hide (k5.heap (heap_below M4.out (bdrew1 _)) NM3.out); have Z5 := hide (k5.heap (heap_below Z4.out (bdrew1 _)) NF3.out); have n0 := (cell_of M5.out 0).trans (show _ = some (.int .i64 y.g) from rfl); have n1 := (cell_of M5.out 1).trans (show _ = some (.int .i64 y.c) from rfl); have n2 := (cell_of M5.out 2).trans (show _ = some (.int .i64 y.v) from rfl); have z0 := (cell_of Z5.out 0).trans (show _ = some (Value.bool false) from rfl); have zf0 := frozen_of Z5.out 0; have z1 := (cell_of Z5.out 1).trans (show _ = some (Value.bool false) from rfl); have zf1 := frozen_of Z5.out 1; have z2 := (cell_of Z5.out 2).trans (show _ = some (Value.bool false) from rfl); have zf2 := frozen_of Z5.out 2; have z3 := (cell_of Z5.out 3).trans (show _ = some (.int .i64 0) from rfl); have zf3 := frozen_of Z5.out 3; have z4 := (cell_of Z5.out 4).trans (show _ = some (.int .i64 0) from rfl); have zf4 := frozen_of Z5.out 4; have z5 := (cell_of Z5.out 5).trans (show _ = some (.int .i64 0) from rfl); have zf5 := frozen_of Z5.out 5; have z6 := (cell_of Z5.out 6).trans (show _ = some (.int .i64 0) from rfl); have zf6 := frozen_of Z5.out 6)
  all_goals
    go_wp2_with fail
    exact bodyPost_ret (results_row1 Tryz.results137 _ _ _ _ rfl (loadVar_got (got_set Z5.out _ _ _ _ _ _ _) rfl)) rfl ⟨rfl, fin7 ((K4.out.then (bdrew1 _)).trans k5 N3.out) N3.out p5 (Nat.le_refl _) NF3.out _ _ _ _ _ _ _⟩
/-- Recv, of whatever channel -/
theorem recv_any (B : Nat) (F : Nat → Prop) (st : St) (w : World) (h : Pp w B F st) (hs : st.sent < 1000000000) (hg : st.got < 1000000000) :
    Calls Tryz.prog 137 #[.pointer (some ⟨B, 0, none⟩)] w fun r w' => r = .returned (gv (recvG st)) ∧ KF F w w' ∧ ∃ F', Nw F' F w ∧ Pp w' B F' (recvS st) := by
  cases hb : st.buf with
  | nil =>
    cases hr : st.snd with
    | nil =>
      rw [show recvG st = ⟨st.closed, false, false, 0, ⟨0, 0, 0⟩⟩ by simp [recvG, hb, hr], show recvS st = st by simp [recvS, hb, hr]]
      exact recv_none B F st w h hb hr
    | cons y t =>
      rw [show recvG st = ⟨true, true, true, y.v, y⟩ by simp [recvG, hb, hr], show recvS st = { st with snd := t, sent := st.sent + 1, got := st.got + 1 } by simp [recvS, hb, hr]]
      exact recv_snd B F st y t w h hb hr hs hg
  | cons x b =>
    cases hr : st.snd with
    | nil =>
      rw [show recvG st = ⟨true, true, false, x, ⟨0, 0, 0⟩⟩ by simp [recvG, hb, hr], show recvS st = { st with buf := b, got := st.got + 1 } by simp [recvS, hb, hr]]
      exact recv_buf B F st x b w h hb hr hg
    | cons y t =>
      rw [show recvG st = ⟨true, true, true, x, y⟩ by simp [recvG, hb, hr], show recvS st = { st with buf := b ++ [y.v], snd := t, sent := st.sent + 1, got := st.got + 1 } by simp [recvS, hb, hr]]
      exact recv_both B F st x b y t w h hb hr hs hg
end Pi
end Go.Proofs.YtddchcekljndmaaGreat
/- The reference's channel: Recv where no value is in the buffer, over this seat's program. -/
namespace Go.Proofs.YtddchcekljndmaaGreat
open Go.ChangeShapes Go.WideShapes Go.ChangeAt Go.RowKit
namespace Rp
open Ba Pe _root_.Go.Proofs.YtddchcekljndmaaGreat.Pi

theorem size_set (w : World) (a : Addr) (v : Value) : (w.setCell a v).heap.size = w.heap.size := by simp [World.setCell]
theorem own_wat {w : World} {base : Nat} {oa : Option Addr} {n c : Nat} {l : List Wt} (h : w.ownsRow base 133 3 (.slice oa n c) l.length (wc l)) : WAt w oa l := by
  obtain ⟨ob, d, e, hA, _⟩ := owns_wat h
  cases e
  exact hA
set_option maxRecDepth 100000 in
set_option maxHeartbeats 3200000 in
theorem rrecv_none (G : Nat) (F : Nat → Prop) (st : St) (w : World) (h : Rr w G F st) (hb : st.buf = []) (hr : st.snd = []) :
    Calls Tryz.prog 134 #[.pointer (some ⟨G, 0, none⟩)] w fun r w' => r = .returned (gv ⟨st.closed, false, false, 0, ⟨0, 0, 0⟩⟩) ∧ KF F w w' ∧ ∃ F', Nw F' F w ∧ Rr w' G F' st := by
  have hG := h.lt
  obtain ⟨vL, vS, vQ, h⟩ := h
  obtain ⟨ol, cl, os, cs, oq, cq, ⟨rfl, _, _⟩, ⟨rfl, _, _⟩, rfl, _, _⟩ := h.read
  have y2 : w.cell? ⟨G, 2, none⟩ = some (.slice os 0 cs) := (cell_of h.hp 2).trans (by rw [hr]; rfl)
  have y1 : w.cell? ⟨G, 1, none⟩ = some (.slice ol 0 cl) := (cell_of h.hp 1).trans (by rw [hb]; rfl)
  have y4 : w.cell? ⟨G, 4, none⟩ = some (.bool st.closed) := cell_of h.hp 4
  have H := hide h
  clear h hb hr
  unfold gv
  cases hc : st.closed
  · rw [hc] at y4
    go_enter Tryz.func134, Tryz.ntmps134
    go_wp2_with fail
    exact bodyPost_ret (results_row1 Tryz.results134 _ _ _ _ rfl (loadVar_rgot (heap_below (heap_new _ _) (below_alloc _ _)) rfl)) rfl ⟨rfl, KF.of (btr (below_alloc _ _) (below_alloc _ _)), F, Nw.refl _ _, (H.out.below (btr (below_alloc _ _) (below_alloc _ _))).rr⟩
  · rw [hc] at y4
    go_enter Tryz.func134, Tryz.ntmps134
    go_wp2_with fail
    exact bodyPost_ret (results_row1 Tryz.results134 _ _ _ _ rfl (loadVar_rgot (heap_below (heap_new _ _) (below_alloc _ _)) rfl)) rfl ⟨rfl, KF.of (btr (below_alloc _ _) (below_alloc _ _)), F, Nw.refl _ _, (H.out.below (btr (below_alloc _ _) (below_alloc _ _))).rr⟩
set_option maxRecDepth 100000 in
set_option maxHeartbeats 3200000 in
theorem rrecv_snd (G : Nat) (F : Nat → Prop) (st : St) (y : Wt) (t : List Wt) (w : World) (h : Rr w G F st) (hb : st.buf = []) (hr : st.snd = y :: t) (hs : st.sent < 1000000000) (hg : st.got < 1000000000) :
    Calls Tryz.prog 134 #[.pointer (some ⟨G, 0, none⟩)] w fun r w' => r = .returned (gv ⟨true, true, true, y.v, y⟩) ∧ KF F w w' ∧ ∃ F', Nw F' F w ∧ Rr w' G F' { st with snd := t, sent := st.sent + 1, got := st.got + 1 } := by
  have hG := h.lt
  have NF : Hid (¬ F w.heap.size) := fun e => Nat.lt_irrefl _ (h.bd _ e)
  obtain ⟨vL, vS, vQ, h⟩ := h
  have FG := hide h.fg
  have BDF := hide h.bd
  obtain ⟨ol, cl, os, cs, oq, cq, ⟨rfl, _, _⟩, ⟨rfl, hAS, hcs⟩, rfl, _, _⟩ := h.read
  have b1 := below_alloc (w.setCell ⟨G, 6, none⟩ (.int .i64 ((st.got : Int) + 1))) (.cells #[.bool false, .bool false, .bool false, .int .i64 0, .int .i64 0, .int .i64 0, .int .i64 0] 169)
  have b2 := below_alloc ((w.setCell ⟨G, 6, none⟩ (.int .i64 ((st.got : Int) + 1))).alloc (.cells #[.bool false, .bool false, .bool false, .int .i64 0, .int .i64 0, .int .i64 0, .int .i64 0] 169)) (.cells #[.bool true, .bool true, .bool true, .int .i64 y.v, .int .i64 y.g, .int .i64 y.c, .int .i64 y.v] 169)
  have hM1 : w.heap.size + 1 ≠ G := by omega
  have hM3 : G ≠ w.heap.size := by omega
  have sz0 : (w.setCell ⟨G, 6, none⟩ (.int .i64 ((st.got : Int) + 1))).heap.size = w.heap.size := size_set _ _ _
  have P3 := hide ((h.setGot (st.got + 1) ((st.got : Int) + 1) (by omega)).below (btr b1 b2))
  have K3 := hide (((KF.refl F w).set FG.out 6 (.int .i64 ((st.got : Int) + 1))).then (btr b1 b2))
  have hz := heap_below (heap_new (w.setCell ⟨G, 6, none⟩ (.int .i64 ((st.got : Int) + 1))) (.cells #[.bool false, .bool false, .bool false, .int .i64 0, .int .i64 0, .int .i64 0, .int .i64 0] 169)) b2
  rw [sz0] at hz
  have Z3 := hide hz
  have hm := heap_new ((w.setCell ⟨G, 6, none⟩ (.int .i64 ((st.got : Int) + 1))).alloc (.cells #[.bool false, .bool false, .bool false, .int .i64 0, .int .i64 0, .int .i64 0, .int .i64 0] 169)) (.cells #[.bool true, .bool true, .bool true, .int .i64 y.v, .int .i64 y.g, .int .i64 y.c, .int .i64 y.v] 169)
  rw [World.size_alloc, sz0] at hm
  have M3 := hide hm
  have hle := h.les
  have A3 := hide (own_wat P3.out.rs)
  simp only at A3
  rw [hr] at hAS hcs hle A3
  rw [List.length_cons] at hcs hle
  have y2 : w.cell? ⟨G, 2, none⟩ = some (.slice os (t.length + 1) cs) := (cell_of h.hp 2).trans (by rw [hr]; rfl)
  have y2' : (((w.setCell ⟨G, 6, none⟩ (.int .i64 ((st.got : Int) + 1))).alloc (.cells #[.bool false, .bool false, .bool false, .int .i64 0, .int .i64 0, .int .i64 0, .int .i64 0] 169)).alloc (.cells #[.bool true, .bool true, .bool true, .int .i64 y.v, .int .i64 y.g, .int .i64 y.c, .int .i64 y.v] 169)).cell? ⟨G, 2, none⟩ = some (.slice os (t.length + 1) cs) := (cell_of P3.out.hp 2).trans (by rw [hr]; rfl)
  have y1 : w.cell? ⟨G, 1, none⟩ = some (.slice ol 0 cl) := (cell_of h.hp 1).trans (by rw [hb]; rfl)
  have y6 : w.cell? ⟨G, 6, none⟩ = some (.int .i64 (st.got : Int)) := cell_of h.hp 6
  have f6 := frozen_of h.hp 6
  obtain ⟨b, off, rfl, q0, q1, q2⟩ := hAS 0 y rfl
  rw [Nat.zero_mul, Nat.add_zero] at q0 q1 q2
  have hbl := World.block_lt_of_cell? w _ q0
  simp only at hbl
  have BE := hide (rbehind_any _ y t cs _ A3.out hcs (by omega))
  have hpos : decide (0 < ((t.length : Int) + 1)) = true := decide_eq_true (by omega)
  have hS3 : (((w.setCell ⟨G, 6, none⟩ (.int .i64 ((st.got : Int) + 1))).alloc (.cells #[.bool false, .bool false, .bool false, .int .i64 0, .int .i64 0, .int .i64 0, .int .i64 0] 169)).alloc (.cells #[.bool true, .bool true, .bool true, .int .i64 y.v, .int .i64 y.g, .int .i64 y.c, .int .i64 y.v] 169)).heap.size = w.heap.size + 2 := by
    rw [World.size_alloc, World.size_alloc, sz0]
  clear h hb hr hAS b1 b2 hm hz A3
  unfold gv
  go_enter Tryz.func134, Tryz.ntmps134
  go_wp2_with fail
  generalize (((w.setCell ⟨G, 6, none⟩ (.int .i64 ((st.got : Int) + 1))).alloc (.cells #[.bool false, .bool false, .bool false, .int .i64 0, .int .i64 0, .int .i64 0, .int .i64 0] 169)).alloc (.cells #[.bool true, .bool true, .bool true, .int .i64 y.v, .int .i64 y.g, .int .i64 y.c, .int .i64 y.v] 169)) = W3 at P3 K3 Z3 M3 BE hS3 y2' ⊢
  refine BE.out.mono ?_
  rintro r w4 ⟨ob, d, rfl, o4, b4⟩
  have P4 := hide (P3.out.below b4)
  have Z4 := hide (heap_below Z3.out b4)
  have M4 := hide (heap_below M3.out b4)
  have K4 := hide (K3.out.then b4)
  have O4 := hide o4
  clear o4 b4 BE K3 Z3 M3 P3 y1 y2 y2' y6 f6 q0 q1 q2
  have m0 : w4.cell? ⟨w.heap.size + 1, 0, none⟩ = some (.bool true) := cell_of M4.out 0
  have m1 : w4.cell? ⟨w.heap.size + 1, 1, none⟩ = some (.bool true) := cell_of M4.out 1
  have m2 : w4.cell? ⟨w.heap.size + 1, 2, none⟩ = some (.bool true) := cell_of M4.out 2
  have m3 : w4.cell? ⟨w.heap.size + 1, 3, none⟩ = some (.int .i64 y.v) := cell_of M4.out 3
  have m4 : w4.cell? ⟨w.heap.size + 1, 4, none⟩ = some (.int .i64 y.g) := cell_of M4.out 4
  have m5 : w4.cell? ⟨w.heap.size + 1, 5, none⟩ = some (.int .i64 y.c) := cell_of M4.out 5
  have m6 : w4.cell? ⟨w.heap.size + 1, 6, none⟩ = some (.int .i64 y.v) := cell_of M4.out 6
  have g2 : w4.cell? ⟨G, 2, none⟩ = some (.slice (some ⟨b, off, none⟩) st.snd.length cs) := cell_of P4.out.hp 2
  have g5 : w4.cell? ⟨G, 5, none⟩ = some (.int .i64 (st.sent : Int)) := cell_of P4.out.hp 5
  have gf2 := frozen_of P4.out.hp 2
  have gf5 := frozen_of P4.out.hp 5
  have z0 : w4.cell? ⟨w.heap.size, 0, none⟩ = some (.bool false) := cell_of Z4.out 0
  have zf0 := frozen_of Z4.out 0
  have z1 : w4.cell? ⟨w.heap.size, 1, none⟩ = some (.bool false) := cell_of Z4.out 1
  have zf1 := frozen_of Z4.out 1
  have z2 : w4.cell? ⟨w.heap.size, 2, none⟩ = some (.bool false) := cell_of Z4.out 2
  have zf2 := frozen_of Z4.out 2
  have z3 : w4.cell? ⟨w.heap.size, 3, none⟩ = some (.int .i64 0) := cell_of Z4.out 3
  have zf3 := frozen_of Z4.out 3
  have z4 : w4.cell? ⟨w.heap.size, 4, none⟩ = some (.int .i64 0) := cell_of Z4.out 4
  have zf4 := frozen_of Z4.out 4
  have z5 : w4.cell? ⟨w.heap.size, 5, none⟩ = some (.int .i64 0) := cell_of Z4.out 5
  have zf5 := frozen_of Z4.out 5
  have z6 : w4.cell? ⟨w.heap.size, 6, none⟩ = some (.int .i64 0) := cell_of Z4.out 6
  have zf6 := frozen_of Z4.out 6
  go_wp2_with fail
  have R1 := (P4.out.newS O4.out (fun k hk => by have := BDF.out k hk; omega) (by omega)).setSent (st.sent + 1) ((st.sent : Int) + 1) (by omega)
  have NN : Nw (Fw F (.slice ob t.length d)) F w := Fw.nw O4.out (by omega)
  have NZ : ¬ Fw F (.slice ob t.length d) w.heap.size := by
    rintro (q | q)
    · exact NF.out q
    · have := (own_blk O4.out _ q).1
      omega
  exact bodyPost_ret (results_row1 Tryz.results134 _ _ _ _ rfl (loadVar_rgot (got_set ((Below.heap_setCell _ _ _ _ (Ne.symm hM3)).trans ((Below.heap_setCell _ _ _ _ (Ne.symm hM3)).trans Z4.out)) _ _ _ _ _ _ _) rfl)) rfl ⟨rfl, rfin7 ((K4.out.set FG.out 2 _).set FG.out 5 _) NN R1.rr (Nat.le_refl _) NZ _ _ _ _ _ _ _⟩
end Rp
end Go.Proofs.YtddchcekljndmaaGreat
/- The reference's channel: Recv where a value is in the buffer, over this seat's program. -/
namespace Go.Proofs.YtddchcekljndmaaGreat
open Go.ChangeShapes Go.WideShapes Go.ChangeAt Go.RowKit
namespace Rp
open Ba Pe _root_.Go.Proofs.YtddchcekljndmaaGreat.Pi

theorem tail_run {w : World} {b off c : Nat} {x : Int} {l : List Int} (hA : At w (some ⟨b, off, none⟩) (x :: l)) (hl : l.length ≤ 1024) (off' : Nat) (ho : 0 < l.length → off' = off + 1) :
    ∃ ob d W, (Builtin.append_ #[23, 23] 23 #[.slice none 0 0, .slice (some ⟨b, off', none⟩) l.length (c - 1)]).run Tryz.prog w = .ok (.slice ob l.length d) W ∧ W.ownsRow w.heap.size 3 1 (.slice ob l.length d) l.length (ic l) ∧ Below w.heap.size w W := by
  cases hi : Tryz.prog.info? 3 with
  | none => have := info_i; rw [hi] at this; cases this
  | some i0 =>
  have hx2 := info_i
  rw [hi] at hx2
  simp at hx2
  have A1 := hA.tail
  obtain ⟨v', W, hr, h2, h5, _⟩ := run_append_own (P := Tryz.prog) w w.heap.size 23 23 3 i0 (.int .i64 0) 1 8 Tryz.underlying23 hi hx2.1 hx2.2.1 hx2.2.2 rfl (by decide) (.slice none 0 0) 0 [] (World.ownsRow_nil _ _ _ _) ⟨b, off', none⟩ l.length (c - 1) (ic l) (by simp [ic]) (by
    intro j u hj
    have hjl : j < l.length := by
      have := (List.getElem?_eq_some_iff.1 hj).1
      rw [ic_len] at this
      exact this
    obtain rfl := ho (by omega)
    obtain ⟨b', o', e, hc⟩ := A1 j hjl
    simp at e
    obtain ⟨rfl, rfl⟩ := e
    rw [Addr.add_lit, hc, ← hj]
    simp [ic, nth, hjl]) (ic_one l) (by unfold maxLen; omega) (by omega) (Nat.le_refl _)
  rw [Nat.zero_add, List.nil_append] at h2
  obtain ⟨ob, d, rfl, _, _⟩ := own_at h2
  exact ⟨ob, d, W, hr, h2, (Below.refl _ _).grown h5 (Nat.le_refl _) (fun x hx => by cases hx)⟩
set_option maxRecDepth 100000 in
set_option maxHeartbeats 6400000 in
theorem rrecv_buf (G : Nat) (F : Nat → Prop) (st : St) (x : Int) (b : List Int) (w : World) (h : Rr w G F st) (hb : st.buf = x :: b) (hr : st.snd = []) (hg : st.got < 1000000000) :
    Calls Tryz.prog 134 #[.pointer (some ⟨G, 0, none⟩)] w fun r w' => r = .returned (gv ⟨true, true, false, x, ⟨0, 0, 0⟩⟩) ∧ KF F w w' ∧ ∃ F', Nw F' F w ∧ Rr w' G F' { st with buf := b, got := st.got + 1 } := by
  have hG := h.lt
  have NF : Hid (¬ F w.heap.size) := fun e => Nat.lt_irrefl _ (h.bd _ e)
  obtain ⟨vL, vS, vQ, h⟩ := h
  have FG := hide h.fg
  have BDF := hide h.bd
  obtain ⟨ol, cl, os, cs, oq, cq, ⟨rfl, hAL, hcl⟩, ⟨rfl, hAS, hcs⟩, rfl, _, _⟩ := h.read
  have hbl := h.bl
  have hsz := h.sz
  have b1 := below_alloc w (.cells #[.bool false, .bool false, .bool false, .int .i64 0, .int .i64 0, .int .i64 0, .int .i64 0] 169)
  have b2 := below_alloc (w.alloc (.cells #[.bool false, .bool false, .bool false, .int .i64 0, .int .i64 0, .int .i64 0, .int .i64 0] 169)) (.cells #[.bool true, .bool true, .bool false, .int .i64 x, .int .i64 0, .int .i64 0, .int .i64 0] 169)
  have P2 := hide (h.below (btr b1 b2))
  have BB := hide (btr b1 b2)
  have Z2 := hide (heap_below (heap_new w (.cells #[.bool false, .bool false, .bool false, .int .i64 0, .int .i64 0, .int .i64 0, .int .i64 0] 169)) b2)
  have hm := heap_new (w.alloc (.cells #[.bool false, .bool false, .bool false, .int .i64 0, .int .i64 0, .int .i64 0, .int .i64 0] 169)) (.cells #[.bool true, .bool true, .bool false, .int .i64 x, .int .i64 0, .int .i64 0, .int .i64 0] 169)
  rw [World.size_alloc] at hm
  have M2 := hide hm
  have hS2 : ((w.alloc (.cells #[.bool false, .bool false, .bool false, .int .i64 0, .int .i64 0, .int .i64 0, .int .i64 0] 169)).alloc (.cells #[.bool true, .bool true, .bool false, .int .i64 x, .int .i64 0, .int .i64 0, .int .i64 0] 169)).heap.size = w.heap.size + 2 := by rw [World.size_alloc, World.size_alloc]
  have hM1 : w.heap.size + 1 ≠ G := by omega
  have hM3 : G ≠ w.heap.size := by omega
  rw [hb] at hAL hcl hbl
  rw [List.length_cons] at hcl hbl
  obtain ⟨bb, off, rfl, hx⟩ := hAL.head
  have hbb := World.block_lt_of_cell? w _ hx
  simp only at hbb
  have y1 : w.cell? ⟨G, 1, none⟩ = some (.slice (some ⟨bb, off, none⟩) (b.length + 1) cl) := (cell_of h.hp 1).trans (by rw [hb]; rfl)
  have hposL : decide (0 < ((b.length : Int) + 1)) = true := decide_eq_true (by omega)
  have y2 : w.cell? ⟨G, 2, none⟩ = some (.slice os 0 cs) := (cell_of h.hp 2).trans (by rw [hr]; rfl)
  have TR := hide fun o ho => tail_run (w := ((w.alloc (.cells #[.bool false, .bool false, .bool false, .int .i64 0, .int .i64 0, .int .i64 0, .int .i64 0] 169)).alloc (.cells #[.bool true, .bool true, .bool false, .int .i64 x, .int .i64 0, .int .i64 0, .int .i64 0] 169))) (c := cl) (hAL.below (btr b1 b2)) (by omega) o ho
  clear h hb hr hAL b1 b2 hm
  unfold gv
  have main : ∀ (ob : Option Addr) (d : Nat) (W3 : World), W3.ownsRow (w.heap.size + 2) 3 1 (.slice ob b.length d) b.length (ic b) → Below (w.heap.size + 2) ((w.alloc (.cells #[.bool false, .bool false, .bool false, .int .i64 0, .int .i64 0, .int .i64 0, .int .i64 0] 169)).alloc (.cells #[.bool true, .bool true, .bool false, .int .i64 x, .int .i64 0, .int .i64 0, .int .i64 0] 169)) W3 → RO W3 G F (.slice (some ⟨bb, off, none⟩) st.buf.length cl) (.slice os st.snd.length cs) (.slice oq st.rcv.length cq) st ∧ W3.heap[w.heap.size]? = some (.cells #[.bool false, .bool false, .bool false, .int .i64 0, .int .i64 0, .int .i64 0, .int .i64 0] 169) ∧ W3.heap[w.heap.size + 1]? = some (.cells #[.bool true, .bool true, .bool false, .int .i64 x, .int .i64 0, .int .i64 0, .int .i64 0] 169) ∧ KF F w W3 := by
    intro ob d W3 _ hb3
    rw [← hS2] at hb3
    exact ⟨P2.out.below hb3, heap_below Z2.out hb3, heap_below M2.out hb3, KF.of (btr BB.out hb3)⟩
  have MAIN := hide main
  clear main
  by_cases hc1 : cl = 1
  · obtain rfl := hc1
    obtain rfl : b = [] := List.eq_nil_of_length_eq_zero (by omega)
    obtain ⟨ob, d, W3, hr3, ho3, hb3⟩ := TR.out off (fun h => by simp at h)
    have HR : Hid ((Builtin.append_ #[23, 23] 23 #[.slice none 0 0, .slice (some ⟨bb, off, none⟩) 0 0]).run Tryz.prog ((w.alloc (.cells #[.bool false, .bool false, .bool false, .int .i64 0, .int .i64 0, .int .i64 0, .int .i64 0] 169)).alloc (.cells #[.bool true, .bool true, .bool false, .int .i64 x, .int .i64 0, .int .i64 0, .int .i64 0] 169)) = .ok (.slice ob 0 d) W3) := hr3
    rw [hS2] at ho3 hb3
    obtain ⟨p3, z3, m3, k3⟩ := MAIN.out ob d W3 ho3 hb3
    have P3 := hide p3
    have Z3 := hide z3
    have M3 := hide m3
    have K3 := hide k3
    have O3 := hide ho3
    have SZ3 := hb3.size
    rw [hS2] at SZ3
    clear hr3 ho3 hb3 p3 z3 m3 k3 TR MAIN P2 BB Z2 M2
    have g1 : W3.cell? ⟨G, 1, none⟩ = some (.slice (some ⟨bb, off, none⟩) st.buf.length 1) := cell_of P3.out.hp 1
    have g6 : W3.cell? ⟨G, 6, none⟩ = some (.int .i64 (st.got : Int)) := cell_of P3.out.hp 6
    have gf1 := frozen_of P3.out.hp 1
    have gf6 := frozen_of P3.out.hp 6
    have z0 : W3.cell? ⟨w.heap.size, 0, none⟩ = some (.bool false) := cell_of Z3.out 0
    have zf0 := frozen_of Z3.out 0
    have z1 : W3.cell? ⟨w.heap.size, 1, none⟩ = some (.bool false) := cell_of Z3.out 1
    have zf1 := frozen_of Z3.out 1
    have z2 : W3.cell? ⟨w.heap.size, 2, none⟩ = some (.bool false) := cell_of Z3.out 2
    have zf2 := frozen_of Z3.out 2
    have z3 : W3.cell? ⟨w.heap.size, 3, none⟩ = some (.int .i64 0) := cell_of Z3.out 3
    have zf3 := frozen_of Z3.out 3
    have z4 : W3.cell? ⟨w.heap.size, 4, none⟩ = some (.int .i64 0) := cell_of Z3.out 4
    have zf4 := frozen_of Z3.out 4
    have z5 : W3.cell? ⟨w.heap.size, 5, none⟩ = some (.int .i64 0) := cell_of Z3.out 5
    have zf5 := frozen_of Z3.out 5
    have z6 : W3.cell? ⟨w.heap.size, 6, none⟩ = some (.int .i64 0) := cell_of Z3.out 6
    have zf6 := frozen_of Z3.out 6
    have m0 : W3.cell? ⟨w.heap.size + 1, 0, none⟩ = some (.bool true) := cell_of M3.out 0
    have m1 : W3.cell? ⟨w.heap.size + 1, 1, none⟩ = some (.bool true) := cell_of M3.out 1
    have m2 : W3.cell? ⟨w.heap.size + 1, 2, none⟩ = some (.bool false) := cell_of M3.out 2
    have m3 : W3.cell? ⟨w.heap.size + 1, 3, none⟩ = some (.int .i64 x) := cell_of M3.out 3
    have m4 : W3.cell? ⟨w.heap.size + 1, 4, none⟩ = some (.int .i64 0) := cell_of M3.out 4
    have m5 : W3.cell? ⟨w.heap.size + 1, 5, none⟩ = some (.int .i64 0) := cell_of M3.out 5
    have m6 : W3.cell? ⟨w.heap.size + 1, 6, none⟩ = some (.int .i64 0) := cell_of M3.out 6
    go_enter Tryz.func134, Tryz.ntmps134
    go_wp2_with (at_builtin; refine Lib.wpList_append_run _ rfl _ _ 23 23 rfl _ _ rfl rfl _ _ HR.out ?_)
    have R1 := (P3.out.newL O3.out (by simp)).setGot (st.got + 1) ((st.got : Int) + 1) (by omega)
    have NN : Nw (Fw F (.slice ob 0 d)) F w := Fw.nw O3.out (by omega)
    have NZ : ¬ Fw F (.slice ob 0 d) w.heap.size := by
      rintro (q | q)
      · exact NF.out q
      · have := (own_blk O3.out _ q).1
        omega
    exact bodyPost_ret (results_row1 Tryz.results134 _ _ _ _ rfl (loadVar_rgot (got_set ((Below.heap_setCell _ _ _ _ (Ne.symm hM3)).trans ((Below.heap_setCell _ _ _ _ (Ne.symm hM3)).trans Z3.out)) _ _ _ _ _ _ _) rfl)) rfl ⟨rfl, rfin7 ((K3.out.set FG.out 1 _).set FG.out 6 _) NN R1.rr (Nat.le_refl _) NZ _ _ _ _ _ _ _⟩
  · obtain ⟨ob, d, W3, hr3, ho3, hb3⟩ := TR.out (off + 1) (fun _ => rfl)
    have HR := hide hr3
    rw [hS2] at ho3 hb3
    obtain ⟨p3, z3, m3, k3⟩ := MAIN.out ob d W3 ho3 hb3
    have P3 := hide p3
    have Z3 := hide z3
    have M3 := hide m3
    have K3 := hide k3
    have O3 := hide ho3
    have SZ3 := hb3.size
    rw [hS2] at SZ3
    clear hr3 ho3 hb3 p3 z3 m3 k3 TR MAIN P2 BB Z2 M2
    have g1 : W3.cell? ⟨G, 1, none⟩ = some (.slice (some ⟨bb, off, none⟩) st.buf.length cl) := cell_of P3.out.hp 1
    have g6 : W3.cell? ⟨G, 6, none⟩ = some (.int .i64 (st.got : Int)) := cell_of P3.out.hp 6
    have gf1 := frozen_of P3.out.hp 1
    have gf6 := frozen_of P3.out.hp 6
    have z0 : W3.cell? ⟨w.heap.size, 0, none⟩ = some (.bool false) := cell_of Z3.out 0
    have zf0 := frozen_of Z3.out 0
    have z1 : W3.cell? ⟨w.heap.size, 1, none⟩ = some (.bool false) := cell_of Z3.out 1
    have zf1 := frozen_of Z3.out 1
    have z2 : W3.cell? ⟨w.heap.size, 2, none⟩ = some (.bool false) := cell_of Z3.out 2
    have zf2 := frozen_of Z3.out 2
    have z3 : W3.cell? ⟨w.heap.size, 3, none⟩ = some (.int .i64 0) := cell_of Z3.out 3
    have zf3 := frozen_of Z3.out 3
    have z4 : W3.cell? ⟨w.heap.size, 4, none⟩ = some (.int .i64 0) := cell_of Z3.out 4
    have zf4 := frozen_of Z3.out 4
    have z5 : W3.cell? ⟨w.heap.size, 5, none⟩ = some (.int .i64 0) := cell_of Z3.out 5
    have zf5 := frozen_of Z3.out 5
    have z6 : W3.cell? ⟨w.heap.size, 6, none⟩ = some (.int .i64 0) := cell_of Z3.out 6
    have zf6 := frozen_of Z3.out 6
    have m0 : W3.cell? ⟨w.heap.size + 1, 0, none⟩ = some (.bool true) := cell_of M3.out 0
    have m1 : W3.cell? ⟨w.heap.size + 1, 1, none⟩ = some (.bool true) := cell_of M3.out 1
    have m2 : W3.cell? ⟨w.heap.size + 1, 2, none⟩ = some (.bool false) := cell_of M3.out 2
    have m3 : W3.cell? ⟨w.heap.size + 1, 3, none⟩ = some (.int .i64 x) := cell_of M3.out 3
    have m4 : W3.cell? ⟨w.heap.size + 1, 4, none⟩ = some (.int .i64 0) := cell_of M3.out 4
    have m5 : W3.cell? ⟨w.heap.size + 1, 5, none⟩ = some (.int .i64 0) := cell_of M3.out 5
    have m6 : W3.cell? ⟨w.heap.size + 1, 6, none⟩ = some (.int .i64 0) := cell_of M3.out 6
    go_enter Tryz.func134, Tryz.ntmps134
    go_wp2_with (at_builtin; refine Lib.wpList_append_run _ rfl _ _ 23 23 rfl _ _ rfl rfl _ _ HR.out ?_)
    have R1 := (P3.out.newL O3.out (by omega)).setGot (st.got + 1) ((st.got : Int) + 1) (by omega)
    have NN : Nw (Fw F (.slice ob b.length d)) F w := Fw.nw O3.out (by omega)
    have NZ : ¬ Fw F (.slice ob b.length d) w.heap.size := by
      rintro (q | q)
      · exact NF.out q
      · have := (own_blk O3.out _ q).1
        omega
    exact bodyPost_ret (results_row1 Tryz.results134 _ _ _ _ rfl (loadVar_rgot (got_set ((Below.heap_setCell _ _ _ _ (Ne.symm hM3)).trans ((Below.heap_setCell _ _ _ _ (Ne.symm hM3)).trans Z3.out)) _ _ _ _ _ _ _) rfl)) rfl ⟨rfl, rfin7 ((K3.out.set FG.out 1 _).set FG.out 6 _) NN R1.rr (Nat.le_refl _) NZ _ _ _ _ _ _ _⟩
end Rp
end Go.Proofs.YtddchcekljndmaaGreat
