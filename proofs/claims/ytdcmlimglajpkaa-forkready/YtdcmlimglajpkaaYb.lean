/- The reference's channel: New, Ready, behind, without, over this seat's program. -/
import Derived.Test.YtdcmlimglajpkaaYa
import Derived.Test.YtdcmlimglajpkaaXb
import Derived.Lib.AppendZeros
namespace Go.Proofs.Ytdcmlimglajpkaa
open Go.ChangeShapes Go.WideShapes Go.ChangeAt Go.RowKit
namespace Rp
open Ba Pe _root_.Go.Proofs.Ytdcmlimglajpkaa.Pi

theorem info_rw : (Try.prog.info? 62).map (fun i => (i.zero, i.size, i.bytes)) = some (some (wv ⟨0, 0, 0⟩), 3, 24) := by kernel_rfl
theorem info_i : (Try.prog.info? 3).map (fun i => (i.zero, i.size, i.bytes)) = some (some (.int .i64 0), 1, 8) := by kernel_rfl
theorem rnew_err (s : Int) (w : World) (h : s < 0 ∨ 4 < s) :
    Calls Try.prog 20 #[.int .i64 s] w fun r w' => r = .returned (.tuple #[.pointer none, .int .i64 1]) ∧ w' = w := by
  by_cases h1 : s < 0
  · have d1 : decide (s < 0) = true := decide_eq_true (by omega)
    go_enter Try.func20, Try.ntmps20
    go_wp2_with fail
    go_ret2
    exact ⟨rfl, rfl⟩
  · have d1 : decide (s < 0) = false := decide_eq_false (by omega)
    have d2 : decide (4 < s) = true := decide_eq_true (by omega)
    go_enter Try.func20, Try.ntmps20
    go_wp2_with fail
    go_ret2
    exact ⟨rfl, rfl⟩
theorem rnew_ok (s : Nat) (w : World) (h : s ≤ 4) :
    Calls Try.prog 20 #[.int .i64 (s : Int)] w fun r w' => ∃ G F, r = .returned (.tuple #[.pointer (some ⟨G, 0, none⟩), .int .i64 0]) ∧ Rr w' G F (st0 s) ∧ (∀ k, F k → w.heap.size ≤ k) ∧ Below w.heap.size w w' := by
  have d1 : decide ((s : Int) < 0) = false := decide_eq_false (by omega)
  have d2 : decide (4 < (s : Int)) = false := decide_eq_false (by omega)
  go_enter Try.func20, Try.ntmps20
  go_wp2_with fail
  go_ret2
  have hs := World.size_alloc w (.cells #[.int .i64 (s : Int), .slice none 0 0, .slice none 0 0, .slice none 0 0, .bool false, .int .i64 0, .int .i64 0] 82)
  exact ⟨w.heap.size, fun k => k = w.heap.size, rfl, RO.rr ⟨heap_new _ _, World.ownsRow_nil _ _ _ _, World.ownsRow_nil _ _ _ _, World.ownsRow_nil _ _ _ _, fun g e => by simp [Value.ownBlock] at e, rfl, fun g e => by simp [Value.ownBlock] at e, fun g e => by simp [Value.ownBlock] at e, fun g e => by simp [Value.ownBlock] at e, fun k (e : k = _) => by rw [hs]; omega, Nat.zero_le _, Nat.zero_le _, Nat.zero_le _, h⟩, fun k (e : k = _) => by omega, below_alloc _ _⟩
/-- what a walk reads of the channel -/
theorem RO.read {w : World} {G : Nat} {F : Nat → Prop} {vL vS vQ : Value} {st : St} (h : RO w G F vL vS vQ st) : ∃ ol cl os cs oq cq, (vL = .slice ol st.buf.length cl ∧ At w ol st.buf ∧ st.buf.length ≤ cl) ∧ (vS = .slice os st.snd.length cs ∧ WAt w os st.snd ∧ st.snd.length ≤ cs) ∧ (vQ = .slice oq st.rcv.length cq ∧ WAt w oq st.rcv ∧ st.rcv.length ≤ cq) := by
  obtain ⟨ol, cl, h1, h2, h3⟩ := own_at h.rl
  obtain ⟨os, cs, g1, g2, g3, _⟩ := owns_wat h.rs
  obtain ⟨oq, cq, k1, k2, k3, _⟩ := owns_wat h.rq
  exact ⟨ol, cl, os, cs, oq, cq, ⟨h1, h2, h3⟩, ⟨g1, g2, g3⟩, k1, k2, k3⟩
set_option maxRecDepth 100000 in
set_option maxHeartbeats 1600000 in
theorem rready_any (G : Nat) (F : Nat → Prop) (st : St) (b : Bool) (w : World) (h : Rr w G F st) :
    Calls Try.prog 35 #[.pointer (some ⟨G, 0, none⟩), .bool b] w fun r w' => r = .returned (.bool (rdy st b)) ∧ Below w.heap.size w w' := by
  obtain ⟨vL, vS, vQ, h⟩ := h
  obtain ⟨ol, cl, os, cs, oq, cq, ⟨rfl, _, _⟩, ⟨rfl, _, _⟩, rfl, _, _⟩ := h.read
  have y0 : w.cell? ⟨G, 0, none⟩ = some (.int .i64 (st.size : Int)) := cell_of h.hp 0
  have y1 : w.cell? ⟨G, 1, none⟩ = some (.slice ol st.buf.length cl) := cell_of h.hp 1
  have y2 : w.cell? ⟨G, 2, none⟩ = some (.slice os st.snd.length cs) := cell_of h.hp 2
  have y3 : w.cell? ⟨G, 3, none⟩ = some (.slice oq st.rcv.length cq) := cell_of h.hp 3
  have y4 : w.cell? ⟨G, 4, none⟩ = some (.bool st.closed) := cell_of h.hp 4
  clear h
  unfold rdy room own
  cases b
  · simp only [Bool.false_eq_true, if_false, Bool.not_false, if_true]
    rw [Bool.or_assoc, Bool.or_comm (decide (0 < st.buf.length)), ← Bool.or_assoc]
    clear y0 y3
    generalize st.snd.length = n1 at y2 ⊢
    generalize st.buf.length = n2 at y1 ⊢
    generalize st.closed = cl0 at y4 ⊢
    have e1 : decide (0 < (n1 : Int)) = decide (0 < n1) := by simp
    have e2 : decide (0 < (n2 : Int)) = decide (0 < n2) := by simp
    cases cl0
    · by_cases h1 : 0 < n1
      · have d1 : decide (0 < n1) = true := decide_eq_true h1
        rw [d1] at e1 ⊢
        go_enter Try.func35, Try.ntmps35
        go_wp2_with fail
        go_ret
        exact ⟨ret_bool (by simp), Below.refl _ _⟩
      · have d1 : decide (0 < n1) = false := decide_eq_false h1
        rw [d1] at e1 ⊢
        go_enter Try.func35, Try.ntmps35
        go_wp2_with fail
        go_ret
        exact ⟨ret_bool (by simp), Below.refl _ _⟩
    · skip
      go_enter Try.func35, Try.ntmps35
      go_wp2_with fail
      go_ret
      exact ⟨ret_bool (by simp), Below.refl _ _⟩
  · simp only [if_true, Bool.not_true, Bool.false_eq_true, if_false]
    rw [Bool.or_assoc, Bool.or_comm (decide (st.buf.length < st.size)), ← Bool.or_assoc]
    clear y2
    generalize st.rcv.length = n1 at y3 ⊢
    generalize st.buf.length = n2 at y1 ⊢
    generalize st.size = n3 at y0 ⊢
    generalize st.closed = cl0 at y4 ⊢
    have e1 : decide (0 < (n1 : Int)) = decide (0 < n1) := by simp
    have e2 : decide ((n2 : Int) < (n3 : Int)) = decide (n2 < n3) := by simp
    cases cl0
    · by_cases h1 : 0 < n1
      · have d1 : decide (0 < n1) = true := decide_eq_true h1
        rw [d1] at e1 ⊢
        go_enter Try.func35, Try.ntmps35
        go_wp2_with fail
        go_quiet (fail)
        go_wp2_with fail
        go_ret
        exact ⟨ret_bool (by simp), bdrew _ _⟩
      · have d1 : decide (0 < n1) = false := decide_eq_false h1
        rw [d1] at e1 ⊢
        go_enter Try.func35, Try.ntmps35
        go_wp2_with fail
        go_quiet (fail)
        go_wp2_with fail
        go_ret
        exact ⟨ret_bool (by simp), bdrew _ _⟩
    · skip
      go_enter Try.func35, Try.ntmps35
      go_wp2_with fail
      go_quiet (fail)
      go_wp2_with fail
      go_ret
      exact ⟨ret_bool (by simp), bdrew _ _⟩

set_option maxRecDepth 100000 in
set_option maxHeartbeats 1600000 in
theorem rbehind_any (oa : Option Addr) (x : Wt) (l : List Wt) (c : Nat) (w : World) (hA : WAt w oa (x :: l)) (hc : l.length + 1 ≤ c) (hl : l.length ≤ 1024) :
    Calls Try.prog 66 #[.slice oa (l.length + 1) c] w fun r w' => ∃ ob d, r = .returned (.slice ob l.length d) ∧ w'.ownsRow w.heap.size 62 3 (.slice ob l.length d) l.length (wc l) ∧ Below w.heap.size w w' := by
  cases hi : Try.prog.info? 62 with
  | none => have := info_rw; rw [hi] at this; cases this
  | some i0 =>
  have hx2 := info_rw
  rw [hi] at hx2
  simp at hx2
  have INF := hide (And.intro hi hx2)
  clear hx2 hi
  obtain ⟨b, off, rfl, a0, a1, a2⟩ := hA 0 x rfl
  have HA1 := hide hA
  clear hA a0 a1 a2
  have hsrc : ∀ off' : Nat, (0 < l.length → off' = off + 3) → ∃ ob d W, (Builtin.append_ #[76, 76] 76 #[.slice none 0 0, .slice (some ⟨b, off', none⟩) l.length (c - 1)]).run Try.prog w = .ok (.slice ob l.length d) W ∧ W.ownsRow w.heap.size 62 3 (.slice ob l.length d) l.length (wc l) ∧ Below w.heap.size w W := by
    intro off' ho
    obtain ⟨v', W, hr, h2, h5, _⟩ := run_append_own (P := Try.prog) w w.heap.size 76 76 62 i0 (wv ⟨0, 0, 0⟩) 3 24 Try.underlying76 INF.out.1 INF.out.2.1 INF.out.2.2.1 INF.out.2.2.2 rfl (by decide) (.slice none 0 0) 0 [] (World.ownsRow_nil _ _ _ _) ⟨b, off', none⟩ l.length (c - 1) (wc l) (wc_len l) (by
      intro j u hj
      have hjl : j < l.length * 3 := by
        have := (List.getElem?_eq_some_iff.1 hj).1
        rw [wc_len] at this
        exact this
      obtain rfl := ho (by omega)
      have hq : j / 3 < l.length := by omega
      obtain ⟨y, hy⟩ : ∃ y, l[j / 3]? = some y := ⟨_, List.getElem?_eq_getElem hq⟩
      obtain ⟨b', o', e, g0, g1, g2⟩ := HA1.out (j / 3 + 1) y (by simpa using hy)
      simp at e
      obtain ⟨rfl, rfl⟩ := e
      obtain ⟨k0, k1, k2⟩ := wc_at l (j / 3) y hy
      rw [Addr.add_lit]
      have hm : j % 3 = 0 ∨ j % 3 = 1 ∨ j % 3 = 2 := by omega
      rcases hm with hm | hm | hm
      · rw [show off + 3 + j = off + (j / 3 + 1) * 3 by omega, g0]
        rw [show j / 3 * 3 = j by omega, hj] at k0
        exact k0.symm
      · rw [show off + 3 + j = off + (j / 3 + 1) * 3 + 1 by omega, g1]
        rw [show j / 3 * 3 + 1 = j by omega, hj] at k1
        exact k1.symm
      · rw [show off + 3 + j = off + (j / 3 + 1) * 3 + 2 by omega, g2]
        rw [show j / 3 * 3 + 2 = j by omega, hj] at k2
        exact k2.symm) (wc_one l) (by unfold maxLen; omega) (by omega) (Nat.le_refl _)
    rw [Nat.zero_add, List.nil_append] at h2
    obtain ⟨ob, d, rfl, _, _⟩ := owns_wat h2
    exact ⟨ob, d, W, hr, h2, (Below.refl _ _).grown h5 (Nat.le_refl _) (fun x hx => by cases hx)⟩
  by_cases hc1 : c = 1
  · obtain rfl := hc1
    obtain rfl : l = [] := List.eq_nil_of_length_eq_zero (by omega)
    obtain ⟨ob, d, W, hr, ho, hb⟩ := hsrc off (fun h => by simp at h)
    have HR : Hid ((Builtin.append_ #[76, 76] 76 #[.slice none 0 0, .slice (some ⟨b, off, none⟩) 0 0]).run Try.prog w = .ok (.slice ob 0 d) W) := hr
    have HO := hide ho
    have HB := hide hb
    clear ho hb hr hsrc
    go_enter Try.func66, Try.ntmps66
    go_wp2_with (at_builtin; refine Lib.wpList_append_run _ rfl _ _ 76 76 rfl _ _ rfl rfl _ _ HR.out ?_)
    go_ret
    exact ⟨ob, d, rfl, HO.out, HB.out⟩
  · obtain ⟨ob, d, W, hr, ho, hb⟩ := hsrc (off + 3) (fun _ => rfl)
    have HR := hide hr
    have HO := hide ho
    have HB := hide hb
    clear ho hb hr hsrc
    go_enter Try.func66, Try.ntmps66
    go_wp2_with (at_builtin; refine Lib.wpList_append_run _ rfl _ _ 76 76 rfl _ _ rfl rfl _ _ HR.out ?_)
    go_ret
    exact ⟨ob, d, rfl, HO.out, HB.out⟩
set_option maxRecDepth 100000 in
set_option maxHeartbeats 1600000 in
theorem rwithout_any (oa : Option Addr) (l : List Wt) (c : Nat) (g : Int) (w : World) (hA : WAt w oa l) (hle : l.length ≤ 1024) :
    Calls Try.prog 56 #[.slice oa l.length c, .int .i64 g] w fun r w' => ∃ ob d, r = .returned (.slice ob (dr g l).length d) ∧ w'.ownsRow w.heap.size 62 3 (.slice ob (dr g l).length d) (dr g l).length (wc (dr g l)) ∧ Below w.heap.size w w' := by
  have HA := hide hA
  clear hA
  cases hi : Try.prog.info? 62 with
  | none => have := info_rw; rw [hi] at this; cases this
  | some i0 =>
  have hx2 := info_rw
  rw [hi] at hx2
  simp at hx2
  have INF := hide (And.intro hi hx2)
  clear hx2 hi
  go_enter Try.func56, Try.ntmps56
  go_wp2_with fail
  go_loopw [5, 10] (fun rv i wr => ∃ (v : Value) (k : Nat), k ≤ l.length ∧ i = .int .i64 k ∧ rv = v ∧ wr.ownsRow w.heap.size 62 3 v (dr g (l.take k)).length (wc (dr g (l.take k))) ∧ Below w.heap.size w wr) (fun _ i _ => l.length - (intOf i).toNat)
  case atStart => exact ⟨_, 0, Nat.zero_le _, rfl, rfl, World.ownsRow_nil _ _ _ _, Below.refl _ _⟩
  case round =>
    obtain ⟨v, k, hk, rfl, rfl, ho, hb⟩ := hrel
    by_cases hlt : k < l.length
    · have hlt' : (k : Int) < (l.length : Int) := by omega
      obtain ⟨x, hx⟩ : ∃ x, l[k]? = some x := ⟨_, List.getElem?_eq_getElem hlt⟩
      obtain ⟨b, off, rfl, q0, q1, q2⟩ := HA.out.below hb k x hx
      have DT := hide (dr_take (g := g) hx)
      have hdl : (dr g (l.take k)).length ≤ k := by
        have h1 := dr_len g (l.take k)
        have h2 := List.length_take_le k l
        omega
      clear hx
      obtain ⟨X, hX⟩ : ∃ X, X = dr g (l.take k) := ⟨_, rfl⟩
      rw [← hX] at DT hdl ho
      clear hX
      have BX := below_alloc wr (.cells #[.int .i64 x.g, .int .i64 x.c, .int .i64 x.v] 62)
      cases hg : x.g == g
      · have hg' : (x.g != g) = true := by simp [bne, hg]
        have EX : Hid (dr g (l.take (k + 1)) = X ++ [x]) := by
          show _ = _
          have := DT.out
          rw [hg] at this
          simpa using this
        have OW1 := own_below ho BX
        have HB1 := btr hb BX
        clear ho hb BX DT
        have BY := below_alloc (wr.alloc (.cells #[.int .i64 x.g, .int .i64 x.c, .int .i64 x.v] 62)) (.cells #[.int .i64 x.g, .int .i64 x.c, .int .i64 x.v] 62)
        have OW := hide (own_below OW1 BY)
        have HB := hide (btr HB1 BY)
        have SR := src3 (wr.alloc (.cells #[.int .i64 x.g, .int .i64 x.c, .int .i64 x.v] 62)) x 62
        rw [World.size_alloc] at SR
        have SRC := hide SR
        clear OW1 HB1 BY SR
        go_wp2_with (at_builtin; refine wpList_append_own _ rfl _ _ 76 rfl w.heap.size 62 i0 (wv ⟨0, 0, 0⟩) 3 24 Try.underlying76 INF.out.1 INF.out.2.1 INF.out.2.2.1 INF.out.2.2.2 rfl (by decide) _ _ _ rfl OW.out ⟨wr.heap.size + 1, 0, none⟩ 1 1 (wc [x]) rfl rfl ?c1 ?c2 ?c3 ?c4 ?c5 ?_)
        case c1 => first | exact SRC.out | exact fun j u hj => hj
        case c2 => exact wc_one _
        case c3 => unfold maxLen; omega
        case c4 => omega
        case c5 => first | exact HB.out.size | (have := HB.out.size; rw [World.size_alloc, World.size_alloc] at this; exact this)
        intro v' w3 ho hg3 _
        have B3 : Hid (Below w.heap.size w w3) := HB.out.grown hg3 HB.out.size (fun x hx => (OW.out.lt x hx).1)
        have O3 : Hid (w3.ownsRow w.heap.size 62 3 v' (dr g (l.take (k + 1))).length (wc (dr g (l.take (k + 1))))) := by
          show World.ownsRow _ _ _ _ _ _ _
          rw [EX.out, wc_app, List.length_append]
          exact ho
        clear ho hg3
        go_wp2_with fail
        go_roundw
        case rel =>
          first
            | exact ⟨v', k + 1, by omega, by go_num, rfl, O3.out, B3.out⟩
            | ((repeat apply Exists.intro); exact ⟨⟨v', k + 1, by omega, by go_num, rfl, O3.out, B3.out⟩, rfl⟩)
        case measure => simp [intOf]; omega
      · have hg' : (x.g != g) = false := by simp [bne, hg]
        have EX : Hid (dr g (l.take (k + 1)) = X) := by
          show _ = _
          have := DT.out
          rw [hg] at this
          simpa using this
        have O3 : Hid ((wr.alloc (.cells #[.int .i64 x.g, .int .i64 x.c, .int .i64 x.v] 62)).ownsRow w.heap.size 62 3 u5 (dr g (l.take (k + 1))).length (wc (dr g (l.take (k + 1))))) := by
          show World.ownsRow _ _ _ _ _ _ _
          rw [EX.out]
          exact own_below ho BX
        have B3 := hide (btr hb BX)
        clear ho hb BX DT
        go_wp2_with fail
        go_roundw
        case rel =>
          first
            | exact ⟨_, k + 1, by omega, by go_num, rfl, O3.out, B3.out⟩
            | exact ⟨k + 1, by omega, by go_num, O3.out, B3.out⟩
        case measure => simp [intOf]; omega
    · have hlt' : ¬ ((k : Int) < (l.length : Int)) := by omega
      rw [List.take_of_length_le (by omega)] at ho
      obtain ⟨oa', c', hv', _, _⟩ := owns_wat ho
      subst hv'
      have HO := hide ho
      have HB := hide hb
      clear ho hb
      go_wp2_with fail
      go_ret
      exact ⟨oa', c', rfl, HO.out, HB.out⟩
end Rp
end Go.Proofs.Ytdcmlimglajpkaa
