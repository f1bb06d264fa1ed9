import Derived.Test.YtblfimobiibmjaaGreatZjAh10
import Derived.Lib.AppendZeros
import Derived.Deep.RegionWith
import Derived.OwnWalk
import Derived.Deep.RegionHeld3
import Derived.Deep.AppendLies
import Derived.Deep.RegionLaw
/- The reference's channel: New, Ready, behind, without, over this seat's program. -/
namespace Go.Proofs.YtblfimobiibmjaaGreat
open Go.ChangeShapes Go.WideShapes Go.ChangeAt Go.RowKit
namespace Rp
open Ba Pe _root_.Go.Proofs.YtblfimobiibmjaaGreat.Pi

theorem info_rw : (Tryz.prog.info? 207).map (fun i => (i.zero, i.size, i.bytes)) = some (some (wv ⟨0, 0, 0⟩), 3, 24) := by kernel_rfl
theorem info_i : (Tryz.prog.info? 3).map (fun i => (i.zero, i.size, i.bytes)) = some (some (.int .i64 0), 1, 8) := by kernel_rfl
theorem rnew_err (s : Int) (w : World) (h : s < 0 ∨ 4 < s) :
    Calls Tryz.prog 156 #[.int .i64 s] w fun r w' => r = .returned (.tuple #[.pointer none, .int .i64 1]) ∧ w' = w := by
  by_cases h1 : s < 0
  · have d1 : decide (s < 0) = true := decide_eq_true (by omega)
    go_enter Tryz.func156, Tryz.ntmps156
    go_wp2_with fail
    go_ret2
    exact ⟨rfl, rfl⟩
  · have d1 : decide (s < 0) = false := decide_eq_false (by omega)
    have d2 : decide (4 < s) = true := decide_eq_true (by omega)
    go_enter Tryz.func156, Tryz.ntmps156
    go_wp2_with fail
    go_ret2
    exact ⟨rfl, rfl⟩
theorem rnew_ok (s : Nat) (w : World) (h : s ≤ 4) :
    Calls Tryz.prog 156 #[.int .i64 (s : Int)] w fun r w' => ∃ G F, r = .returned (.tuple #[.pointer (some ⟨G, 0, none⟩), .int .i64 0]) ∧ Rr w' G F (st0 s) ∧ (∀ k, F k → w.heap.size ≤ k) ∧ Below w.heap.size w w' := by
  have d1 : decide ((s : Int) < 0) = false := decide_eq_false (by omega)
  have d2 : decide (4 < (s : Int)) = false := decide_eq_false (by omega)
  go_enter Tryz.func156, Tryz.ntmps156
  go_wp2_with fail
  go_ret2
  have hs := World.size_alloc w (.cells #[.int .i64 (s : Int), .slice none 0 0, .slice none 0 0, .slice none 0 0, .bool false, .int .i64 0, .int .i64 0] 211)
  exact ⟨w.heap.size, fun k => k = w.heap.size, rfl, RO.rr ⟨heap_new _ _, World.ownsRow_nil _ _ _ _, World.ownsRow_nil _ _ _ _, World.ownsRow_nil _ _ _ _, fun g e => by simp [Value.ownBlock] at e, rfl, fun g e => by simp [Value.ownBlock] at e, fun g e => by simp [Value.ownBlock] at e, fun g e => by simp [Value.ownBlock] at e, fun k (e : k = _) => by rw [hs]; omega, Nat.zero_le _, Nat.zero_le _, Nat.zero_le _, h⟩, fun k (e : k = _) => by omega, below_alloc _ _⟩
/-- what a walk reads of the channel -/
theorem RO.read {w : World} {G : Nat} {F : Nat → Prop} {vL vS vQ : Value} {st : St} (h : RO w G F vL vS vQ st) : ∃ ol cl os cs oq cq, (vL = .slice ol st.buf.length cl ∧ At w ol st.buf ∧ st.buf.length ≤ cl) ∧ (vS = .slice os st.snd.length cs ∧ WAt w os st.snd ∧ st.snd.length ≤ cs) ∧ (vQ = .slice oq st.rcv.length cq ∧ WAt w oq st.rcv ∧ st.rcv.length ≤ cq) := by
  obtain ⟨ol, cl, h1, h2, h3⟩ := own_at h.rl
  obtain ⟨os, cs, g1, g2, g3, _⟩ := owns_wat h.rs
  obtain ⟨oq, cq, k1, k2, k3, _⟩ := owns_wat h.rq
  exact ⟨ol, cl, os, cs, oq, cq, ⟨h1, h2, h3⟩, ⟨g1, g2, g3⟩, k1, k2, k3⟩
set_option maxRecDepth 100000 in
set_option maxHeartbeats 1600000 in
theorem rready_any (G : Nat) (F : Nat → Prop) (st : St) (b : Bool) (w : World) (h : Rr w G F st) :
    Calls Tryz.prog 146 #[.pointer (some ⟨G, 0, none⟩), .bool b] w fun r w' => r = .returned (.bool (rdy st b)) ∧ Below w.heap.size w w' := by
  obtain ⟨vL, vS, vQ, h⟩ := h
  obtain ⟨ol, cl, os, cs, oq, cq, ⟨rfl, _, _⟩, ⟨rfl, _, _⟩, rfl, _, _⟩ := h.read
  have y0 : w.cell? ⟨G, 0, none⟩ = some (.int .i64 (st.size : Int)) := cell_of h.hp 0
  have y1 : w.cell? ⟨G, 1, none⟩ = some (.slice ol st.buf.length cl) := cell_of h.hp 1
  have y2 : w.cell? ⟨G, 2, none⟩ = some (.slice os st.snd.length cs) := cell_of h.hp 2
  have y3 : w.cell? ⟨G, 3, none⟩ = some (.slice oq st.rcv.length cq) := cell_of h.hp 3
  have y4 : w.cell? ⟨G, 4, none⟩ = some (.bool st.closed) := cell_of h.hp 4
  clear h
  unfold rdy room own
  cases b
  · simp only [Bool.false_eq_true, if_false, Bool.not_false, if_true]
    rw [Bool.or_assoc, Bool.or_comm (decide (0 < st.buf.length)), ← Bool.or_assoc]
    clear y0 y3
    generalize st.snd.length = n1 at y2 ⊢
    generalize st.buf.length = n2 at y1 ⊢
    generalize st.closed = cl0 at y4 ⊢
    have e1 : decide (0 < (n1 : Int)) = decide (0 < n1) := by simp
    have e2 : decide (0 < (n2 : Int)) = decide (0 < n2) := by simp
    cases cl0
    · by_cases h1 : 0 < n1
      · have d1 : decide (0 < n1) = true := decide_eq_true h1
        rw [d1] at e1 ⊢
        go_enter Tryz.func146, Tryz.ntmps146
        go_wp2_with fail
        go_ret
        exact ⟨ret_bool (by simp), Below.refl _ _⟩
      · have d1 : decide (0 < n1) = false := decide_eq_false h1
        rw [d1] at e1 ⊢
        go_enter Tryz.func146, Tryz.ntmps146
        go_wp2_with fail
        go_ret
        exact ⟨ret_bool (by simp), Below.refl _ _⟩
    · skip
      go_enter Tryz.func146, Tryz.ntmps146
      go_wp2_with fail
      go_ret
      exact ⟨ret_bool (by simp), Below.refl _ _⟩
  · simp only [if_true, Bool.not_true, Bool.false_eq_true, if_false]
    rw [Bool.or_assoc, Bool.or_comm (decide (st.buf.length < st.size)), ← Bool.or_assoc]
    clear y2
    generalize st.rcv.length = n1 at y3 ⊢
    generalize st.buf.length = n2 at y1 ⊢
    generalize st.size = n3 at y0 ⊢
    generalize st.closed = cl0 at y4 ⊢
    have e1 : decide (0 < (n1 : Int)) = decide (0 < n1) := by simp
    have e2 : decide ((n2 : Int) < (n3 : Int)) = decide (n2 < n3) := by simp
    cases cl0
    · by_cases h1 : 0 < n1
      · have d1 : decide (0 < n1) = true := decide_eq_true h1
        rw [d1] at e1 ⊢
        go_enter Tryz.func146, Tryz.ntmps146
        go_wp2_with fail
        go_quiet (fail)
        go_wp2_with fail
        go_ret
        exact ⟨ret_bool (by simp), bdrew _ _⟩
      · have d1 : decide (0 < n1) = false := decide_eq_false h1
        rw [d1] at e1 ⊢
        go_enter Tryz.func146, Tryz.ntmps146
        go_wp2_with fail
        go_quiet (fail)
        go_wp2_with fail
        go_ret
        exact ⟨ret_bool (by simp), bdrew _ _⟩
    · skip
      go_enter Tryz.func146, Tryz.ntmps146
      go_wp2_with fail
      go_quiet (fail)
      go_wp2_with fail
      go_ret
      exact ⟨ret_bool (by simp), bdrew _ _⟩

set_option maxRecDepth 100000 in
set_option maxHeartbeats 1600000 in
theorem rbehind_any (oa : Option Addr) (x : Wt) (l : List Wt) (c : Nat) (w : World) (hA : WAt w oa (x :: l)) (hc : l.length + 1 ≤ c) (hl : l.length ≤ 1024) :
    Calls Tryz.prog 185 #[.slice oa (l.length + 1) c] w fun r w' => ∃ ob d, r = .returned (.slice ob l.length d) ∧ w'.ownsRow w.heap.size 207 3 (.slice ob l.length d) l.length (wc l) ∧ Below w.heap.size w w' := by
  cases hi : Tryz.prog.info? 207 with
  | none => have := info_rw; rw [hi] at this; cases this
  | some i0 =>
  have hx2 := info_rw
  rw [hi] at hx2
  simp at hx2
  have INF := hide (And.intro hi hx2)
  clear hx2 hi
  obtain ⟨b, off, rfl, a0, a1, a2⟩ := hA 0 x rfl
  have HA1 := hide hA
  clear hA a0 a1 a2
  have hsrc : ∀ off' : Nat, (0 < l.length → off' = off + 3) → ∃ ob d W, (Builtin.append_ #[209, 209] 209 #[.slice none 0 0, .slice (some ⟨b, off', none⟩) l.length (c - 1)]).run Tryz.prog w = .ok (.slice ob l.length d) W ∧ W.ownsRow w.heap.size 207 3 (.slice ob l.length d) l.length (wc l) ∧ Below w.heap.size w W := by
    intro off' ho
    obtain ⟨v', W, hr, h2, h5, _⟩ := run_append_own (P := Tryz.prog) w w.heap.size 209 209 207 i0 (wv ⟨0, 0, 0⟩) 3 24 Tryz.underlying209 INF.out.1 INF.out.2.1 INF.out.2.2.1 INF.out.2.2.2 rfl (by decide) (.slice none 0 0) 0 [] (World.ownsRow_nil _ _ _ _) ⟨b, off', none⟩ l.length (c - 1) (wc l) (wc_len l) (by
      intro j u hj
      have hjl : j < l.length * 3 := by
        have := (List.getElem?_eq_some_iff.1 hj).1
        rw [wc_len] at this
        exact this
      obtain rfl := ho (by omega)
      have hq : j / 3 < l.length := by omega
      obtain ⟨y, hy⟩ : ∃ y, l[j / 3]? = some y := ⟨_, List.getElem?_eq_getElem hq⟩
      obtain ⟨b', o', e, g0, g1, g2⟩ := HA1.out (j / 3 + 1) y (by simpa using hy)
      simp at e
      obtain ⟨rfl, rfl⟩ := e
      obtain ⟨k0, k1, k2⟩ := wc_at l (j / 3) y hy
      rw [Addr.add_lit]
      have hm : j % 3 = 0 ∨ j % 3 = 1 ∨ j % 3 = 2 := by omega
      rcases hm with hm | hm | hm
      · rw [show off + 3 + j = off + (j / 3 + 1) * 3 by omega, g0]
        rw [show j / 3 * 3 = j by omega, hj] at k0
        exact k0.symm
      · rw [show off + 3 + j = off + (j / 3 + 1) * 3 + 1 by omega, g1]
        rw [show j / 3 * 3 + 1 = j by omega, hj] at k1
        exact k1.symm
      · rw [show off + 3 + j = off + (j / 3 + 1) * 3 + 2 by omega, g2]
        rw [show j / 3 * 3 + 2 = j by omega, hj] at k2
        exact k2.symm) (wc_one l) (by unfold maxLen; omega) (by omega) (Nat.le_refl _)
    rw [Nat.zero_add, List.nil_append] at h2
    obtain ⟨ob, d, rfl, _, _⟩ := owns_wat h2
    exact ⟨ob, d, W, hr, h2, (Below.refl _ _).grown h5 (Nat.le_refl _) (fun x hx => by cases hx)⟩
  by_cases hc1 : c = 1
  · obtain rfl := hc1
    obtain rfl : l = [] := List.eq_nil_of_length_eq_zero (by omega)
    obtain ⟨ob, d, W, hr, ho, hb⟩ := hsrc off (fun h => by simp at h)
    have HR : Hid ((Builtin.append_ #[209, 209] 209 #[.slice none 0 0, .slice (some ⟨b, off, none⟩) 0 0]).run Tryz.prog w = .ok (.slice ob 0 d) W) := hr
    have HO := hide ho
    have HB := hide hb
    clear ho hb hr hsrc
    go_enter Tryz.func185, Tryz.ntmps185
    go_wp2_with (at_builtin; refine Lib.wpList_append_run _ rfl _ _ 209 209 rfl _ _ rfl rfl _ _ HR.out ?_)
    go_ret
    exact ⟨ob, d, rfl, HO.out, HB.out⟩
  · obtain ⟨ob, d, W, hr, ho, hb⟩ := hsrc (off + 3) (fun _ => rfl)
    have HR := hide hr
    have HO := hide ho
    have HB := hide hb
    clear ho hb hr hsrc
    go_enter Tryz.func185, Tryz.ntmps185
    go_wp2_with (at_builtin; refine Lib.wpList_append_run _ rfl _ _ 209 209 rfl _ _ rfl rfl _ _ HR.out ?_)
    go_ret
    exact ⟨ob, d, rfl, HO.out, HB.out⟩
set_option maxRecDepth 100000 in
set_option maxHeartbeats 1600000 in
theorem rwithout_any (oa : Option Addr) (l : List Wt) (c : Nat) (g : Int) (w : World) (hA : WAt w oa l) (hle : l.length ≤ 1024) :
    Calls Tryz.prog 170 #[.slice oa l.length c, .int .i64 g] w fun r w' => ∃ ob d, r = .returned (.slice ob (dr g l).length d) ∧ w'.ownsRow w.heap.size 207 3 (.slice ob (dr g l).length d) (dr g l).length (wc (dr g l)) ∧ Below w.heap.size w w' := by
  have HA := hide hA
  clear hA
  cases hi : Tryz.prog.info? 207 with
  | none => have := info_rw; rw [hi] at this; cases this
  | some i0 =>
  have hx2 := info_rw
  rw [hi] at hx2
  simp at hx2
  have INF := hide (And.intro hi hx2)
  clear hx2 hi
  go_enter Tryz.func170, Tryz.ntmps170
  go_wp2_with fail
  go_loopw [5, 10] (fun rv i wr => ∃ (v : Value) (k : Nat), k ≤ l.length ∧ i = .int .i64 k ∧ rv = v ∧ wr.ownsRow w.heap.size 207 3 v (dr g (l.take k)).length (wc (dr g (l.take k))) ∧ Below w.heap.size w wr) (fun _ i _ => l.length - (intOf i).toNat)
  case atStart => exact ⟨_, 0, Nat.zero_le _, rfl, rfl, World.ownsRow_nil _ _ _ _, Below.refl _ _⟩
  case round =>
    obtain ⟨v, k, hk, rfl, rfl, ho, hb⟩ := hrel
    by_cases hlt : k < l.length
    · have hlt' : (k : Int) < (l.length : Int) := by omega
      obtain ⟨x, hx⟩ : ∃ x, l[k]? = some x := ⟨_, List.getElem?_eq_getElem hlt⟩
      obtain ⟨b, off, rfl, q0, q1, q2⟩ := HA.out.below hb k x hx
      have DT := hide (dr_take (g := g) hx)
      have hdl : (dr g (l.take k)).length ≤ k := by
        have h1 := dr_len g (l.take k)
        have h2 := List.length_take_le k l
        omega
      clear hx
      obtain ⟨X, hX⟩ : ∃ X, X = dr g (l.take k) := ⟨_, rfl⟩
      rw [← hX] at DT hdl ho
      clear hX
      have BX := below_alloc wr (.cells #[.int .i64 x.g, .int .i64 x.c, .int .i64 x.v] 207)
      cases hg : x.g == g
      · have hg' : (x.g != g) = true := by simp [bne, hg]
        have EX : Hid (dr g (l.take (k + 1)) = X ++ [x]) := by
          show _ = _
          have := DT.out
          rw [hg] at this
          simpa using this
        have OW1 := own_below ho BX
        have HB1 := btr hb BX
        clear ho hb BX DT
        have BY := below_alloc (wr.alloc (.cells #[.int .i64 x.g, .int .i64 x.c, .int .i64 x.v] 207)) (.cells #[.int .i64 x.g, .int .i64 x.c, .int .i64 x.v] 207)
        have OW := hide (own_below OW1 BY)
        have HB := hide (btr HB1 BY)
        have SR := src3 (wr.alloc (.cells #[.int .i64 x.g, .int .i64 x.c, .int .i64 x.v] 207)) x 207
        rw [World.size_alloc] at SR
        have SRC := hide SR
        clear OW1 HB1 BY SR
        go_wp2_with (at_builtin; refine wpList_append_own _ rfl _ _ 209 rfl w.heap.size 207 i0 (wv ⟨0, 0, 0⟩) 3 24 Tryz.underlying209 INF.out.1 INF.out.2.1 INF.out.2.2.1 INF.out.2.2.2 rfl (by decide) _ _ _ rfl OW.out ⟨wr.heap.size + 1, 0, none⟩ 1 1 (wc [x]) rfl rfl ?c1 ?c2 ?c3 ?c4 ?c5 ?_)
        case c1 => first | exact SRC.out | exact fun j u hj => hj
        case c2 => exact wc_one _
        case c3 => unfold maxLen; omega
        case c4 => omega
        case c5 => first | exact HB.out.size | (have := HB.out.size; rw [World.size_alloc, World.size_alloc] at this; exact this)
        intro v' w3 ho hg3 _
        have B3 : Hid (Below w.heap.size w w3) := HB.out.grown hg3 HB.out.size (fun x hx => (OW.out.lt x hx).1)
        have O3 : Hid (w3.ownsRow w.heap.size 207 3 v' (dr g (l.take (k + 1))).length (wc (dr g (l.take (k + 1))))) := by
          show World.ownsRow _ _ _ _ _ _ _
          rw [EX.out, wc_app, List.length_append]
          exact ho
        clear ho hg3
        go_wp2_with fail
        go_roundw
        case rel =>
          first
            | exact ⟨v', k + 1, by omega, by go_num, rfl, O3.out, B3.out⟩
            | ((repeat apply Exists.intro); exact ⟨⟨v', k + 1, by omega, by go_num, rfl, O3.out, B3.out⟩, rfl⟩)
        case measure => simp [intOf]; omega
      · have hg' : (x.g != g) = false := by simp [bne, hg]
        have EX : Hid (dr g (l.take (k + 1)) = X) := by
          show _ = _
          have := DT.out
          rw [hg] at this
          simpa using this
        have O3 : Hid ((wr.alloc (.cells #[.int .i64 x.g, .int .i64 x.c, .int .i64 x.v] 207)).ownsRow w.heap.size 207 3 u5 (dr g (l.take (k + 1))).length (wc (dr g (l.take (k + 1))))) := by
          show World.ownsRow _ _ _ _ _ _ _
          rw [EX.out]
          exact own_below ho BX
        have B3 := hide (btr hb BX)
        clear ho hb BX DT
        go_wp2_with fail
        go_roundw
        case rel =>
          first
            | exact ⟨_, k + 1, by omega, by go_num, rfl, O3.out, B3.out⟩
            | exact ⟨k + 1, by omega, by go_num, O3.out, B3.out⟩
        case measure => simp [intOf]; omega
    · have hlt' : ¬ ((k : Int) < (l.length : Int)) := by omega
      rw [List.take_of_length_le (by omega)] at ho
      obtain ⟨oa', c', hv', _, _⟩ := owns_wat ho
      subst hv'
      have HO := hide ho
      have HB := hide hb
      clear ho hb
      go_wp2_with fail
      go_ret
      exact ⟨oa', c', rfl, HO.out, HB.out⟩
end Rp
end Go.Proofs.YtblfimobiibmjaaGreat
/- Package pipe: ready, Ready, over this seat's program. -/
namespace Go.Proofs.YtblfimobiibmjaaGreat
open Go.ChangeShapes Go.WideShapes Go.ChangeAt Go.RowKit
namespace Pi
open Ba Pe

end Pi
end Go.Proofs.YtblfimobiibmjaaGreat
/- Package pipe: Send, out, Recv, over this seat's program. -/
namespace Go.Proofs.YtblfimobiibmjaaGreat
open Go.ChangeShapes Go.WideShapes Go.ChangeAt Go.RowKit
namespace Pi
open Ba Pe

theorem got_set {w : World} {b : Nat} {x0 x1 x2 x3 x4 x5 x6 : Value} {t : TypeId} (h : w.heap[b]? = some (.cells #[x0, x1, x2, x3, x4, x5, x6] t (0, 0))) (u0 u1 u2 u3 u4 u5 u6 : Value) : (((((((w.setCell ⟨b, 0, none⟩ u0).setCell ⟨b, 1, none⟩ u1).setCell ⟨b, 2, none⟩ u2).setCell ⟨b, 3, none⟩ u3).setCell ⟨b, 4, none⟩ u4).setCell ⟨b, 5, none⟩ u5).setCell ⟨b, 6, none⟩ u6).heap[b]? = some (.cells #[u0, u1, u2, u3, u4, u5, u6] t (0, 0)) := by
  rw [Ba.heap_setCell_same (Ba.heap_setCell_same (Ba.heap_setCell_same (Ba.heap_setCell_same (Ba.heap_setCell_same (Ba.heap_setCell_same (Ba.heap_setCell_same h u0) u1) u2) u3) u4) u5) u6]
  rfl
end Pi
end Go.Proofs.YtblfimobiibmjaaGreat
/- The reference's channel: Send, over this seat's program. -/
namespace Go.Proofs.YtblfimobiibmjaaGreat
open Go.ChangeShapes Go.WideShapes Go.ChangeAt Go.RowKit
namespace Rp
open Ba Pe _root_.Go.Proofs.YtblfimobiibmjaaGreat.Pi

theorem size_rgot : (Tryz.prog.info? 237).map (·.size) = some 7 := by kernel_rfl
theorem loadVar_rgot {w : World} {b : Nat} {c : Array Value} {t : TypeId} (h : w.heap[b]? = some (.cells c t (0, 0))) (hc : c.size = 7) : (loadVar 237 ⟨b, 0, none⟩).run Tryz.prog w = .ok (.agg c) w :=
  run_loadVar_row w b t _ _ _ _ h Tryz.underlying237 rfl (by rw [size_rgot, hc])
/-- the result's cells, a new block, are laid last -/
theorem rfin7 {w A : World} {G Z : Nat} {F F' : Nat → Prop} {st : St} (k : KF F w A) (i : Nw F' F w) (p : Rr A G F' st) (hz : w.heap.size ≤ Z) (hn : ¬ F' Z) (u0 u1 u2 u3 u4 u5 u6 : Value) :
    KF F w (((((((A.setCell ⟨Z, 0, none⟩ u0).setCell ⟨Z, 1, none⟩ u1).setCell ⟨Z, 2, none⟩ u2).setCell ⟨Z, 3, none⟩ u3).setCell ⟨Z, 4, none⟩ u4).setCell ⟨Z, 5, none⟩ u5).setCell ⟨Z, 6, none⟩ u6) ∧ ∃ F', Nw F' F w ∧ Rr (((((((A.setCell ⟨Z, 0, none⟩ u0).setCell ⟨Z, 1, none⟩ u1).setCell ⟨Z, 2, none⟩ u2).setCell ⟨Z, 3, none⟩ u3).setCell ⟨Z, 4, none⟩ u4).setCell ⟨Z, 5, none⟩ u5).setCell ⟨Z, 6, none⟩ u6) G F' st := by
  have K := (((((((KB.refl Z A).setCell 0 u0).setCell 1 u1).setCell 2 u2).setCell 3 u3).setCell 4 u4).setCell 5 u5).setCell 6 u6
  exact ⟨((((((k.setNew hz 0 u0).setNew hz 1 u1).setNew hz 2 u2).setNew hz 3 u3).setNew hz 4 u4).setNew hz 5 u5).setNew hz 6 u6, F', i, p.sm fun x hx => K.block x (p.bd x hx) (fun e => hn (e ▸ hx))⟩
set_option maxHeartbeats 3200000 in
theorem rsend_closed (G : Nat) (F : Nat → Prop) (st : St) (x : Int) (w : World) (h : Rr w G F st) (hc : st.closed = true) :
    Calls Tryz.prog 179 #[.pointer (some ⟨G, 0, none⟩), .int .i64 x] w fun r w' => r = .returned (.tuple #[gv gz, .int .i64 90]) ∧ KF F w w' ∧ ∃ F', Nw F' F w ∧ Rr w' G F' st := by
  have hG := h.lt
  have P1 := hide (h.below (below_alloc w (.cells #[.bool false, .bool false, .bool false, .int .i64 0, .int .i64 0, .int .i64 0, .int .i64 0] 237)))
  have Z1 := hide (heap_new w (.cells #[.bool false, .bool false, .bool false, .int .i64 0, .int .i64 0, .int .i64 0, .int .i64 0] 237))
  have NF : Hid (¬ F w.heap.size) := fun e => Nat.lt_irrefl _ (h.bd _ e)
  have y4 : (w.alloc (.cells #[.bool false, .bool false, .bool false, .int .i64 0, .int .i64 0, .int .i64 0, .int .i64 0] 237)).cell? ⟨G, 4, none⟩ = some (.bool true) := by
    obtain ⟨vL, vS, vQ, h'⟩ := P1.out
    have := cell_of h'.hp 4
    rw [hc] at this
    exact this
  clear h hc
  go_enter Tryz.func179, Tryz.ntmps179
  go_wp2_with fail
  first
    | exact bodyPost_ret (results_row2 Tryz.results179 _ _ _ _ _ rfl rfl (loadVar_rgot Z1.out rfl)) rfl ⟨rfl, KF.of (below_alloc _ _), F, Nw.refl _ _, P1.out⟩
    | exact bodyPost_ret (results_row2 Tryz.results179 _ _ _ _ _ rfl rfl (loadVar_rgot (got_set Z1.out _ _ _ _ _ _ _) rfl)) rfl ⟨rfl, rfin7 (KF.of (below_alloc _ _)) (Nw.refl _ _) P1.out (Nat.le_refl _) NF.out _ _ _ _ _ _ _⟩
set_option maxRecDepth 100000 in
set_option maxHeartbeats 3200000 in
theorem rsend_woke (G : Nat) (F : Nat → Prop) (st : St) (x : Int) (y : Wt) (t : List Wt) (w : World) (h : Rr w G F st) (hc : st.closed = false) (hr : st.rcv = y :: t) (hs : st.sent < 1000000000) (hg : st.got < 1000000000) :
    Calls Tryz.prog 179 #[.pointer (some ⟨G, 0, none⟩), .int .i64 x] w fun r w' => r = .returned (.tuple #[gv ⟨true, false, true, 0, y⟩, .int .i64 0]) ∧ KF F w w' ∧ ∃ F', Nw F' F w ∧ Rr w' G F' { st with rcv := t, sent := st.sent + 1, got := st.got + 1 } := by
  have hG := h.lt
  have NF : Hid (¬ F w.heap.size) := fun e => Nat.lt_irrefl _ (h.bd _ e)
  obtain ⟨vL, vS, vQ, h⟩ := h
  have FG := hide h.fg
  have BDF := hide h.bd
  have b1 := below_alloc w (.cells #[.bool false, .bool false, .bool false, .int .i64 0, .int .i64 0, .int .i64 0, .int .i64 0] 237)
  have b2 := below_alloc (w.alloc (.cells #[.bool false, .bool false, .bool false, .int .i64 0, .int .i64 0, .int .i64 0, .int .i64 0] 237)) (.cells #[.int .i64 y.g, .int .i64 y.c, .int .i64 y.v] 207)
  have P1 := hide (h.below b1)
  have P2 := hide (h.below (btr b1 b2))
  have Z2 := hide (heap_below (heap_new w (.cells #[.bool false, .bool false, .bool false, .int .i64 0, .int .i64 0, .int .i64 0, .int .i64 0] 237)) b2)
  have BB := hide (btr b1 b2)
  have hm2 := heap_new (w.alloc (.cells #[.bool false, .bool false, .bool false, .int .i64 0, .int .i64 0, .int .i64 0, .int .i64 0] 237)) (.cells #[.int .i64 y.g, .int .i64 y.c, .int .i64 y.v] 207)
  rw [World.size_alloc] at hm2
  have M2 := hide hm2
  obtain ⟨oq, cq, eq1, hAQ, hcq, _⟩ := owns_wat P1.out.rq
  subst eq1
  have hle := h.leq
  rw [hr] at hAQ hcq hle
  rw [List.length_cons] at hcq hle
  have y4 : (w.alloc (.cells #[.bool false, .bool false, .bool false, .int .i64 0, .int .i64 0, .int .i64 0, .int .i64 0] 237)).cell? ⟨G, 4, none⟩ = some (.bool false) := (cell_of P1.out.hp 4).trans (by rw [hc]; rfl)
  have y3 : (w.alloc (.cells #[.bool false, .bool false, .bool false, .int .i64 0, .int .i64 0, .int .i64 0, .int .i64 0] 237)).cell? ⟨G, 3, none⟩ = some (.slice oq (t.length + 1) cq) := (cell_of P1.out.hp 3).trans (by rw [hr]; rfl)
  have y3' : ((w.alloc (.cells #[.bool false, .bool false, .bool false, .int .i64 0, .int .i64 0, .int .i64 0, .int .i64 0] 237)).alloc (.cells #[.int .i64 y.g, .int .i64 y.c, .int .i64 y.v] 207)).cell? ⟨G, 3, none⟩ = some (.slice oq (t.length + 1) cq) := (cell_of P2.out.hp 3).trans (by rw [hr]; rfl)
  obtain ⟨b, off, rfl, q0, q1, q2⟩ := hAQ 0 y rfl
  rw [Nat.zero_mul, Nat.add_zero] at q0 q1 q2
  have BE := hide (rbehind_any _ y t cq _ (hAQ.below b2) hcq (by omega))
  have hpos : decide (0 < ((t.length : Int) + 1)) = true := decide_eq_true (by omega)
  have hS2 : ((w.alloc (.cells #[.bool false, .bool false, .bool false, .int .i64 0, .int .i64 0, .int .i64 0, .int .i64 0] 237)).alloc (.cells #[.int .i64 y.g, .int .i64 y.c, .int .i64 y.v] 207)).heap.size = w.heap.size + 2 := by rw [World.size_alloc, World.size_alloc]
  clear h hc hr hAQ b1 b2 hm2
  unfold gv
  go_enter Tryz.func179, Tryz.ntmps179
  go_wp2_with fail
  generalize (w.alloc (.cells #[.bool false, .bool false, .bool false, .int .i64 0, .int .i64 0, .int .i64 0, .int .i64 0] 237)).alloc (.cells #[.int .i64 y.g, .int .i64 y.c, .int .i64 y.v] 207) = W2 at P2 Z2 BB M2 BE hS2 y3' ⊢
  refine BE.out.mono ?_
  rintro r w3 ⟨ob, d, rfl, o3, b3⟩
  have P3 := hide (P2.out.below b3)
  have Z3 := hide (heap_below Z2.out b3)
  have M3 := hide (heap_below M2.out b3)
  have B3 := hide (btr BB.out b3)
  have O3 := hide o3
  have hM1 : w.heap.size + 1 ≠ G := by omega
  have hM3 : G ≠ w.heap.size := by omega
  clear o3 b3 BE BB Z2 M2 P2 P1 y3 y3' y4 q0 q1 q2
  have m0 : w3.cell? ⟨w.heap.size + 1, 0, none⟩ = some (.int .i64 y.g) := cell_of M3.out 0
  have m1 : w3.cell? ⟨w.heap.size + 1, 1, none⟩ = some (.int .i64 y.c) := cell_of M3.out 1
  have m2 : w3.cell? ⟨w.heap.size + 1, 2, none⟩ = some (.int .i64 y.v) := cell_of M3.out 2
  have g3 : w3.cell? ⟨G, 3, none⟩ = some (.slice (some ⟨b, off, none⟩) st.rcv.length cq) := cell_of P3.out.hp 3
  have g5 : w3.cell? ⟨G, 5, none⟩ = some (.int .i64 (st.sent : Int)) := cell_of P3.out.hp 5
  have g6 : w3.cell? ⟨G, 6, none⟩ = some (.int .i64 (st.got : Int)) := cell_of P3.out.hp 6
  have gf3 := frozen_of P3.out.hp 3
  have gf5 := frozen_of P3.out.hp 5
  have gf6 := frozen_of P3.out.hp 6
  have z0 : w3.cell? ⟨w.heap.size, 0, none⟩ = some (.bool false) := cell_of Z3.out 0
  have zf0 := frozen_of Z3.out 0
  have z1 : w3.cell? ⟨w.heap.size, 1, none⟩ = some (.bool false) := cell_of Z3.out 1
  have zf1 := frozen_of Z3.out 1
  have z2 : w3.cell? ⟨w.heap.size, 2, none⟩ = some (.bool false) := cell_of Z3.out 2
  have zf2 := frozen_of Z3.out 2
  have z3 : w3.cell? ⟨w.heap.size, 3, none⟩ = some (.int .i64 0) := cell_of Z3.out 3
  have zf3 := frozen_of Z3.out 3
  have z4 : w3.cell? ⟨w.heap.size, 4, none⟩ = some (.int .i64 0) := cell_of Z3.out 4
  have zf4 := frozen_of Z3.out 4
  have z5 : w3.cell? ⟨w.heap.size, 5, none⟩ = some (.int .i64 0) := cell_of Z3.out 5
  have zf5 := frozen_of Z3.out 5
  have z6 : w3.cell? ⟨w.heap.size, 6, none⟩ = some (.int .i64 0) := cell_of Z3.out 6
  have zf6 := frozen_of Z3.out 6
  go_wp2_with fail
  have R1 := ((P3.out.newQ O3.out (fun k hk => by have := BDF.out k hk; omega) (by omega)).setSent (st.sent + 1) ((st.sent : Int) + 1) (by omega)).setGot (st.got + 1) ((st.got : Int) + 1) (by omega)
  have NN : Nw (Fw F (.slice ob t.length d)) F w := Fw.nw O3.out (by omega)
  have NZ : ¬ Fw F (.slice ob t.length d) w.heap.size := by
    rintro (q | q)
    · exact NF.out q
    · have := (own_blk O3.out _ q).1
      omega
  exact bodyPost_ret (results_row2 Tryz.results179 _ _ _ _ _ rfl rfl (loadVar_rgot (got_set ((Below.heap_setCell _ _ _ _ (Ne.symm hM3)).trans ((Below.heap_setCell _ _ _ _ (Ne.symm hM3)).trans ((Below.heap_setCell _ _ _ _ (Ne.symm hM3)).trans Z3.out))) _ _ _ _ _ _ _) rfl)) rfl ⟨rfl, rfin7 ((((KF.of (F := F) B3.out).set FG.out 3 _).set FG.out 5 _).set FG.out 6 _) NN R1.rr (Nat.le_refl _) NZ _ _ _ _ _ _ _⟩
end Rp
end Go.Proofs.YtblfimobiibmjaaGreat
/- Package pipe: Send, over this seat's program. -/
namespace Go.Proofs.YtblfimobiibmjaaGreat
open Go.ChangeShapes Go.WideShapes Go.ChangeAt Go.RowKit
namespace Pi
open Ba Pe

end Pi
end Go.Proofs.YtblfimobiibmjaaGreat
/- Package pipe: out, over this seat's program. -/
namespace Go.Proofs.YtblfimobiibmjaaGreat
open Go.ChangeShapes Go.WideShapes Go.ChangeAt Go.RowKit
namespace Pi
open Ba Pe

end Pi
end Go.Proofs.YtblfimobiibmjaaGreat
/- Package pipe: Recv, over this seat's program. -/
namespace Go.Proofs.YtblfimobiibmjaaGreat
open Go.ChangeShapes Go.WideShapes Go.ChangeAt Go.RowKit
namespace Pi
open Ba Pe

theorem results_row1 {fn : Func} {p : Tmp} {ty : TypeId} (h : fn.results = #[.cell p ty]) (tmps : Array Value) (w : World) (g : Nat) (cs : Array Value)
    (hp : tmps.getD p undef = .pointer (some ⟨g, 0, none⟩)) (hl : (loadVar ty ⟨g, 0, none⟩).run Tryz.prog w = .ok (.agg cs) w) :
    (results fn tmps).run Tryz.prog w = .ok (.agg cs) w := by
  have hp' : tmps[p]?.getD undef = .pointer (some ⟨g, 0, none⟩) := by simpa using hp
  simp [results, h, hp', asAddr, hl]
end Pi
end Go.Proofs.YtblfimobiibmjaaGreat
/- The reference's channel: Recv where no value is in the buffer, over this seat's program. -/
namespace Go.Proofs.YtblfimobiibmjaaGreat
open Go.ChangeShapes Go.WideShapes Go.ChangeAt Go.RowKit
namespace Rp
open Ba Pe _root_.Go.Proofs.YtblfimobiibmjaaGreat.Pi

theorem size_set (w : World) (a : Addr) (v : Value) : (w.setCell a v).heap.size = w.heap.size := by simp [World.setCell]
theorem own_wat {w : World} {base : Nat} {oa : Option Addr} {n c : Nat} {l : List Wt} (h : w.ownsRow base 207 3 (.slice oa n c) l.length (wc l)) : WAt w oa l := by
  obtain ⟨ob, d, e, hA, _⟩ := owns_wat h
  cases e
  exact hA
set_option maxRecDepth 100000 in
set_option maxHeartbeats 3200000 in
theorem rrecv_none (G : Nat) (F : Nat → Prop) (st : St) (w : World) (h : Rr w G F st) (hb : st.buf = []) (hr : st.snd = []) :
    Calls Tryz.prog 180 #[.pointer (some ⟨G, 0, none⟩)] w fun r w' => r = .returned (gv ⟨st.closed, false, false, 0, ⟨0, 0, 0⟩⟩) ∧ KF F w w' ∧ ∃ F', Nw F' F w ∧ Rr w' G F' st := by
  have hG := h.lt
  obtain ⟨vL, vS, vQ, h⟩ := h
  obtain ⟨ol, cl, os, cs, oq, cq, ⟨rfl, _, _⟩, ⟨rfl, _, _⟩, rfl, _, _⟩ := h.read
  have y2 : w.cell? ⟨G, 2, none⟩ = some (.slice os 0 cs) := (cell_of h.hp 2).trans (by rw [hr]; rfl)
  have y1 : w.cell? ⟨G, 1, none⟩ = some (.slice ol 0 cl) := (cell_of h.hp 1).trans (by rw [hb]; rfl)
  have y4 : w.cell? ⟨G, 4, none⟩ = some (.bool st.closed) := cell_of h.hp 4
  have H := hide h
  clear h hb hr
  unfold gv
  cases hc : st.closed
  · rw [hc] at y4
    go_enter Tryz.func180, Tryz.ntmps180
    go_wp2_with fail
    exact bodyPost_ret (results_row1 Tryz.results180 _ _ _ _ rfl (loadVar_rgot (heap_below (heap_new _ _) (below_alloc _ _)) rfl)) rfl ⟨rfl, KF.of (btr (below_alloc _ _) (below_alloc _ _)), F, Nw.refl _ _, (H.out.below (btr (below_alloc _ _) (below_alloc _ _))).rr⟩
  · rw [hc] at y4
    go_enter Tryz.func180, Tryz.ntmps180
    go_wp2_with fail
    exact bodyPost_ret (results_row1 Tryz.results180 _ _ _ _ rfl (loadVar_rgot (heap_below (heap_new _ _) (below_alloc _ _)) rfl)) rfl ⟨rfl, KF.of (btr (below_alloc _ _) (below_alloc _ _)), F, Nw.refl _ _, (H.out.below (btr (below_alloc _ _) (below_alloc _ _))).rr⟩
set_option maxRecDepth 100000 in
set_option maxHeartbeats 3200000 in
theorem rrecv_snd (G : Nat) (F : Nat → Prop) (st : St) (y : Wt) (t : List Wt) (w : World) (h : Rr w G F st) (hb : st.buf = []) (hr : st.snd = y :: t) (hs : st.sent < 1000000000) (hg : st.got < 1000000000) :
    Calls Tryz.prog 180 #[.pointer (some ⟨G, 0, none⟩)] w fun r w' => r = .returned (gv ⟨true, true, true, y.v, y⟩) ∧ KF F w w' ∧ ∃ F', Nw F' F w ∧ Rr w' G F' { st with snd := t, sent := st.sent + 1, got := st.got + 1 } := by
  have hG := h.lt
  have NF : Hid (¬ F w.heap.size) := fun e => Nat.lt_irrefl _ (h.bd _ e)
  obtain ⟨vL, vS, vQ, h⟩ := h
  have FG := hide h.fg
  have BDF := hide h.bd
  obtain ⟨ol, cl, os, cs, oq, cq, ⟨rfl, _, _⟩, ⟨rfl, hAS, hcs⟩, rfl, _, _⟩ := h.read
  have b1 := below_alloc (w.setCell ⟨G, 6, none⟩ (.int .i64 ((st.got : Int) + 1))) (.cells #[.bool false, .bool false, .bool false, .int .i64 0, .int .i64 0, .int .i64 0, .int .i64 0] 237)
  have b2 := below_alloc ((w.setCell ⟨G, 6, none⟩ (.int .i64 ((st.got : Int) + 1))).alloc (.cells #[.bool false, .bool false, .bool false, .int .i64 0, .int .i64 0, .int .i64 0, .int .i64 0] 237)) (.cells #[.bool true, .bool true, .bool true, .int .i64 y.v, .int .i64 y.g, .int .i64 y.c, .int .i64 y.v] 237)
  have hM1 : w.heap.size + 1 ≠ G := by omega
  have hM3 : G ≠ w.heap.size := by omega
  have sz0 : (w.setCell ⟨G, 6, none⟩ (.int .i64 ((st.got : Int) + 1))).heap.size = w.heap.size := size_set _ _ _
  have P3 := hide ((h.setGot (st.got + 1) ((st.got : Int) + 1) (by omega)).below (btr b1 b2))
  have K3 := hide (((KF.refl F w).set FG.out 6 (.int .i64 ((st.got : Int) + 1))).then (btr b1 b2))
  have hz := heap_below (heap_new (w.setCell ⟨G, 6, none⟩ (.int .i64 ((st.got : Int) + 1))) (.cells #[.bool false, .bool false, .bool false, .int .i64 0, .int .i64 0, .int .i64 0, .int .i64 0] 237)) b2
  rw [sz0] at hz
  have Z3 := hide hz
  have hm := heap_new ((w.setCell ⟨G, 6, none⟩ (.int .i64 ((st.got : Int) + 1))).alloc (.cells #[.bool false, .bool false, .bool false, .int .i64 0, .int .i64 0, .int .i64 0, .int .i64 0] 237)) (.cells #[.bool true, .bool true, .bool true, .int .i64 y.v, .int .i64 y.g, .int .i64 y.c, .int .i64 y.v] 237)
  rw [World.size_alloc, sz0] at hm
  have M3 := hide hm
  have hle := h.les
  have A3 := hide (own_wat P3.out.rs)
  simp only at A3
  rw [hr] at hAS hcs hle A3
  rw [List.length_cons] at hcs hle
  have y2 : w.cell? ⟨G, 2, none⟩ = some (.slice os (t.length + 1) cs) := (cell_of h.hp 2).trans (by rw [hr]; rfl)
  have y2' : (((w.setCell ⟨G, 6, none⟩ (.int .i64 ((st.got : Int) + 1))).alloc (.cells #[.bool false, .bool false, .bool false, .int .i64 0, .int .i64 0, .int .i64 0, .int .i64 0] 237)).alloc (.cells #[.bool true, .bool true, .bool true, .int .i64 y.v, .int .i64 y.g, .int .i64 y.c, .int .i64 y.v] 237)).cell? ⟨G, 2, none⟩ = some (.slice os (t.length + 1) cs) := (cell_of P3.out.hp 2).trans (by rw [hr]; rfl)
  have y1 : w.cell? ⟨G, 1, none⟩ = some (.slice ol 0 cl) := (cell_of h.hp 1).trans (by rw [hb]; rfl)
  have y6 : w.cell? ⟨G, 6, none⟩ = some (.int .i64 (st.got : Int)) := cell_of h.hp 6
  have f6 := frozen_of h.hp 6
  obtain ⟨b, off, rfl, q0, q1, q2⟩ := hAS 0 y rfl
  rw [Nat.zero_mul, Nat.add_zero] at q0 q1 q2
  have hbl := World.block_lt_of_cell? w _ q0
  simp only at hbl
  have BE := hide (rbehind_any _ y t cs _ A3.out hcs (by omega))
  have hpos : decide (0 < ((t.length : Int) + 1)) = true := decide_eq_true (by omega)
  have hS3 : (((w.setCell ⟨G, 6, none⟩ (.int .i64 ((st.got : Int) + 1))).alloc (.cells #[.bool false, .bool false, .bool false, .int .i64 0, .int .i64 0, .int .i64 0, .int .i64 0] 237)).alloc (.cells #[.bool true, .bool true, .bool true, .int .i64 y.v, .int .i64 y.g, .int .i64 y.c, .int .i64 y.v] 237)).heap.size = w.heap.size + 2 := by
    rw [World.size_alloc, World.size_alloc, sz0]
  clear h hb hr hAS b1 b2 hm hz A3
  unfold gv
  go_enter Tryz.func180, Tryz.ntmps180
  go_wp2_with fail
  generalize (((w.setCell ⟨G, 6, none⟩ (.int .i64 ((st.got : Int) + 1))).alloc (.cells #[.bool false, .bool false, .bool false, .int .i64 0, .int .i64 0, .int .i64 0, .int .i64 0] 237)).alloc (.cells #[.bool true, .bool true, .bool true, .int .i64 y.v, .int .i64 y.g, .int .i64 y.c, .int .i64 y.v] 237)) = W3 at P3 K3 Z3 M3 BE hS3 y2' ⊢
  refine BE.out.mono ?_
  rintro r w4 ⟨ob, d, rfl, o4, b4⟩
  have P4 := hide (P3.out.below b4)
  have Z4 := hide (heap_below Z3.out b4)
  have M4 := hide (heap_below M3.out b4)
  have K4 := hide (K3.out.then b4)
  have O4 := hide o4
  clear o4 b4 BE K3 Z3 M3 P3 y1 y2 y2' y6 f6 q0 q1 q2
  have m0 : w4.cell? ⟨w.heap.size + 1, 0, none⟩ = some (.bool true) := cell_of M4.out 0
  have m1 : w4.cell? ⟨w.heap.size + 1, 1, none⟩ = some (.bool true) := cell_of M4.out 1
  have m2 : w4.cell? ⟨w.heap.size + 1, 2, none⟩ = some (.bool true) := cell_of M4.out 2
  have m3 : w4.cell? ⟨w.heap.size + 1, 3, none⟩ = some (.int .i64 y.v) := cell_of M4.out 3
  have m4 : w4.cell? ⟨w.heap.size + 1, 4, none⟩ = some (.int .i64 y.g) := cell_of M4.out 4
  have m5 : w4.cell? ⟨w.heap.size + 1, 5, none⟩ = some (.int .i64 y.c) := cell_of M4.out 5
  have m6 : w4.cell? ⟨w.heap.size + 1, 6, none⟩ = some (.int .i64 y.v) := cell_of M4.out 6
  have g2 : w4.cell? ⟨G, 2, none⟩ = some (.slice (some ⟨b, off, none⟩) st.snd.length cs) := cell_of P4.out.hp 2
  have g5 : w4.cell? ⟨G, 5, none⟩ = some (.int .i64 (st.sent : Int)) := cell_of P4.out.hp 5
  have gf2 := frozen_of P4.out.hp 2
  have gf5 := frozen_of P4.out.hp 5
  have z0 : w4.cell? ⟨w.heap.size, 0, none⟩ = some (.bool false) := cell_of Z4.out 0
  have zf0 := frozen_of Z4.out 0
  have z1 : w4.cell? ⟨w.heap.size, 1, none⟩ = some (.bool false) := cell_of Z4.out 1
  have zf1 := frozen_of Z4.out 1
  have z2 : w4.cell? ⟨w.heap.size, 2, none⟩ = some (.bool false) := cell_of Z4.out 2
  have zf2 := frozen_of Z4.out 2
  have z3 : w4.cell? ⟨w.heap.size, 3, none⟩ = some (.int .i64 0) := cell_of Z4.out 3
  have zf3 := frozen_of Z4.out 3
  have z4 : w4.cell? ⟨w.heap.size, 4, none⟩ = some (.int .i64 0) := cell_of Z4.out 4
  have zf4 := frozen_of Z4.out 4
  have z5 : w4.cell? ⟨w.heap.size, 5, none⟩ = some (.int .i64 0) := cell_of Z4.out 5
  have zf5 := frozen_of Z4.out 5
  have z6 : w4.cell? ⟨w.heap.size, 6, none⟩ = some (.int .i64 0) := cell_of Z4.out 6
  have zf6 := frozen_of Z4.out 6
  go_wp2_with fail
  have R1 := (P4.out.newS O4.out (fun k hk => by have := BDF.out k hk; omega) (by omega)).setSent (st.sent + 1) ((st.sent : Int) + 1) (by omega)
  have NN : Nw (Fw F (.slice ob t.length d)) F w := Fw.nw O4.out (by omega)
  have NZ : ¬ Fw F (.slice ob t.length d) w.heap.size := by
    rintro (q | q)
    · exact NF.out q
    · have := (own_blk O4.out _ q).1
      omega
  exact bodyPost_ret (results_row1 Tryz.results180 _ _ _ _ rfl (loadVar_rgot (got_set ((Below.heap_setCell _ _ _ _ (Ne.symm hM3)).trans ((Below.heap_setCell _ _ _ _ (Ne.symm hM3)).trans Z4.out)) _ _ _ _ _ _ _) rfl)) rfl ⟨rfl, rfin7 ((K4.out.set FG.out 2 _).set FG.out 5 _) NN R1.rr (Nat.le_refl _) NZ _ _ _ _ _ _ _⟩
end Rp
end Go.Proofs.YtblfimobiibmjaaGreat
/- The reference's channel: Recv where a value is in the buffer, over this seat's program. -/
namespace Go.Proofs.YtblfimobiibmjaaGreat
open Go.ChangeShapes Go.WideShapes Go.ChangeAt Go.RowKit
namespace Rp
open Ba Pe _root_.Go.Proofs.YtblfimobiibmjaaGreat.Pi

theorem tail_run {w : World} {b off c : Nat} {x : Int} {l : List Int} (hA : At w (some ⟨b, off, none⟩) (x :: l)) (hl : l.length ≤ 1024) (off' : Nat) (ho : 0 < l.length → off' = off + 1) :
    ∃ ob d W, (Builtin.append_ #[67, 67] 67 #[.slice none 0 0, .slice (some ⟨b, off', none⟩) l.length (c - 1)]).run Tryz.prog w = .ok (.slice ob l.length d) W ∧ W.ownsRow w.heap.size 3 1 (.slice ob l.length d) l.length (ic l) ∧ Below w.heap.size w W := by
  cases hi : Tryz.prog.info? 3 with
  | none => have := info_i; rw [hi] at this; cases this
  | some i0 =>
  have hx2 := info_i
  rw [hi] at hx2
  simp at hx2
  have A1 := hA.tail
  obtain ⟨v', W, hr, h2, h5, _⟩ := run_append_own (P := Tryz.prog) w w.heap.size 67 67 3 i0 (.int .i64 0) 1 8 Tryz.underlying67 hi hx2.1 hx2.2.1 hx2.2.2 rfl (by decide) (.slice none 0 0) 0 [] (World.ownsRow_nil _ _ _ _) ⟨b, off', none⟩ l.length (c - 1) (ic l) (by simp [ic]) (by
    intro j u hj
    have hjl : j < l.length := by
      have := (List.getElem?_eq_some_iff.1 hj).1
      rw [ic_len] at this
      exact this
    obtain rfl := ho (by omega)
    obtain ⟨b', o', e, hc⟩ := A1 j hjl
    simp at e
    obtain ⟨rfl, rfl⟩ := e
    rw [Addr.add_lit, hc, ← hj]
    simp [ic, nth, hjl]) (ic_one l) (by unfold maxLen; omega) (by omega) (Nat.le_refl _)
  rw [Nat.zero_add, List.nil_append] at h2
  obtain ⟨ob, d, rfl, _, _⟩ := own_at h2
  exact ⟨ob, d, W, hr, h2, (Below.refl _ _).grown h5 (Nat.le_refl _) (fun x hx => by cases hx)⟩
set_option maxRecDepth 100000 in
set_option maxHeartbeats 6400000 in
theorem rrecv_buf (G : Nat) (F : Nat → Prop) (st : St) (x : Int) (b : List Int) (w : World) (h : Rr w G F st) (hb : st.buf = x :: b) (hr : st.snd = []) (hg : st.got < 1000000000) :
    Calls Tryz.prog 180 #[.pointer (some ⟨G, 0, none⟩)] w fun r w' => r = .returned (gv ⟨true, true, false, x, ⟨0, 0, 0⟩⟩) ∧ KF F w w' ∧ ∃ F', Nw F' F w ∧ Rr w' G F' { st with buf := b, got := st.got + 1 } := by
  have hG := h.lt
  have NF : Hid (¬ F w.heap.size) := fun e => Nat.lt_irrefl _ (h.bd _ e)
  obtain ⟨vL, vS, vQ, h⟩ := h
  have FG := hide h.fg
  have BDF := hide h.bd
  obtain ⟨ol, cl, os, cs, oq, cq, ⟨rfl, hAL, hcl⟩, ⟨rfl, hAS, hcs⟩, rfl, _, _⟩ := h.read
  have hbl := h.bl
  have hsz := h.sz
  have b1 := below_alloc w (.cells #[.bool false, .bool false, .bool false, .int .i64 0, .int .i64 0, .int .i64 0, .int .i64 0] 237)
  have b2 := below_alloc (w.alloc (.cells #[.bool false, .bool false, .bool false, .int .i64 0, .int .i64 0, .int .i64 0, .int .i64 0] 237)) (.cells #[.bool true, .bool true, .bool false, .int .i64 x, .int .i64 0, .int .i64 0, .int .i64 0] 237)
  have P2 := hide (h.below (btr b1 b2))
  have BB := hide (btr b1 b2)
  have Z2 := hide (heap_below (heap_new w (.cells #[.bool false, .bool false, .bool false, .int .i64 0, .int .i64 0, .int .i64 0, .int .i64 0] 237)) b2)
  have hm := heap_new (w.alloc (.cells #[.bool false, .bool false, .bool false, .int .i64 0, .int .i64 0, .int .i64 0, .int .i64 0] 237)) (.cells #[.bool true, .bool true, .bool false, .int .i64 x, .int .i64 0, .int .i64 0, .int .i64 0] 237)
  rw [World.size_alloc] at hm
  have M2 := hide hm
  have hS2 : ((w.alloc (.cells #[.bool false, .bool false, .bool false, .int .i64 0, .int .i64 0, .int .i64 0, .int .i64 0] 237)).alloc (.cells #[.bool true, .bool true, .bool false, .int .i64 x, .int .i64 0, .int .i64 0, .int .i64 0] 237)).heap.size = w.heap.size + 2 := by rw [World.size_alloc, World.size_alloc]
  have hM1 : w.heap.size + 1 ≠ G := by omega
  have hM3 : G ≠ w.heap.size := by omega
  rw [hb] at hAL hcl hbl
  rw [List.length_cons] at hcl hbl
  obtain ⟨bb, off, rfl, hx⟩ := hAL.head
  have hbb := World.block_lt_of_cell? w _ hx
  simp only at hbb
  have y1 : w.cell? ⟨G, 1, none⟩ = some (.slice (some ⟨bb, off, none⟩) (b.length + 1) cl) := (cell_of h.hp 1).trans (by rw [hb]; rfl)
  have hposL : decide (0 < ((b.length : Int) + 1)) = true := decide_eq_true (by omega)
  have y2 : w.cell? ⟨G, 2, none⟩ = some (.slice os 0 cs) := (cell_of h.hp 2).trans (by rw [hr]; rfl)
  have TR := hide fun o ho => tail_run (w := ((w.alloc (.cells #[.bool false, .bool false, .bool false, .int .i64 0, .int .i64 0, .int .i64 0, .int .i64 0] 237)).alloc (.cells #[.bool true, .bool true, .bool false, .int .i64 x, .int .i64 0, .int .i64 0, .int .i64 0] 237))) (c := cl) (hAL.below (btr b1 b2)) (by omega) o ho
  clear h hb hr hAL b1 b2 hm
  unfold gv
  have main : ∀ (ob : Option Addr) (d : Nat) (W3 : World), W3.ownsRow (w.heap.size + 2) 3 1 (.slice ob b.length d) b.length (ic b) → Below (w.heap.size + 2) ((w.alloc (.cells #[.bool false, .bool false, .bool false, .int .i64 0, .int .i64 0, .int .i64 0, .int .i64 0] 237)).alloc (.cells #[.bool true, .bool true, .bool false, .int .i64 x, .int .i64 0, .int .i64 0, .int .i64 0] 237)) W3 → RO W3 G F (.slice (some ⟨bb, off, none⟩) st.buf.length cl) (.slice os st.snd.length cs) (.slice oq st.rcv.length cq) st ∧ W3.heap[w.heap.size]? = some (.cells #[.bool false, .bool false, .bool false, .int .i64 0, .int .i64 0, .int .i64 0, .int .i64 0] 237) ∧ W3.heap[w.heap.size + 1]? = some (.cells #[.bool true, .bool true, .bool false, .int .i64 x, .int .i64 0, .int .i64 0, .int .i64 0] 237) ∧ KF F w W3 := by
    intro ob d W3 _ hb3
    rw [← hS2] at hb3
    exact ⟨P2.out.below hb3, heap_below Z2.out hb3, heap_below M2.out hb3, KF.of (btr BB.out hb3)⟩
  have MAIN := hide main
  clear main
  by_cases hc1 : cl = 1
  · obtain rfl := hc1
    obtain rfl : b = [] := List.eq_nil_of_length_eq_zero (by omega)
    obtain ⟨ob, d, W3, hr3, ho3, hb3⟩ := TR.out off (fun h => by simp at h)
    have HR : Hid ((Builtin.append_ #[67, 67] 67 #[.slice none 0 0, .slice (some ⟨bb, off, none⟩) 0 0]).run Tryz.prog ((w.alloc (.cells #[.bool false, .bool false, .bool false, .int .i64 0, .int .i64 0, .int .i64 0, .int .i64 0] 237)).alloc (.cells #[.bool true, .bool true, .bool false, .int .i64 x, .int .i64 0, .int .i64 0, .int .i64 0] 237)) = .ok (.slice ob 0 d) W3) := hr3
    rw [hS2] at ho3 hb3
    obtain ⟨p3, z3, m3, k3⟩ := MAIN.out ob d W3 ho3 hb3
    have P3 := hide p3
    have Z3 := hide z3
    have M3 := hide m3
    have K3 := hide k3
    have O3 := hide ho3
    have SZ3 := hb3.size
    rw [hS2] at SZ3
    clear hr3 ho3 hb3 p3 z3 m3 k3 TR MAIN P2 BB Z2 M2
    have g1 : W3.cell? ⟨G, 1, none⟩ = some (.slice (some ⟨bb, off, none⟩) st.buf.length 1) := cell_of P3.out.hp 1
    have g6 : W3.cell? ⟨G, 6, none⟩ = some (.int .i64 (st.got : Int)) := cell_of P3.out.hp 6
    have gf1 := frozen_of P3.out.hp 1
    have gf6 := frozen_of P3.out.hp 6
    have z0 : W3.cell? ⟨w.heap.size, 0, none⟩ = some (.bool false) := cell_of Z3.out 0
    have zf0 := frozen_of Z3.out 0
    have z1 : W3.cell? ⟨w.heap.size, 1, none⟩ = some (.bool false) := cell_of Z3.out 1
    have zf1 := frozen_of Z3.out 1
    have z2 : W3.cell? ⟨w.heap.size, 2, none⟩ = some (.bool false) := cell_of Z3.out 2
    have zf2 := frozen_of Z3.out 2
    have z3 : W3.cell? ⟨w.heap.size, 3, none⟩ = some (.int .i64 0) := cell_of Z3.out 3
    have zf3 := frozen_of Z3.out 3
    have z4 : W3.cell? ⟨w.heap.size, 4, none⟩ = some (.int .i64 0) := cell_of Z3.out 4
    have zf4 := frozen_of Z3.out 4
    have z5 : W3.cell? ⟨w.heap.size, 5, none⟩ = some (.int .i64 0) := cell_of Z3.out 5
    have zf5 := frozen_of Z3.out 5
    have z6 : W3.cell? ⟨w.heap.size, 6, none⟩ = some (.int .i64 0) := cell_of Z3.out 6
    have zf6 := frozen_of Z3.out 6
    have m0 : W3.cell? ⟨w.heap.size + 1, 0, none⟩ = some (.bool true) := cell_of M3.out 0
    have m1 : W3.cell? ⟨w.heap.size + 1, 1, none⟩ = some (.bool true) := cell_of M3.out 1
    have m2 : W3.cell? ⟨w.heap.size + 1, 2, none⟩ = some (.bool false) := cell_of M3.out 2
    have m3 : W3.cell? ⟨w.heap.size + 1, 3, none⟩ = some (.int .i64 x) := cell_of M3.out 3
    have m4 : W3.cell? ⟨w.heap.size + 1, 4, none⟩ = some (.int .i64 0) := cell_of M3.out 4
    have m5 : W3.cell? ⟨w.heap.size + 1, 5, none⟩ = some (.int .i64 0) := cell_of M3.out 5
    have m6 : W3.cell? ⟨w.heap.size + 1, 6, none⟩ = some (.int .i64 0) := cell_of M3.out 6
    go_enter Tryz.func180, Tryz.ntmps180
    go_wp2_with (at_builtin; refine Lib.wpList_append_run _ rfl _ _ 67 67 rfl _ _ rfl rfl _ _ HR.out ?_)
    have R1 := (P3.out.newL O3.out (by simp)).setGot (st.got + 1) ((st.got : Int) + 1) (by omega)
    have NN : Nw (Fw F (.slice ob 0 d)) F w := Fw.nw O3.out (by omega)
    have NZ : ¬ Fw F (.slice ob 0 d) w.heap.size := by
      rintro (q | q)
      · exact NF.out q
      · have := (own_blk O3.out _ q).1
        omega
    exact bodyPost_ret (results_row1 Tryz.results180 _ _ _ _ rfl (loadVar_rgot (got_set ((Below.heap_setCell _ _ _ _ (Ne.symm hM3)).trans ((Below.heap_setCell _ _ _ _ (Ne.symm hM3)).trans Z3.out)) _ _ _ _ _ _ _) rfl)) rfl ⟨rfl, rfin7 ((K3.out.set FG.out 1 _).set FG.out 6 _) NN R1.rr (Nat.le_refl _) NZ _ _ _ _ _ _ _⟩
  · obtain ⟨ob, d, W3, hr3, ho3, hb3⟩ := TR.out (off + 1) (fun _ => rfl)
    have HR := hide hr3
    rw [hS2] at ho3 hb3
    obtain ⟨p3, z3, m3, k3⟩ := MAIN.out ob d W3 ho3 hb3
    have P3 := hide p3
    have Z3 := hide z3
    have M3 := hide m3
    have K3 := hide k3
    have O3 := hide ho3
    have SZ3 := hb3.size
    rw [hS2] at SZ3
    clear hr3 ho3 hb3 p3 z3 m3 k3 TR MAIN P2 BB Z2 M2
    have g1 : W3.cell? ⟨G, 1, none⟩ = some (.slice (some ⟨bb, off, none⟩) st.buf.length cl) := cell_of P3.out.hp 1
    have g6 : W3.cell? ⟨G, 6, none⟩ = some (.int .i64 (st.got : Int)) := cell_of P3.out.hp 6
    have gf1 := frozen_of P3.out.hp 1
    have gf6 := frozen_of P3.out.hp 6
    have z0 : W3.cell? ⟨w.heap.size, 0, none⟩ = some (.bool false) := cell_of Z3.out 0
    have zf0 := frozen_of Z3.out 0
    have z1 : W3.cell? ⟨w.heap.size, 1, none⟩ = some (.bool false) := cell_of Z3.out 1
    have zf1 := frozen_of Z3.out 1
    have z2 : W3.cell? ⟨w.heap.size, 2, none⟩ = some (.bool false) := cell_of Z3.out 2
    have zf2 := frozen_of Z3.out 2
    have z3 : W3.cell? ⟨w.heap.size, 3, none⟩ = some (.int .i64 0) := cell_of Z3.out 3
    have zf3 := frozen_of Z3.out 3
    have z4 : W3.cell? ⟨w.heap.size, 4, none⟩ = some (.int .i64 0) := cell_of Z3.out 4
    have zf4 := frozen_of Z3.out 4
    have z5 : W3.cell? ⟨w.heap.size, 5, none⟩ = some (.int .i64 0) := cell_of Z3.out 5
    have zf5 := frozen_of Z3.out 5
    have z6 : W3.cell? ⟨w.heap.size, 6, none⟩ = some (.int .i64 0) := cell_of Z3.out 6
    have zf6 := frozen_of Z3.out 6
    have m0 : W3.cell? ⟨w.heap.size + 1, 0, none⟩ = some (.bool true) := cell_of M3.out 0
    have m1 : W3.cell? ⟨w.heap.size + 1, 1, none⟩ = some (.bool true) := cell_of M3.out 1
    have m2 : W3.cell? ⟨w.heap.size + 1, 2, none⟩ = some (.bool false) := cell_of M3.out 2
    have m3 : W3.cell? ⟨w.heap.size + 1, 3, none⟩ = some (.int .i64 x) := cell_of M3.out 3
    have m4 : W3.cell? ⟨w.heap.size + 1, 4, none⟩ = some (.int .i64 0) := cell_of M3.out 4
    have m5 : W3.cell? ⟨w.heap.size + 1, 5, none⟩ = some (.int .i64 0) := cell_of M3.out 5
    have m6 : W3.cell? ⟨w.heap.size + 1, 6, none⟩ = some (.int .i64 0) := cell_of M3.out 6
    go_enter Tryz.func180, Tryz.ntmps180
    go_wp2_with (at_builtin; refine Lib.wpList_append_run _ rfl _ _ 67 67 rfl _ _ rfl rfl _ _ HR.out ?_)
    have R1 := (P3.out.newL O3.out (by omega)).setGot (st.got + 1) ((st.got : Int) + 1) (by omega)
    have NN : Nw (Fw F (.slice ob b.length d)) F w := Fw.nw O3.out (by omega)
    have NZ : ¬ Fw F (.slice ob b.length d) w.heap.size := by
      rintro (q | q)
      · exact NF.out q
      · have := (own_blk O3.out _ q).1
        omega
    exact bodyPost_ret (results_row1 Tryz.results180 _ _ _ _ rfl (loadVar_rgot (got_set ((Below.heap_setCell _ _ _ _ (Ne.symm hM3)).trans ((Below.heap_setCell _ _ _ _ (Ne.symm hM3)).trans Z3.out)) _ _ _ _ _ _ _) rfl)) rfl ⟨rfl, rfin7 ((K3.out.set FG.out 1 _).set FG.out 6 _) NN R1.rr (Nat.le_refl _) NZ _ _ _ _ _ _ _⟩
end Rp
end Go.Proofs.YtblfimobiibmjaaGreat
/- The reference's channel: Recv where a value is in the buffer and a sender waits, over this seat's program. -/
namespace Go.Proofs.YtblfimobiibmjaaGreat
open Go.ChangeShapes Go.WideShapes Go.ChangeAt Go.RowKit
namespace Rp
open Ba Pe _root_.Go.Proofs.YtblfimobiibmjaaGreat.Pi

set_option maxRecDepth 100000 in
set_option maxHeartbeats 6400000 in
theorem rrecv_both (G : Nat) (F : Nat → Prop) (st : St) (x : Int) (b : List Int) (y : Wt) (t : List Wt) (w : World) (h : Rr w G F st) (hb : st.buf = x :: b) (hr : st.snd = y :: t) (hs : st.sent < 1000000000) (hg : st.got < 1000000000) :
    Calls Tryz.prog 180 #[.pointer (some ⟨G, 0, none⟩)] w fun r w' => r = .returned (gv ⟨true, true, true, x, y⟩) ∧ KF F w w' ∧ ∃ F', Nw F' F w ∧ Rr w' G F' { st with buf := b ++ [y.v], snd := t, sent := st.sent + 1, got := st.got + 1 } := by
  have hG := h.lt
  have NF : Hid (¬ F w.heap.size) := fun e => Nat.lt_irrefl _ (h.bd _ e)
  obtain ⟨vL, vS, vQ, h⟩ := h
  have FG := hide h.fg
  have BDF := hide h.bd
  obtain ⟨ol, cl, os, cs, oq, cq, ⟨rfl, hAL, hcl⟩, ⟨rfl, hAS, hcs⟩, rfl, _, _⟩ := h.read
  have hbl := h.bl
  have hsz := h.sz
  have b1 := below_alloc w (.cells #[.bool false, .bool false, .bool false, .int .i64 0, .int .i64 0, .int .i64 0, .int .i64 0] 237)
  have b2 := below_alloc (w.alloc (.cells #[.bool false, .bool false, .bool false, .int .i64 0, .int .i64 0, .int .i64 0, .int .i64 0] 237)) (.cells #[.bool true, .bool true, .bool true, .int .i64 x, .int .i64 y.g, .int .i64 y.c, .int .i64 y.v] 237)
  have P2 := hide (h.below (btr b1 b2))
  have BB := hide (btr b1 b2)
  have Z2 := hide (heap_below (heap_new w (.cells #[.bool false, .bool false, .bool false, .int .i64 0, .int .i64 0, .int .i64 0, .int .i64 0] 237)) b2)
  have hm := heap_new (w.alloc (.cells #[.bool false, .bool false, .bool false, .int .i64 0, .int .i64 0, .int .i64 0, .int .i64 0] 237)) (.cells #[.bool true, .bool true, .bool true, .int .i64 x, .int .i64 y.g, .int .i64 y.c, .int .i64 y.v] 237)
  rw [World.size_alloc] at hm
  have M2 := hide hm
  have hS2 : ((w.alloc (.cells #[.bool false, .bool false, .bool false, .int .i64 0, .int .i64 0, .int .i64 0, .int .i64 0] 237)).alloc (.cells #[.bool true, .bool true, .bool true, .int .i64 x, .int .i64 y.g, .int .i64 y.c, .int .i64 y.v] 237)).heap.size = w.heap.size + 2 := by rw [World.size_alloc, World.size_alloc]
  have hM1 : w.heap.size + 1 ≠ G := by omega
  have hM3 : G ≠ w.heap.size := by omega
  rw [hb] at hAL hcl hbl
  rw [List.length_cons] at hcl hbl
  obtain ⟨bb, off, rfl, hx⟩ := hAL.head
  have hbb := World.block_lt_of_cell? w _ hx
  simp only at hbb
  have y1 : w.cell? ⟨G, 1, none⟩ = some (.slice (some ⟨bb, off, none⟩) (b.length + 1) cl) := (cell_of h.hp 1).trans (by rw [hb]; rfl)
  have hposL : decide (0 < ((b.length : Int) + 1)) = true := decide_eq_true (by omega)
  have hle := h.les
  rw [hr] at hAS hcs hle
  rw [List.length_cons] at hcs hle
  have y2 : w.cell? ⟨G, 2, none⟩ = some (.slice os (t.length + 1) cs) := (cell_of h.hp 2).trans (by rw [hr]; rfl)
  obtain ⟨b', off2, rfl, q0, q1, q2⟩ := hAS 0 y rfl
  rw [Nat.zero_mul, Nat.add_zero] at q0 q1 q2
  have hbl2 := World.block_lt_of_cell? w _ q0
  simp only at hbl2
  have hpos : decide (0 < ((t.length : Int) + 1)) = true := decide_eq_true (by omega)
  have HSR := hide hr
  cases hi : Tryz.prog.info? 3 with
  | none => have := info_i; rw [hi] at this; cases this
  | some i0 =>
  have hx2 := info_i
  rw [hi] at hx2
  simp at hx2
  have INF := hide (And.intro hi hx2)
  clear hx2 hi
  have TR := hide fun o ho => tail_run (w := ((w.alloc (.cells #[.bool false, .bool false, .bool false, .int .i64 0, .int .i64 0, .int .i64 0, .int .i64 0] 237)).alloc (.cells #[.bool true, .bool true, .bool true, .int .i64 x, .int .i64 y.g, .int .i64 y.c, .int .i64 y.v] 237))) (c := cl) (hAL.below (btr b1 b2)) (by omega) o ho
  clear h hb hr hAL hAS b1 b2 hm
  unfold gv
  have main : ∀ (ob : Option Addr) (d : Nat) (W3 : World), W3.ownsRow (w.heap.size + 2) 3 1 (.slice ob b.length d) b.length (ic b) → Below (w.heap.size + 2) ((w.alloc (.cells #[.bool false, .bool false, .bool false, .int .i64 0, .int .i64 0, .int .i64 0, .int .i64 0] 237)).alloc (.cells #[.bool true, .bool true, .bool true, .int .i64 x, .int .i64 y.g, .int .i64 y.c, .int .i64 y.v] 237)) W3 → RO W3 G F (.slice (some ⟨bb, off, none⟩) st.buf.length cl) (.slice (some ⟨b', off2, none⟩) st.snd.length cs) (.slice oq st.rcv.length cq) st ∧ W3.heap[w.heap.size]? = some (.cells #[.bool false, .bool false, .bool false, .int .i64 0, .int .i64 0, .int .i64 0, .int .i64 0] 237) ∧ W3.heap[w.heap.size + 1]? = some (.cells #[.bool true, .bool true, .bool true, .int .i64 x, .int .i64 y.g, .int .i64 y.c, .int .i64 y.v] 237) ∧ KF F w W3 := by
    intro ob d W3 _ hb3
    rw [← hS2] at hb3
    exact ⟨P2.out.below hb3, heap_below Z2.out hb3, heap_below M2.out hb3, KF.of (btr BB.out hb3)⟩
  have MAIN := hide main
  clear main
  by_cases hc1 : cl = 1
  · obtain rfl := hc1
    obtain rfl : b = [] := List.eq_nil_of_length_eq_zero (by omega)
    obtain ⟨ob, d, W3, hr3, ho3, hb3⟩ := TR.out off (fun h => by simp at h)
    have HR : Hid ((Builtin.append_ #[67, 67] 67 #[.slice none 0 0, .slice (some ⟨bb, off, none⟩) 0 0]).run Tryz.prog ((w.alloc (.cells #[.bool false, .bool false, .bool false, .int .i64 0, .int .i64 0, .int .i64 0, .int .i64 0] 237)).alloc (.cells #[.bool true, .bool true, .bool true, .int .i64 x, .int .i64 y.g, .int .i64 y.c, .int .i64 y.v] 237)) = .ok (.slice ob 0 d) W3) := hr3
    rw [hS2] at ho3 hb3
    obtain ⟨p3, z3, m3, k3⟩ := MAIN.out ob d W3 ho3 hb3
    have P3 := hide p3
    have Z3 := hide z3
    have M3 := hide m3
    have K3 := hide k3
    have O3 := hide ho3
    have SZ3 := hb3.size
    rw [hS2] at SZ3
    clear hr3 ho3 hb3 p3 z3 m3 k3 TR MAIN P2 BB Z2 M2
    have n2 : W3.cell? ⟨w.heap.size + 1, 2, none⟩ = some (.bool true) := cell_of M3.out 2
    have n6 : W3.cell? ⟨w.heap.size + 1, 6, none⟩ = some (.int .i64 y.v) := cell_of M3.out 6
    have hn1 : w.heap.size + 1 < W3.heap.size := by omega
    have BX := below_alloc W3 (.cells #[.int .i64 y.v] 3)
    have OW := hide (own_below O3.out BX)
    have SRC := hide (cell_one_new W3 (.int .i64 y.v) 3)
    have P4 := hide (P3.out.below BX)
    have Z4 := hide (heap_below Z3.out BX)
    have M4 := hide (heap_below M3.out BX)
    have K4 := hide (K3.out.then BX)
    have SX : (W3.alloc (.cells #[.int .i64 y.v] 3)).heap.size = W3.heap.size + 1 := World.size_alloc _ _
    clear BX
    go_enter Tryz.func180, Tryz.ntmps180
    go_wp2_with (first | (at_builtin; refine Lib.wpList_append_run _ rfl _ _ 67 67 rfl _ _ rfl rfl _ _ HR.out ?_) | (at_builtin; refine wpList_append_own _ rfl _ _ 67 rfl (w.heap.size + 2) 3 i0 (.int .i64 0) 1 8 Tryz.underlying67 INF.out.1 INF.out.2.1 INF.out.2.2.1 INF.out.2.2.2 rfl (by decide) _ _ _ rfl OW.out ⟨W3.heap.size, 0, none⟩ 1 1 [.int .i64 y.v] rfl rfl ?c1 ?c2 ?c3 ?c4 ?c5 ?_))
    case c1 => exact SRC.out
    case c2 => exact ic_one [y.v]
    case c3 => unfold maxLen; omega
    case c4 => omega
    case c5 => first | omega | (rw [SX]; omega)
    intro v5 w5 hown5 hg5 _
    have O5 : Hid (w5.ownsRow (w.heap.size + 2) 3 1 v5 ([] ++ [y.v]).length (ic ([] ++ [y.v]))) := by
      show World.ownsRow _ _ _ _ _ _ _
      rw [ic_app, List.length_append]
      exact hown5
    have NOB : ∀ k, (Value.slice ob 0 d).ownBlock = some k → w.heap.size + 2 ≤ k := fun k e => (own_blk OW.out k e).1
    have KB5 : Sm (fun k => k < w.heap.size + 2) (W3.alloc (.cells #[.int .i64 y.v] 3)) w5 := fun k (hk : k < w.heap.size + 2) => hg5.block k (by omega) (fun e => by have := NOB k e.symm; omega)
    have P5 := hide (P4.out.sm (KB5.sub (fun k hk => by have := BDF.out k hk; show k < _; omega)))
    have Z5 := hide ((KB5 w.heap.size (by show _ < _; omega)).trans Z4.out)
    have M5 := hide ((KB5 (w.heap.size + 1) (by show _ < _; omega)).trans M4.out)
    have K5 := hide (KF.grown K4.out hg5 (fun k e => .inr (by have := NOB k e; omega)))
    obtain ⟨o5, c5, rfl, _, _⟩ := own_at O5.out
    have SZ5 : W3.heap.size + 1 ≤ w5.heap.size := by
      have := hg5.size
      rw [SX] at this
      exact this
    clear hown5 hg5 NOB KB5 OW SRC
    have hlen : ([] ++ [y.v]).length = 0 + 1 := by simp
    have R6 := hide ((P5.out.newL O5.out (by rw [hlen]; omega)).setGot (st.got + 1) ((st.got : Int) + 1) (by omega))
    have K6 := hide ((K5.out.set FG.out 1 (.slice o5 ([] ++ [y.v]).length c5)).set FG.out 6 (.int .i64 ((st.got : Int) + 1)))
    have Z6 := hide ((Below.heap_setCell (w5.setCell ⟨G, 1, none⟩ (.slice o5 ([] ++ [y.v]).length c5)) ⟨G, 6, none⟩ (.int .i64 ((st.got : Int) + 1)) _ (Ne.symm hM3)).trans ((Below.heap_setCell w5 ⟨G, 1, none⟩ (.slice o5 ([] ++ [y.v]).length c5) _ (Ne.symm hM3)).trans Z5.out))
    have M6 := hide ((Below.heap_setCell (w5.setCell ⟨G, 1, none⟩ (.slice o5 ([] ++ [y.v]).length c5)) ⟨G, 6, none⟩ (.int .i64 ((st.got : Int) + 1)) _ hM1).trans ((Below.heap_setCell w5 ⟨G, 1, none⟩ (.slice o5 ([] ++ [y.v]).length c5) _ hM1).trans M5.out))
    have N6 : Hid (Nw (Fw F (.slice o5 ([] ++ [y.v]).length c5)) F w) := Fw.nw O5.out (by omega)
    have BF6 : Hid (∀ k, Fw F (.slice o5 ([] ++ [y.v]).length c5) k → k < w5.heap.size ∧ (k < w.heap.size ∨ w.heap.size + 2 ≤ k)) := by
      intro k hk
      have hkb := (Fw.bd (P5.out.bd) O5.out) k hk
      rcases hk with q | q
      · exact ⟨hkb, .inl (BDF.out k q)⟩
      · exact ⟨hkb, .inr (own_blk O5.out k q).1⟩
    have sz6 : ((w5.setCell ⟨G, 1, none⟩ (.slice o5 ([] ++ [y.v]).length c5)).setCell ⟨G, 6, none⟩ (.int .i64 ((st.got : Int) + 1))).heap.size = w5.heap.size := by rw [size_set, size_set]
    have AS6 := hide (own_wat R6.out.rs)
    simp only at AS6
    rw [HSR.out] at AS6
    have BE := hide (rbehind_any _ y t cs _ AS6.out hcs (by omega))
    have g1 : w5.cell? ⟨G, 1, none⟩ = some (.slice (some ⟨bb, off, none⟩) st.buf.length 1) := cell_of P5.out.hp 1
    have g6 : w5.cell? ⟨G, 6, none⟩ = some (.int .i64 (st.got : Int)) := cell_of P5.out.hp 6
    have g2 : w5.cell? ⟨G, 2, none⟩ = some (.slice (some ⟨b', off2, none⟩) (t.length + 1) cs) := (cell_of P5.out.hp 2).trans (by rw [HSR.out]; rfl)
    have gf1 := frozen_of P5.out.hp 1
    have gf6 := frozen_of P5.out.hp 6
    have e2 : w5.cell? ⟨w.heap.size + 1, 2, none⟩ = some (.bool true) := cell_of M5.out 2
    rw [hlen] at R6 K6 Z6 M6 N6 BF6 sz6 BE
    clear AS6 P5 K5 Z5 M5 O5
    go_wp2_with fail
    generalize (w5.setCell ⟨G, 1, none⟩ (.slice o5 (0 + 1) c5)).setCell ⟨G, 6, none⟩ (.int .i64 ((st.got : Int) + 1)) = W6 at R6 K6 Z6 M6 BE sz6 ⊢
    generalize Fw F (.slice o5 (0 + 1) c5) = F6 at R6 N6 BF6
    refine BE.out.mono ?_
    rintro r w7 ⟨o7, d7, rfl, ho7, hb7⟩
    have P7 := hide (R6.out.below hb7)
    have Z7 := hide (heap_below Z6.out hb7)
    have M7 := hide (heap_below M6.out hb7)
    have K7 := hide (K6.out.then hb7)
    have O7 := hide ho7
    have K7S := K6.out.size
    clear ho7 hb7 BE R6 K6 Z6 M6 g1 g2 g6 gf1 gf6 e2
    have g2 : w7.cell? ⟨G, 2, none⟩ = some (.slice (some ⟨b', off2, none⟩) st.snd.length cs) := cell_of P7.out.hp 2
    have g5 : w7.cell? ⟨G, 5, none⟩ = some (.int .i64 (st.sent : Int)) := cell_of P7.out.hp 5
    have gf2 := frozen_of P7.out.hp 2
    have gf5 := frozen_of P7.out.hp 5
    have z0 : w7.cell? ⟨w.heap.size, 0, none⟩ = some (.bool false) := cell_of Z7.out 0
    have zf0 := frozen_of Z7.out 0
    have z1 : w7.cell? ⟨w.heap.size, 1, none⟩ = some (.bool false) := cell_of Z7.out 1
    have zf1 := frozen_of Z7.out 1
    have z2 : w7.cell? ⟨w.heap.size, 2, none⟩ = some (.bool false) := cell_of Z7.out 2
    have zf2 := frozen_of Z7.out 2
    have z3 : w7.cell? ⟨w.heap.size, 3, none⟩ = some (.int .i64 0) := cell_of Z7.out 3
    have zf3 := frozen_of Z7.out 3
    have z4 : w7.cell? ⟨w.heap.size, 4, none⟩ = some (.int .i64 0) := cell_of Z7.out 4
    have zf4 := frozen_of Z7.out 4
    have z5 : w7.cell? ⟨w.heap.size, 5, none⟩ = some (.int .i64 0) := cell_of Z7.out 5
    have zf5 := frozen_of Z7.out 5
    have z6 : w7.cell? ⟨w.heap.size, 6, none⟩ = some (.int .i64 0) := cell_of Z7.out 6
    have zf6 := frozen_of Z7.out 6
    have m0 : w7.cell? ⟨w.heap.size + 1, 0, none⟩ = some (.bool true) := cell_of M7.out 0
    have m1 : w7.cell? ⟨w.heap.size + 1, 1, none⟩ = some (.bool true) := cell_of M7.out 1
    have m2 : w7.cell? ⟨w.heap.size + 1, 2, none⟩ = some (.bool true) := cell_of M7.out 2
    have m3 : w7.cell? ⟨w.heap.size + 1, 3, none⟩ = some (.int .i64 x) := cell_of M7.out 3
    have m4 : w7.cell? ⟨w.heap.size + 1, 4, none⟩ = some (.int .i64 y.g) := cell_of M7.out 4
    have m5 : w7.cell? ⟨w.heap.size + 1, 5, none⟩ = some (.int .i64 y.c) := cell_of M7.out 5
    have m6 : w7.cell? ⟨w.heap.size + 1, 6, none⟩ = some (.int .i64 y.v) := cell_of M7.out 6
    go_wp2_with fail
    have NB6 : ∀ k, F6 k → k < W6.heap.size := fun k hk => by have := (BF6.out k hk).1; omega
    have R8 := (P7.out.newS O7.out NB6 (by omega)).setSent (st.sent + 1) ((st.sent : Int) + 1) (by omega)
    have NN : Nw (Fw F6 (.slice o7 t.length d7)) F w := N6.out.trans (Fw.nw O7.out (Nat.le_refl _)) K7S
    have NZ : ¬ Fw F6 (.slice o7 t.length d7) w.heap.size := by
      rintro (q | q)
      · have := (BF6.out _ q).2
        omega
      · have := (own_blk O7.out _ q).1
        omega
    exact bodyPost_ret (results_row1 Tryz.results180 _ _ _ _ rfl (loadVar_rgot (got_set ((Below.heap_setCell _ _ _ _ (Ne.symm hM3)).trans ((Below.heap_setCell _ _ _ _ (Ne.symm hM3)).trans Z7.out)) _ _ _ _ _ _ _) rfl)) rfl ⟨rfl, rfin7 ((K7.out.set FG.out 2 _).set FG.out 5 _) NN R8.rr (Nat.le_refl _) NZ _ _ _ _ _ _ _⟩
  · obtain ⟨ob, d, W3, hr3, ho3, hb3⟩ := TR.out (off + 1) (fun _ => rfl)
    have HR := hide hr3
    rw [hS2] at ho3 hb3
    obtain ⟨p3, z3, m3, k3⟩ := MAIN.out ob d W3 ho3 hb3
    have P3 := hide p3
    have Z3 := hide z3
    have M3 := hide m3
    have K3 := hide k3
    have O3 := hide ho3
    have SZ3 := hb3.size
    rw [hS2] at SZ3
    clear hr3 ho3 hb3 p3 z3 m3 k3 TR MAIN P2 BB Z2 M2
    have n2 : W3.cell? ⟨w.heap.size + 1, 2, none⟩ = some (.bool true) := cell_of M3.out 2
    have n6 : W3.cell? ⟨w.heap.size + 1, 6, none⟩ = some (.int .i64 y.v) := cell_of M3.out 6
    have hn1 : w.heap.size + 1 < W3.heap.size := by omega
    have BX := below_alloc W3 (.cells #[.int .i64 y.v] 3)
    have OW := hide (own_below O3.out BX)
    have SRC := hide (cell_one_new W3 (.int .i64 y.v) 3)
    have P4 := hide (P3.out.below BX)
    have Z4 := hide (heap_below Z3.out BX)
    have M4 := hide (heap_below M3.out BX)
    have K4 := hide (K3.out.then BX)
    have SX : (W3.alloc (.cells #[.int .i64 y.v] 3)).heap.size = W3.heap.size + 1 := World.size_alloc _ _
    clear BX
    go_enter Tryz.func180, Tryz.ntmps180
    go_wp2_with (first | (at_builtin; refine Lib.wpList_append_run _ rfl _ _ 67 67 rfl _ _ rfl rfl _ _ HR.out ?_) | (at_builtin; refine wpList_append_own _ rfl _ _ 67 rfl (w.heap.size + 2) 3 i0 (.int .i64 0) 1 8 Tryz.underlying67 INF.out.1 INF.out.2.1 INF.out.2.2.1 INF.out.2.2.2 rfl (by decide) _ _ _ rfl OW.out ⟨W3.heap.size, 0, none⟩ 1 1 [.int .i64 y.v] rfl rfl ?c1 ?c2 ?c3 ?c4 ?c5 ?_))
    case c1 => exact SRC.out
    case c2 => exact ic_one [y.v]
    case c3 => unfold maxLen; omega
    case c4 => omega
    case c5 => first | omega | (rw [SX]; omega)
    intro v5 w5 hown5 hg5 _
    have O5 : Hid (w5.ownsRow (w.heap.size + 2) 3 1 v5 (b ++ [y.v]).length (ic (b ++ [y.v]))) := by
      show World.ownsRow _ _ _ _ _ _ _
      rw [ic_app, List.length_append]
      exact hown5
    have NOB : ∀ k, (Value.slice ob b.length d).ownBlock = some k → w.heap.size + 2 ≤ k := fun k e => (own_blk OW.out k e).1
    have KB5 : Sm (fun k => k < w.heap.size + 2) (W3.alloc (.cells #[.int .i64 y.v] 3)) w5 := fun k (hk : k < w.heap.size + 2) => hg5.block k (by omega) (fun e => by have := NOB k e.symm; omega)
    have P5 := hide (P4.out.sm (KB5.sub (fun k hk => by have := BDF.out k hk; show k < _; omega)))
    have Z5 := hide ((KB5 w.heap.size (by show _ < _; omega)).trans Z4.out)
    have M5 := hide ((KB5 (w.heap.size + 1) (by show _ < _; omega)).trans M4.out)
    have K5 := hide (KF.grown K4.out hg5 (fun k e => .inr (by have := NOB k e; omega)))
    obtain ⟨o5, c5, rfl, _, _⟩ := own_at O5.out
    have SZ5 : W3.heap.size + 1 ≤ w5.heap.size := by
      have := hg5.size
      rw [SX] at this
      exact this
    clear hown5 hg5 NOB KB5 OW SRC
    have hlen : (b ++ [y.v]).length = b.length + 1 := by simp
    have R6 := hide ((P5.out.newL O5.out (by rw [hlen]; omega)).setGot (st.got + 1) ((st.got : Int) + 1) (by omega))
    have K6 := hide ((K5.out.set FG.out 1 (.slice o5 (b ++ [y.v]).length c5)).set FG.out 6 (.int .i64 ((st.got : Int) + 1)))
    have Z6 := hide ((Below.heap_setCell (w5.setCell ⟨G, 1, none⟩ (.slice o5 (b ++ [y.v]).length c5)) ⟨G, 6, none⟩ (.int .i64 ((st.got : Int) + 1)) _ (Ne.symm hM3)).trans ((Below.heap_setCell w5 ⟨G, 1, none⟩ (.slice o5 (b ++ [y.v]).length c5) _ (Ne.symm hM3)).trans Z5.out))
    have M6 := hide ((Below.heap_setCell (w5.setCell ⟨G, 1, none⟩ (.slice o5 (b ++ [y.v]).length c5)) ⟨G, 6, none⟩ (.int .i64 ((st.got : Int) + 1)) _ hM1).trans ((Below.heap_setCell w5 ⟨G, 1, none⟩ (.slice o5 (b ++ [y.v]).length c5) _ hM1).trans M5.out))
    have N6 : Hid (Nw (Fw F (.slice o5 (b ++ [y.v]).length c5)) F w) := Fw.nw O5.out (by omega)
    have BF6 : Hid (∀ k, Fw F (.slice o5 (b ++ [y.v]).length c5) k → k < w5.heap.size ∧ (k < w.heap.size ∨ w.heap.size + 2 ≤ k)) := by
      intro k hk
      have hkb := (Fw.bd (P5.out.bd) O5.out) k hk
      rcases hk with q | q
      · exact ⟨hkb, .inl (BDF.out k q)⟩
      · exact ⟨hkb, .inr (own_blk O5.out k q).1⟩
    have sz6 : ((w5.setCell ⟨G, 1, none⟩ (.slice o5 (b ++ [y.v]).length c5)).setCell ⟨G, 6, none⟩ (.int .i64 ((st.got : Int) + 1))).heap.size = w5.heap.size := by rw [size_set, size_set]
    have AS6 := hide (own_wat R6.out.rs)
    simp only at AS6
    rw [HSR.out] at AS6
    have BE := hide (rbehind_any _ y t cs _ AS6.out hcs (by omega))
    have g1 : w5.cell? ⟨G, 1, none⟩ = some (.slice (some ⟨bb, off, none⟩) st.buf.length cl) := cell_of P5.out.hp 1
    have g6 : w5.cell? ⟨G, 6, none⟩ = some (.int .i64 (st.got : Int)) := cell_of P5.out.hp 6
    have g2 : w5.cell? ⟨G, 2, none⟩ = some (.slice (some ⟨b', off2, none⟩) (t.length + 1) cs) := (cell_of P5.out.hp 2).trans (by rw [HSR.out]; rfl)
    have gf1 := frozen_of P5.out.hp 1
    have gf6 := frozen_of P5.out.hp 6
    have e2 : w5.cell? ⟨w.heap.size + 1, 2, none⟩ = some (.bool true) := cell_of M5.out 2
    rw [hlen] at R6 K6 Z6 M6 N6 BF6 sz6 BE
    clear AS6 P5 K5 Z5 M5 O5
    go_wp2_with fail
    generalize (w5.setCell ⟨G, 1, none⟩ (.slice o5 (b.length + 1) c5)).setCell ⟨G, 6, none⟩ (.int .i64 ((st.got : Int) + 1)) = W6 at R6 K6 Z6 M6 BE sz6 ⊢
    generalize Fw F (.slice o5 (b.length + 1) c5) = F6 at R6 N6 BF6
    refine BE.out.mono ?_
    rintro r w7 ⟨o7, d7, rfl, ho7, hb7⟩
    have P7 := hide (R6.out.below hb7)
    have Z7 := hide (heap_below Z6.out hb7)
    have M7 := hide (heap_below M6.out hb7)
    have K7 := hide (K6.out.then hb7)
    have O7 := hide ho7
    have K7S := K6.out.size
    clear ho7 hb7 BE R6 K6 Z6 M6 g1 g2 g6 gf1 gf6 e2
    have g2 : w7.cell? ⟨G, 2, none⟩ = some (.slice (some ⟨b', off2, none⟩) st.snd.length cs) := cell_of P7.out.hp 2
    have g5 : w7.cell? ⟨G, 5, none⟩ = some (.int .i64 (st.sent : Int)) := cell_of P7.out.hp 5
    have gf2 := frozen_of P7.out.hp 2
    have gf5 := frozen_of P7.out.hp 5
    have z0 : w7.cell? ⟨w.heap.size, 0, none⟩ = some (.bool false) := cell_of Z7.out 0
    have zf0 := frozen_of Z7.out 0
    have z1 : w7.cell? ⟨w.heap.size, 1, none⟩ = some (.bool false) := cell_of Z7.out 1
    have zf1 := frozen_of Z7.out 1
    have z2 : w7.cell? ⟨w.heap.size, 2, none⟩ = some (.bool false) := cell_of Z7.out 2
    have zf2 := frozen_of Z7.out 2
    have z3 : w7.cell? ⟨w.heap.size, 3, none⟩ = some (.int .i64 0) := cell_of Z7.out 3
    have zf3 := frozen_of Z7.out 3
    have z4 : w7.cell? ⟨w.heap.size, 4, none⟩ = some (.int .i64 0) := cell_of Z7.out 4
    have zf4 := frozen_of Z7.out 4
    have z5 : w7.cell? ⟨w.heap.size, 5, none⟩ = some (.int .i64 0) := cell_of Z7.out 5
    have zf5 := frozen_of Z7.out 5
    have z6 : w7.cell? ⟨w.heap.size, 6, none⟩ = some (.int .i64 0) := cell_of Z7.out 6
    have zf6 := frozen_of Z7.out 6
    have m0 : w7.cell? ⟨w.heap.size + 1, 0, none⟩ = some (.bool true) := cell_of M7.out 0
    have m1 : w7.cell? ⟨w.heap.size + 1, 1, none⟩ = some (.bool true) := cell_of M7.out 1
    have m2 : w7.cell? ⟨w.heap.size + 1, 2, none⟩ = some (.bool true) := cell_of M7.out 2
    have m3 : w7.cell? ⟨w.heap.size + 1, 3, none⟩ = some (.int .i64 x) := cell_of M7.out 3
    have m4 : w7.cell? ⟨w.heap.size + 1, 4, none⟩ = some (.int .i64 y.g) := cell_of M7.out 4
    have m5 : w7.cell? ⟨w.heap.size + 1, 5, none⟩ = some (.int .i64 y.c) := cell_of M7.out 5
    have m6 : w7.cell? ⟨w.heap.size + 1, 6, none⟩ = some (.int .i64 y.v) := cell_of M7.out 6
    go_wp2_with fail
    have NB6 : ∀ k, F6 k → k < W6.heap.size := fun k hk => by have := (BF6.out k hk).1; omega
    have R8 := (P7.out.newS O7.out NB6 (by omega)).setSent (st.sent + 1) ((st.sent : Int) + 1) (by omega)
    have NN : Nw (Fw F6 (.slice o7 t.length d7)) F w := N6.out.trans (Fw.nw O7.out (Nat.le_refl _)) K7S
    have NZ : ¬ Fw F6 (.slice o7 t.length d7) w.heap.size := by
      rintro (q | q)
      · have := (BF6.out _ q).2
        omega
      · have := (own_blk O7.out _ q).1
        omega
    exact bodyPost_ret (results_row1 Tryz.results180 _ _ _ _ rfl (loadVar_rgot (got_set ((Below.heap_setCell _ _ _ _ (Ne.symm hM3)).trans ((Below.heap_setCell _ _ _ _ (Ne.symm hM3)).trans Z7.out)) _ _ _ _ _ _ _) rfl)) rfl ⟨rfl, rfin7 ((K7.out.set FG.out 2 _).set FG.out 5 _) NN R8.rr (Nat.le_refl _) NZ _ _ _ _ _ _ _⟩
end Rp
end Go.Proofs.YtblfimobiibmjaaGreat
/- The reference's channel: Send, of whatever channel, over this seat's program. -/
namespace Go.Proofs.YtblfimobiibmjaaGreat
open Go.ChangeShapes Go.WideShapes Go.ChangeAt Go.RowKit
namespace Rp
open Ba Pe _root_.Go.Proofs.YtblfimobiibmjaaGreat.Pi

set_option maxRecDepth 100000 in
set_option maxHeartbeats 3200000 in
theorem rsend_full (G : Nat) (F : Nat → Prop) (st : St) (x : Int) (w : World) (h : Rr w G F st) (hc : st.closed = false) (hr : st.rcv = []) (hl : ¬ st.buf.length < st.size) :
    Calls Tryz.prog 179 #[.pointer (some ⟨G, 0, none⟩), .int .i64 x] w fun r w' => r = .returned (.tuple #[gv gz, .int .i64 0]) ∧ KF F w w' ∧ ∃ F', Nw F' F w ∧ Rr w' G F' st := by
  have hG := h.lt
  have NF : Hid (¬ F w.heap.size) := fun e => Nat.lt_irrefl _ (h.bd _ e)
  obtain ⟨vL, vS, vQ, h⟩ := h
  have P1 := hide (h.below (below_alloc w (.cells #[.bool false, .bool false, .bool false, .int .i64 0, .int .i64 0, .int .i64 0, .int .i64 0] 237)))
  have Z1 := hide (heap_new w (.cells #[.bool false, .bool false, .bool false, .int .i64 0, .int .i64 0, .int .i64 0, .int .i64 0] 237))
  obtain ⟨ol, cl, os, cs, oq, cq, ⟨rfl, _, _⟩, ⟨rfl, _, _⟩, rfl, _, _⟩ := h.read
  have y4 : (w.alloc (.cells #[.bool false, .bool false, .bool false, .int .i64 0, .int .i64 0, .int .i64 0, .int .i64 0] 237)).cell? ⟨G, 4, none⟩ = some (.bool false) := (cell_of P1.out.hp 4).trans (by rw [hc]; rfl)
  have y3 : (w.alloc (.cells #[.bool false, .bool false, .bool false, .int .i64 0, .int .i64 0, .int .i64 0, .int .i64 0] 237)).cell? ⟨G, 3, none⟩ = some (.slice oq 0 cq) := (cell_of P1.out.hp 3).trans (by rw [hr]; rfl)
  have y1 : (w.alloc (.cells #[.bool false, .bool false, .bool false, .int .i64 0, .int .i64 0, .int .i64 0, .int .i64 0] 237)).cell? ⟨G, 1, none⟩ = some (.slice ol st.buf.length cl) := cell_of P1.out.hp 1
  have y0 : (w.alloc (.cells #[.bool false, .bool false, .bool false, .int .i64 0, .int .i64 0, .int .i64 0, .int .i64 0] 237)).cell? ⟨G, 0, none⟩ = some (.int .i64 (st.size : Int)) := cell_of P1.out.hp 0
  have d1 : decide ((st.buf.length : Int) < (st.size : Int)) = false := decide_eq_false (by omega)
  clear h hc hr
  unfold gv gz
  have z0 : (w.alloc (.cells #[.bool false, .bool false, .bool false, .int .i64 0, .int .i64 0, .int .i64 0, .int .i64 0] 237)).cell? ⟨w.heap.size, 0, none⟩ = some (.bool false) := cell_of Z1.out 0
  have zf0 := frozen_of Z1.out 0
  have z1 : (w.alloc (.cells #[.bool false, .bool false, .bool false, .int .i64 0, .int .i64 0, .int .i64 0, .int .i64 0] 237)).cell? ⟨w.heap.size, 1, none⟩ = some (.bool false) := cell_of Z1.out 1
  have zf1 := frozen_of Z1.out 1
  have z2 : (w.alloc (.cells #[.bool false, .bool false, .bool false, .int .i64 0, .int .i64 0, .int .i64 0, .int .i64 0] 237)).cell? ⟨w.heap.size, 2, none⟩ = some (.bool false) := cell_of Z1.out 2
  have zf2 := frozen_of Z1.out 2
  have z3 : (w.alloc (.cells #[.bool false, .bool false, .bool false, .int .i64 0, .int .i64 0, .int .i64 0, .int .i64 0] 237)).cell? ⟨w.heap.size, 3, none⟩ = some (.int .i64 0) := cell_of Z1.out 3
  have zf3 := frozen_of Z1.out 3
  have z4 : (w.alloc (.cells #[.bool false, .bool false, .bool false, .int .i64 0, .int .i64 0, .int .i64 0, .int .i64 0] 237)).cell? ⟨w.heap.size, 4, none⟩ = some (.int .i64 0) := cell_of Z1.out 4
  have zf4 := frozen_of Z1.out 4
  have z5 : (w.alloc (.cells #[.bool false, .bool false, .bool false, .int .i64 0, .int .i64 0, .int .i64 0, .int .i64 0] 237)).cell? ⟨w.heap.size, 5, none⟩ = some (.int .i64 0) := cell_of Z1.out 5
  have zf5 := frozen_of Z1.out 5
  have z6 : (w.alloc (.cells #[.bool false, .bool false, .bool false, .int .i64 0, .int .i64 0, .int .i64 0, .int .i64 0] 237)).cell? ⟨w.heap.size, 6, none⟩ = some (.int .i64 0) := cell_of Z1.out 6
  have zf6 := frozen_of Z1.out 6
  go_enter Tryz.func179, Tryz.ntmps179
  go_wp2_with fail
  go_quiet (fail)
  go_wp2_with fail
  exact bodyPost_ret (results_row2 Tryz.results179 _ _ _ _ _ rfl rfl (loadVar_rgot (got_set (heap_below Z1.out (bdrew _ _)) _ _ _ _ _ _ _) rfl)) rfl ⟨rfl, rfin7 (KF.of (btr (below_alloc _ _) (bdrew _ _))) (Nw.refl _ _) (P1.out.below (bdrew _ _)).rr (Nat.le_refl _) NF.out _ _ _ _ _ _ _⟩
set_option maxRecDepth 100000 in
set_option maxHeartbeats 3200000 in
theorem rsend_room (G : Nat) (F : Nat → Prop) (st : St) (x : Int) (w : World) (h : Rr w G F st) (hc : st.closed = false) (hr : st.rcv = []) (hl : st.buf.length < st.size) (hs : st.sent < 1000000000) :
    Calls Tryz.prog 179 #[.pointer (some ⟨G, 0, none⟩), .int .i64 x] w fun r w' => r = .returned (.tuple #[gv ⟨true, false, false, 0, ⟨0, 0, 0⟩⟩, .int .i64 0]) ∧ KF F w w' ∧ ∃ F', Nw F' F w ∧ Rr w' G F' { st with buf := st.buf ++ [x], sent := st.sent + 1 } := by
  have hG := h.lt
  have NF : Hid (¬ F w.heap.size) := fun e => Nat.lt_irrefl _ (h.bd _ e)
  obtain ⟨vL, vS, vQ, h⟩ := h
  have FG := hide h.fg
  have BDF := hide h.bd
  have P1 := hide (h.below (below_alloc w (.cells #[.bool false, .bool false, .bool false, .int .i64 0, .int .i64 0, .int .i64 0, .int .i64 0] 237)))
  have Z1 := hide (heap_new w (.cells #[.bool false, .bool false, .bool false, .int .i64 0, .int .i64 0, .int .i64 0, .int .i64 0] 237))
  obtain ⟨ol, cl, os, cs, oq, cq, ⟨rfl, _, _⟩, ⟨rfl, _, _⟩, rfl, _, _⟩ := h.read
  have y4 : (w.alloc (.cells #[.bool false, .bool false, .bool false, .int .i64 0, .int .i64 0, .int .i64 0, .int .i64 0] 237)).cell? ⟨G, 4, none⟩ = some (.bool false) := (cell_of P1.out.hp 4).trans (by rw [hc]; rfl)
  have y3 : (w.alloc (.cells #[.bool false, .bool false, .bool false, .int .i64 0, .int .i64 0, .int .i64 0, .int .i64 0] 237)).cell? ⟨G, 3, none⟩ = some (.slice oq 0 cq) := (cell_of P1.out.hp 3).trans (by rw [hr]; rfl)
  have y1 : (w.alloc (.cells #[.bool false, .bool false, .bool false, .int .i64 0, .int .i64 0, .int .i64 0, .int .i64 0] 237)).cell? ⟨G, 1, none⟩ = some (.slice ol st.buf.length cl) := cell_of P1.out.hp 1
  have y0 : (w.alloc (.cells #[.bool false, .bool false, .bool false, .int .i64 0, .int .i64 0, .int .i64 0, .int .i64 0] 237)).cell? ⟨G, 0, none⟩ = some (.int .i64 (st.size : Int)) := cell_of P1.out.hp 0
  have d1 : decide ((st.buf.length : Int) < (st.size : Int)) = true := decide_eq_true (by omega)
  have sz := h.sz
  have bl := h.bl
  clear h hc hr
  unfold gv
  cases hi : Tryz.prog.info? 3 with
  | none => have := info_i; rw [hi] at this; cases this
  | some i0 =>
  have hx2 := info_i
  rw [hi] at hx2
  simp at hx2
  have INF := hide (And.intro hi hx2)
  clear hx2 hi
  have hW1 : (w.alloc (.cells #[.bool false, .bool false, .bool false, .int .i64 0, .int .i64 0, .int .i64 0, .int .i64 0] 237)).heap.size = w.heap.size + 1 := World.size_alloc _ _
  go_enter Tryz.func179, Tryz.ntmps179
  go_wp2_with fail
  go_quiet (fail)
  have BX := below_alloc ((w.alloc (.cells #[.bool false, .bool false, .bool false, .int .i64 0, .int .i64 0, .int .i64 0, .int .i64 0] 237)).drewN nq) (.cells #[.int .i64 x] 3)
  have B4 := hide (btr (btr (below_alloc w (.cells #[.bool false, .bool false, .bool false, .int .i64 0, .int .i64 0, .int .i64 0, .int .i64 0] 237)) (bdrew (w.alloc (.cells #[.bool false, .bool false, .bool false, .int .i64 0, .int .i64 0, .int .i64 0, .int .i64 0] 237)) nq)) BX)
  have P4 := hide (P1.out.below (btr (bdrew (w.alloc (.cells #[.bool false, .bool false, .bool false, .int .i64 0, .int .i64 0, .int .i64 0, .int .i64 0] 237)) nq) BX))
  have Z4 := hide (heap_below Z1.out (btr (bdrew (w.alloc (.cells #[.bool false, .bool false, .bool false, .int .i64 0, .int .i64 0, .int .i64 0, .int .i64 0] 237)) nq) BX))
  have src : ∀ j u, [Value.int .i64 x][j]? = some u → (((w.alloc (.cells #[.bool false, .bool false, .bool false, .int .i64 0, .int .i64 0, .int .i64 0, .int .i64 0] 237)).drewN nq).alloc (.cells #[.int .i64 x] 3)).cell? ((⟨(w.alloc (.cells #[.bool false, .bool false, .bool false, .int .i64 0, .int .i64 0, .int .i64 0, .int .i64 0] 237)).heap.size, 0, none⟩ : Addr).add j) = some u := cell_one_new ((w.alloc (.cells #[.bool false, .bool false, .bool false, .int .i64 0, .int .i64 0, .int .i64 0, .int .i64 0] 237)).drewN nq) (.int .i64 x) 3
  rw [hW1] at src
  have SRC := hide src
  clear BX src
  go_wp2_with (at_builtin; refine wpList_append_own_at _ rfl _ _ 67 rfl 0 3 i0 (.int .i64 0) 1 8 Tryz.underlying67 INF.out.1 INF.out.2.1 INF.out.2.2.1 INF.out.2.2.2 rfl (by decide) _ _ _ rfl P4.out.rl ⟨w.heap.size + 1, 0, none⟩ 1 1 [.int .i64 x] rfl rfl ?c1 ?c2 ?c3 ?c4 ?c5 ?_)
  case c1 => exact SRC.out
  case c2 => exact ic_one [x]
  case c3 => unfold maxLen; omega
  case c4 => omega
  case c5 => exact Nat.zero_le _
  intro v' w5 hown' hgrow _ hat
  have O5 : Hid (w5.ownsRow 0 3 1 v' (st.buf ++ [x]).length (ic (st.buf ++ [x]))) := by
    show World.ownsRow _ _ _ _ _ _ _
    rw [ic_app, List.length_append]
    exact hown'
  obtain ⟨ol', cl', rfl, _, _⟩ := own_at O5.out
  have hlen : (st.buf ++ [x]).length = st.buf.length + 1 := by simp
  have R5 := hide (P4.out.appL hgrow O5.out (by rw [hlen]; omega))
  have K5 := hide (KF.grown (KF.of (F := F) B4.out) hgrow (fun k e => .inl (P4.out.fl k e)))
  have N5 := hide (Fw.at (F := F) (w := w) hat P4.out.fl (by omega))
  have NZ : Hid (¬ Fw F (.slice ol' (st.buf ++ [x]).length cl') w.heap.size) := by
    rintro (q | q)
    · exact NF.out q
    · rcases hat with e | e
      · exact NF.out (P4.out.fl _ (e ▸ q))
      · rw [e, Option.some.injEq] at q
        omega
  have G5 := hide (heap_grown hgrow P4.out.hp (fun e => own_ty P4.out.rl P4.out.hp (by decide) e.symm))
  have Z5 := hide (heap_grown hgrow Z4.out (fun e => NF.out (P4.out.fl _ e)))
  clear hown' hgrow hat
  have g1 : w5.cell? ⟨G, 1, none⟩ = some (.slice ol st.buf.length cl) := cell_of G5.out 1
  have g5 : w5.cell? ⟨G, 5, none⟩ = some (.int .i64 (st.sent : Int)) := cell_of G5.out 5
  have gf1 := frozen_of G5.out 1
  have gf5 := frozen_of G5.out 5
  have hM3 : G ≠ w.heap.size := by omega
  have z0 : w5.cell? ⟨w.heap.size, 0, none⟩ = some (.bool false) := cell_of Z5.out 0
  have zf0 := frozen_of Z5.out 0
  have z1 : w5.cell? ⟨w.heap.size, 1, none⟩ = some (.bool false) := cell_of Z5.out 1
  have zf1 := frozen_of Z5.out 1
  have z2 : w5.cell? ⟨w.heap.size, 2, none⟩ = some (.bool false) := cell_of Z5.out 2
  have zf2 := frozen_of Z5.out 2
  have z3 : w5.cell? ⟨w.heap.size, 3, none⟩ = some (.int .i64 0) := cell_of Z5.out 3
  have zf3 := frozen_of Z5.out 3
  have z4 : w5.cell? ⟨w.heap.size, 4, none⟩ = some (.int .i64 0) := cell_of Z5.out 4
  have zf4 := frozen_of Z5.out 4
  have z5 : w5.cell? ⟨w.heap.size, 5, none⟩ = some (.int .i64 0) := cell_of Z5.out 5
  have zf5 := frozen_of Z5.out 5
  have z6 : w5.cell? ⟨w.heap.size, 6, none⟩ = some (.int .i64 0) := cell_of Z5.out 6
  have zf6 := frozen_of Z5.out 6
  go_wp2_with fail
  have R6 := R5.out.setSent (st.sent + 1) ((st.sent : Int) + 1) (by omega)
  rw [hlen] at R6
  have N6 := N5.out
  have NZ6 := NZ.out
  rw [hlen] at N6 NZ6
  exact bodyPost_ret (results_row2 Tryz.results179 _ _ _ _ _ rfl rfl (loadVar_rgot (got_set ((Below.heap_setCell _ _ _ _ (Ne.symm hM3)).trans ((Below.heap_setCell _ _ _ _ (Ne.symm hM3)).trans Z5.out)) _ _ _ _ _ _ _) rfl)) rfl ⟨rfl, rfin7 ((K5.out.set FG.out 1 _).set FG.out 5 _) N6 R6.rr (Nat.le_refl _) NZ6 _ _ _ _ _ _ _⟩
/-- Send, of whatever channel -/
theorem rsend_any (G : Nat) (F : Nat → Prop) (st : St) (x : Int) (w : World) (h : Rr w G F st) (hs : st.sent < 1000000000) (hg : st.got < 1000000000) :
    Calls Tryz.prog 179 #[.pointer (some ⟨G, 0, none⟩), .int .i64 x] w fun r w' => r = .returned (.tuple #[gv (sendG st), .int .i64 (sendE st)]) ∧ KF F w w' ∧ ∃ F', Nw F' F w ∧ Rr w' G F' (sendS st x) := by
  rcases Bool.eq_false_or_eq_true st.closed with hc | hc
  · rw [show sendG st = gz by simp [sendG, hc], show sendE st = 90 by simp [sendE, hc], show sendS st x = st by simp [sendS, hc]]
    exact rsend_closed G F st x w h hc
  · rw [show sendE st = 0 by simp [sendE, hc]]
    cases hr : st.rcv with
    | cons y t =>
      rw [show sendG st = ⟨true, false, true, 0, y⟩ by simp [sendG, hc, hr], show sendS st x = { st with rcv := t, sent := st.sent + 1, got := st.got + 1 } by simp [sendS, hc, hr]]
      exact rsend_woke G F st x y t w h hc hr hs hg
    | nil =>
      by_cases hl : st.buf.length < st.size
      · rw [show sendG st = ⟨true, false, false, 0, ⟨0, 0, 0⟩⟩ by simp [sendG, hc, hr, hl], show sendS st x = { st with buf := st.buf ++ [x], sent := st.sent + 1 } by simp [sendS, hc, hr, hl]]
        exact rsend_room G F st x w h hc hr hl hs
      · rw [show sendG st = gz by simp [sendG, hc, hr, hl], show sendS st x = st by simp [sendS, hc, hr, hl]]
        exact rsend_full G F st x w h hc hr hl
end Rp
end Go.Proofs.YtblfimobiibmjaaGreat
/- The reference's channel: Close, Drop, over this seat's program. -/
namespace Go.Proofs.YtblfimobiibmjaaGreat
open Go.ChangeShapes Go.WideShapes Go.ChangeAt Go.RowKit
namespace Rp
open Ba Pe _root_.Go.Proofs.YtblfimobiibmjaaGreat.Pi

theorem own_wat' {w : World} {base : Nat} {oa : Option Addr} {n c : Nat} {l : List Wt} (h : w.ownsRow base 207 3 (.slice oa n c) l.length (wc l)) : WAt w oa l := by
  obtain ⟨ob, d, e, hA, _⟩ := owns_wat h
  cases e
  exact hA
theorem rclose_closed (G : Nat) (F : Nat → Prop) (st : St) (w : World) (h : Rr w G F st) (hc : st.closed = true) :
    Calls Tryz.prog 151 #[.pointer (some ⟨G, 0, none⟩)] w fun r w' => r = .returned (.tuple #[.slice none 0 0, .slice none 0 0, .int .i64 90]) ∧ w' = w := by
  obtain ⟨vL, vS, vQ, h⟩ := h
  have y4 : w.cell? ⟨G, 4, none⟩ = some (.bool true) := (cell_of h.hp 4).trans (by rw [hc]; rfl)
  clear h hc
  go_enter Tryz.func151, Tryz.ntmps151
  go_wp2_with fail
  go_ret3
  exact ⟨rfl, rfl⟩
set_option maxRecDepth 100000 in
set_option maxHeartbeats 1600000 in
theorem rclose_open (G : Nat) (F : Nat → Prop) (st : St) (w : World) (h : Rr w G F st) (hc : st.closed = false) :
    Calls Tryz.prog 151 #[.pointer (some ⟨G, 0, none⟩)] w fun r w' => ∃ oa ca ob cb, r = .returned (.tuple #[.slice oa st.rcv.length ca, .slice ob st.snd.length cb, .int .i64 0]) ∧ (WAt w' oa st.rcv ∧ WAt w' ob st.snd) ∧ KF F w w' ∧ ∃ F', Nw F' F w ∧ Rr w' G F' { st with snd := [], rcv := [], closed := true } := by
  obtain ⟨vL, vS, vQ, h⟩ := h
  have H := hide h
  obtain ⟨ol, cl, os, cs, oq, cq, ⟨rfl, _, _⟩, ⟨rfl, _, _⟩, rfl, _, _⟩ := h.read
  have y4 : w.cell? ⟨G, 4, none⟩ = some (.bool false) := (cell_of h.hp 4).trans (by rw [hc]; rfl)
  have y2 : w.cell? ⟨G, 2, none⟩ = some (.slice os st.snd.length cs) := cell_of h.hp 2
  have y3 : w.cell? ⟨G, 3, none⟩ = some (.slice oq st.rcv.length cq) := cell_of h.hp 3
  have f2 := frozen_of h.hp 2
  have f3 := frozen_of h.hp 3
  have f4 := frozen_of h.hp 4
  have P1 := hide (h.setClosed true)
  have P2 := hide (P1.out.newQ (N := w.heap.size) (l := []) (World.ownsRow_nil _ _ _ _) (fun k hk => H.out.bd k hk) (Nat.zero_le _))
  have P3 := hide (P2.out.newS (N := w.heap.size) (l := []) (World.ownsRow_nil _ _ _ _) (fun k hk => hk.elim (H.out.bd k) (fun e => by simp [Value.ownBlock] at e)) (Nat.zero_le _))
  clear h hc
  go_enter Tryz.func151, Tryz.ntmps151
  go_wp2_with fail
  go_ret3
  have K := ((((KF.refl F w).set H.out.fg 4 (.bool true)).set H.out.fg 3 (.slice none 0 0)).set H.out.fg 2 (.slice none 0 0))
  have KG := ((((KB.refl G w).setCell 4 (.bool true)).setCell 3 (.slice none 0 0)).setCell 2 (.slice none 0 0))
  refine ⟨oq, cq, os, ⟨cs, rfl⟩, ⟨?_, ?_⟩, K, _, ?_, P3.out.rr⟩
  · refine own_wat' (own_keep H.out.rq fun g e => KG.block g (H.out.bd g (H.out.fq g e)) (fun e2 => ?_))
    exact own_ty H.out.rq H.out.hp (by decide) (by rw [← e2]; exact e.symm)
  · refine own_wat' (own_keep H.out.rs fun g e => KG.block g (H.out.bd g (H.out.fs g e)) (fun e2 => ?_))
    exact own_ty H.out.rs H.out.hp (by decide) (by rw [← e2]; exact e.symm)
  · intro k hk
    rcases hk with (q | q) | q
    · exact .inl q
    · simp [Value.ownBlock] at q
    · simp [Value.ownBlock] at q
/-- Close, of whatever channel -/
theorem rclose_any (G : Nat) (F : Nat → Prop) (st : St) (w : World) (h : Rr w G F st) :
    Calls Tryz.prog 151 #[.pointer (some ⟨G, 0, none⟩)] w fun r w' => ∃ oa ca ob cb, r = .returned (.tuple #[.slice oa (closeL st false).length ca, .slice ob (closeL st true).length cb, .int .i64 (closeE st)]) ∧ (WAt w' oa (closeL st false) ∧ WAt w' ob (closeL st true)) ∧ KF F w w' ∧ ∃ F', Nw F' F w ∧ Rr w' G F' (closeS st) := by
  rcases Bool.eq_false_or_eq_true st.closed with hc | hc
  · rw [show closeL st false = [] by simp [closeL, hc], show closeL st true = [] by simp [closeL, hc], show closeE st = 90 by simp [closeE, hc], show closeS st = st by simp [closeS, hc]]
    refine (rclose_closed G F st w h hc).mono ?_
    rintro r w1 ⟨rfl, rfl⟩
    exact ⟨none, 0, none, 0, rfl, ⟨WAt.nil _ _, WAt.nil _ _⟩, KF.refl _ _, F, Nw.refl _ _, h⟩
  · rw [show closeL st false = st.rcv by simp [closeL, hc, Pi.own], show closeL st true = st.snd by simp [closeL, hc, Pi.own], show closeE st = 0 by simp [closeE, hc], show closeS st = { st with snd := [], rcv := [], closed := true } by simp [closeS, hc]]
    exact rclose_open G F st w h hc
set_option maxRecDepth 100000 in
set_option maxHeartbeats 3200000 in
theorem rdrop_any (G : Nat) (F : Nat → Prop) (st : St) (g : Int) (w : World) (h : Rr w G F st) :
    Calls Tryz.prog 181 #[.pointer (some ⟨G, 0, none⟩), .int .i64 g] w fun r w' => r = .returned (.int .i64 (dropN st g)) ∧ KF F w w' ∧ ∃ F', Nw F' F w ∧ Rr w' G F' (dropS st g) := by
  have hG := h.lt
  obtain ⟨vL, vS, vQ, h⟩ := h
  have FG := hide h.fg
  have BDF := hide h.bd
  obtain ⟨ol, cl, os, cs, oq, cq, ⟨rfl, _, _⟩, ⟨rfl, _, _⟩, rfl, _, _⟩ := h.read
  have y2 : w.cell? ⟨G, 2, none⟩ = some (.slice os st.snd.length cs) := cell_of h.hp 2
  have y3 : w.cell? ⟨G, 3, none⟩ = some (.slice oq st.rcv.length cq) := cell_of h.hp 3
  have l1 := h.les
  have l2 := h.leq
  have d1 := dr_len g st.snd
  have d2 := dr_len g st.rcv
  have P0 := hide h
  clear h
  unfold dropN dropS
  go_enter Tryz.func181, Tryz.ntmps181
  go_wp2_with fail
  go_quiet (fail)
  have P1 := hide (P0.out.below (bdrew w nq))
  have WO := hide (rwithout_any os st.snd cs g (w.drewN nq) (own_wat' P1.out.rs) l1)
  go_wp2_with fail
  refine WO.out.mono ?_
  rintro r w2 ⟨ob, d, rfl, o2, b2⟩
  have P2 := hide (P1.out.below b2)
  have O2 := hide o2
  have K2 := hide (KF.of (F := F) (btr (bdrew w nq) b2))
  have SZ2 : w.heap.size ≤ w2.heap.size := b2.size
  clear o2 b2 y2 y3 P1 WO
  have S3 := hide (P2.out.newS (N := w.heap.size) O2.out (fun k hk => BDF.out k hk) (by omega))
  have K3 := hide (K2.out.set FG.out 2 (.slice ob (dr g st.snd).length d))
  have NW3 : Hid (Nw (Fw F (.slice ob (dr g st.snd).length d)) F w) := Fw.nw (N := w.heap.size) O2.out (Nat.le_refl _)
  have e2 : w2.cell? ⟨G, 2, none⟩ = some (.slice os st.snd.length cs) := cell_of P2.out.hp 2
  have e3 : w2.cell? ⟨G, 3, none⟩ = some (.slice oq st.rcv.length cq) := cell_of P2.out.hp 3
  have f2 := frozen_of P2.out.hp 2
  have WO2 := hide (rwithout_any oq st.rcv cq g _ (own_wat' S3.out.rq) l2)
  generalize hX : dr g st.snd = X at O2 S3 K3 NW3 WO2 d1
  clear P2 O2
  go_wp2_with fail
  generalize w2.setCell ⟨G, 2, none⟩ (.slice ob X.length d) = W3 at S3 K3 WO2 ⊢
  generalize hFF : Fw F (.slice ob X.length d) = F3 at S3 NW3
  refine WO2.out.mono ?_
  rintro r w4 ⟨ob4, d4, rfl, o4, b4⟩
  have P4 := hide (S3.out.below b4)
  have O4 := hide o4
  have K4 := hide (K3.out.then b4)
  clear o4 b4 WO2 e2 e3 f2
  have S5 := hide (P4.out.newQ (N := W3.heap.size) O4.out (fun k hk => S3.out.bd k hk) (by omega))
  have NW5 : Hid (Nw (Fw F3 (.slice ob4 (dr g st.rcv).length d4)) F w) := NW3.out.trans (Fw.nw (N := W3.heap.size) O4.out (Nat.le_refl _)) K3.out.size
  have e2 : w4.cell? ⟨G, 2, none⟩ = some (.slice ob X.length d) := cell_of P4.out.hp 2
  have e3 : w4.cell? ⟨G, 3, none⟩ = some (.slice oq st.rcv.length cq) := cell_of P4.out.hp 3
  have f3 := frozen_of P4.out.hp 3
  generalize hY : dr g st.rcv = Y at O4 S5 NW5 d2
  go_wp2_with fail
  go_quiet (fail)
  go_wp2_with fail
  go_ret
  refine ⟨ret_int (by rw [hX, hY]; omega), (K4.out.set FG.out 3 _).then (bdrew _ _), _, NW5.out, ?_⟩
  rw [hX, hY]
  exact (S5.out.below (bdrew _ _)).rr
end Rp
end Go.Proofs.YtblfimobiibmjaaGreat
/- Package pipe: the functions that Wait hands on, over this seat's program. -/
namespace Go.Proofs.YtblfimobiibmjaaGreat
open Go.ChangeShapes Go.WideShapes Go.ChangeAt Go.RowKit
namespace Pi
open Ba Pe

theorem cellB {w w' : World} {b i : Nat} {v : Value} (h : w.cell? ⟨b, i, none⟩ = some v) (hb : Below w.heap.size w w') : w'.cell? ⟨b, i, none⟩ = some v := (hb.cell (World.block_lt_of_cell? w _ h)).trans h
/-- does another one than g wait? -/
def cn (g : Int) (l : List Wt) : Bool := decide (0 < (dr g l).length)
end Pi
end Go.Proofs.YtblfimobiibmjaaGreat
/- The reference's channel: Wait, over this seat's program. -/
namespace Go.Proofs.YtblfimobiibmjaaGreat
open Go.ChangeShapes Go.WideShapes Go.ChangeAt Go.RowKit
namespace Rp
open Ba Pe _root_.Go.Proofs.YtblfimobiibmjaaGreat.Pi

theorem step_append_run {ops : Array Oper} (w : World) {o : Oper} {a : Act} {K : Act → World → Prop} {Q : Exit → Act → World → Prop} {E : Prop} (hgd : o.guard = none) (s x : Operand) (t tn : TypeId)
    (ho : o.op = .call { callee := .builtin .append, args := #[s, x], argTypes := #[t, tn] }) (vs vx : Value) (hs : a.eval s = vs) (hx : a.eval x = vx)
    (v' : Value) (w' : World) (hr : (Builtin.append_ #[t, tn] o.type #[vs, vx]).run Tryz.prog w = .ok v' w') (h : K (a.put o.dst v') w') :
    if Region.wanted o (yielded ops a.tmps) = true then Oper.wp Tryz.prog o a w K Q else E := by
  have hw : Region.wanted o (yielded ops a.tmps) = true := by simp [Region.wanted, hgd]
  rw [if_pos hw]
  exact Lib.wp_append_run w s x t tn ho vs vx hs hx v' w' hr h
set_option maxRecDepth 100000 in
set_option maxHeartbeats 1600000 in
theorem rwait_false_ready (G : Nat) (F : Nat → Prop) (st : St) (x : Wt) (w : World) (h : Rr w G F st) (hc : (st.closed || decide (0 < st.buf.length)) = true) :
    Calls Tryz.prog 148 #[.pointer (some ⟨G, 0, none⟩), .bool false, wv x] w fun r w' => r = .returned (.int .i64 7) ∧ Below w.heap.size w w' := by
  have hG := h.lt
  obtain ⟨vL, vS, vQ, h⟩ := h
  obtain ⟨ol, cl, os, cs, oq, cq, ⟨rfl, _, _⟩, ⟨rfl, _, _⟩, rfl, _, _⟩ := h.read
  have y0 : w.cell? ⟨G, 0, none⟩ = some (.int .i64 (st.size : Int)) := cell_of h.hp 0
  have y1 : w.cell? ⟨G, 1, none⟩ = some (.slice ol st.buf.length cl) := cell_of h.hp 1
  have y2 : w.cell? ⟨G, 2, none⟩ = some (.slice os st.snd.length cs) := cell_of h.hp 2
  have y3 : w.cell? ⟨G, 3, none⟩ = some (.slice oq st.rcv.length cq) := cell_of h.hp 3
  have y4 : w.cell? ⟨G, 4, none⟩ = some (.bool st.closed) := cell_of h.hp 4
  have BA := hide (below_alloc w (.cells #[.int .i64 x.g, .int .i64 x.c, .int .i64 x.v] 207))
  clear h
  unfold wv
  generalize st.buf.length = nb at y1 hc
  have e0 : decide (0 < (nb : Int)) = decide (0 < nb) := by simp
  generalize decide (0 < nb) = rm at e0 hc
  cases hcl : st.closed
  · rw [hcl] at y4 hc
    simp only [Bool.false_or] at hc
    subst hc
    have e1 : decide (0 < nb) = true := by rw [← e0]; simp
    go_enter Tryz.func148, Tryz.ntmps148
    go_wp2_with fail
    go_ret
    exact ⟨rfl, BA.out⟩
  · rw [hcl] at y4
    go_enter Tryz.func148, Tryz.ntmps148
    go_wp2_with fail
    go_ret
    exact ⟨rfl, BA.out⟩
set_option maxRecDepth 100000 in
set_option maxHeartbeats 1600000 in
theorem rwait_false_others (G : Nat) (F : Nat → Prop) (st : St) (x : Wt) (w : World) (h : Rr w G F st) (hcl : st.closed = false) (hrm : decide (0 < st.buf.length) = false) (ho : 0 < (dr x.g st.snd).length) :
    Calls Tryz.prog 148 #[.pointer (some ⟨G, 0, none⟩), .bool false, wv x] w fun r w' => r = .returned (.int .i64 7) ∧ Below w.heap.size w w' := by
  have hG := h.lt
  obtain ⟨vL, vS, vQ, h⟩ := h
  obtain ⟨ol, cl, os, cs, oq, cq, ⟨rfl, _, _⟩, ⟨rfl, _, _⟩, rfl, _, _⟩ := h.read
  have y0 : w.cell? ⟨G, 0, none⟩ = some (.int .i64 (st.size : Int)) := cell_of h.hp 0
  have y1 : w.cell? ⟨G, 1, none⟩ = some (.slice ol st.buf.length cl) := cell_of h.hp 1
  have y2 : w.cell? ⟨G, 2, none⟩ = some (.slice os st.snd.length cs) := cell_of h.hp 2
  have y3 : w.cell? ⟨G, 3, none⟩ = some (.slice oq st.rcv.length cq) := cell_of h.hp 3
  have y4 : w.cell? ⟨G, 4, none⟩ = some (.bool st.closed) := cell_of h.hp 4
  have BA := hide (below_alloc w (.cells #[.int .i64 x.g, .int .i64 x.c, .int .i64 x.v] 207))
  have e0 : decide (0 < (st.buf.length : Int)) = false := by simpa using hrm
  have l1 := h.les
  have l2 := h.leq
  rw [hcl] at y4
  have P0 := hide h
  have WO := hide fun u (hb : Below w.heap.size w u) => rwithout_any os st.snd cs x.g u (own_wat' (P0.out.below hb).rs) l1
  clear h
  generalize hN : (dr x.g st.snd).length = N at ho WO
  clear hN
  have dN : decide (0 < (N : Int)) = true := decide_eq_true (by omega)
  unfold wv
  go_enter Tryz.func148, Tryz.ntmps148
  go_wp2_with fail
  refine (WO.out _ (BA.out)).mono ?_
  rintro r w3 ⟨ob, d, rfl, -, b3⟩
  have B3 := hide (btr (BA.out) b3)
  clear b3 WO
  go_wp2_with fail
  go_ret
  exact ⟨rfl, B3.out⟩
set_option maxRecDepth 100000 in
set_option maxHeartbeats 1600000 in
theorem rwait_false_arg (G : Nat) (F : Nat → Prop) (st : St) (x : Wt) (w : World) (h : Rr w G F st) (hcl : st.closed = false) (hrm : decide (0 < st.buf.length) = false) (ho : (dr x.g st.snd).length = 0) (hx : okb x = false) :
    Calls Tryz.prog 148 #[.pointer (some ⟨G, 0, none⟩), .bool false, wv x] w fun r w' => r = .returned (.int .i64 1) ∧ Below w.heap.size w w' := by
  have hx' := (okb_not x).1 hx
  have hG := h.lt
  obtain ⟨vL, vS, vQ, h⟩ := h
  obtain ⟨ol, cl, os, cs, oq, cq, ⟨rfl, _, _⟩, ⟨rfl, _, _⟩, rfl, _, _⟩ := h.read
  have y0 : w.cell? ⟨G, 0, none⟩ = some (.int .i64 (st.size : Int)) := cell_of h.hp 0
  have y1 : w.cell? ⟨G, 1, none⟩ = some (.slice ol st.buf.length cl) := cell_of h.hp 1
  have y2 : w.cell? ⟨G, 2, none⟩ = some (.slice os st.snd.length cs) := cell_of h.hp 2
  have y3 : w.cell? ⟨G, 3, none⟩ = some (.slice oq st.rcv.length cq) := cell_of h.hp 3
  have y4 : w.cell? ⟨G, 4, none⟩ = some (.bool st.closed) := cell_of h.hp 4
  have BA := hide (below_alloc w (.cells #[.int .i64 x.g, .int .i64 x.c, .int .i64 x.v] 207))
  have e0 : decide (0 < (st.buf.length : Int)) = false := by simpa using hrm
  have l1 := h.les
  have l2 := h.leq
  rw [hcl] at y4
  have P0 := hide h
  have WO := hide fun u (hb : Below w.heap.size w u) => rwithout_any os st.snd cs x.g u (own_wat' (P0.out.below hb).rs) l1
  clear h
  generalize hN : (dr x.g st.snd).length = N at ho WO
  clear hN
  subst ho
  clear hx
  by_cases h1 : x.g < 0
  · have d1 : decide (x.g < 0) = true := decide_eq_true h1
    clear hx'
    unfold wv
    go_enter Tryz.func148, Tryz.ntmps148
    go_wp2_with fail
    refine (WO.out _ (BA.out)).mono ?_
    rintro r w3 ⟨ob, d, rfl, -, b3⟩
    have B3 := hide (btr (BA.out) b3)
    have Y3 := hide (heap_below (heap_new w (.cells #[.int .i64 x.g, .int .i64 x.c, .int .i64 x.v] 207)) (b3))
    clear b3 WO
    have a0 : w3.cell? ⟨w.heap.size, 0, none⟩ = some (.int .i64 x.g) := cell_of Y3.out 0
    have a1 : w3.cell? ⟨w.heap.size, 1, none⟩ = some (.int .i64 x.c) := cell_of Y3.out 1
    have a2 : w3.cell? ⟨w.heap.size, 2, none⟩ = some (.int .i64 x.v) := cell_of Y3.out 2
    go_wp2_with fail
    go_ret
    exact ⟨rfl, B3.out⟩
  · have d1 : decide (x.g < 0) = false := decide_eq_false h1
    have d2 : decide (x.c < -1) = true := decide_eq_true (by omega)
    clear hx'
    unfold wv
    go_enter Tryz.func148, Tryz.ntmps148
    go_wp2_with fail
    refine (WO.out _ (BA.out)).mono ?_
    rintro r w3 ⟨ob, d, rfl, -, b3⟩
    have B3 := hide (btr (BA.out) b3)
    have Y3 := hide (heap_below (heap_new w (.cells #[.int .i64 x.g, .int .i64 x.c, .int .i64 x.v] 207)) (b3))
    clear b3 WO
    have a0 : w3.cell? ⟨w.heap.size, 0, none⟩ = some (.int .i64 x.g) := cell_of Y3.out 0
    have a1 : w3.cell? ⟨w.heap.size, 1, none⟩ = some (.int .i64 x.c) := cell_of Y3.out 1
    have a2 : w3.cell? ⟨w.heap.size, 2, none⟩ = some (.int .i64 x.v) := cell_of Y3.out 2
    go_wp2_with fail
    go_ret
    exact ⟨rfl, B3.out⟩
set_option maxRecDepth 100000 in
set_option maxHeartbeats 1600000 in
theorem rwait_false_full (G : Nat) (F : Nat → Prop) (st : St) (x : Wt) (w : World) (h : Rr w G F st) (hcl : st.closed = false) (hrm : decide (0 < st.buf.length) = false) (ho : (dr x.g st.snd).length = 0) (hx : okb x = true) (hl : st.rcv.length = 1024) :
    Calls Tryz.prog 148 #[.pointer (some ⟨G, 0, none⟩), .bool false, wv x] w fun r w' => r = .returned (.int .i64 5) ∧ Below w.heap.size w w' := by
  have hx' := (okb_iff x).1 hx
  have d1 : decide (x.g < 0) = false := decide_eq_false (by omega)
  have d2 : decide (x.c < -1) = false := decide_eq_false (by omega)
  have hG := h.lt
  obtain ⟨vL, vS, vQ, h⟩ := h
  obtain ⟨ol, cl, os, cs, oq, cq, ⟨rfl, _, _⟩, ⟨rfl, _, _⟩, rfl, _, _⟩ := h.read
  have y0 : w.cell? ⟨G, 0, none⟩ = some (.int .i64 (st.size : Int)) := cell_of h.hp 0
  have y1 : w.cell? ⟨G, 1, none⟩ = some (.slice ol st.buf.length cl) := cell_of h.hp 1
  have y2 : w.cell? ⟨G, 2, none⟩ = some (.slice os st.snd.length cs) := cell_of h.hp 2
  have y3 : w.cell? ⟨G, 3, none⟩ = some (.slice oq st.rcv.length cq) := cell_of h.hp 3
  have y4 : w.cell? ⟨G, 4, none⟩ = some (.bool st.closed) := cell_of h.hp 4
  have BA := hide (below_alloc w (.cells #[.int .i64 x.g, .int .i64 x.c, .int .i64 x.v] 207))
  have e0 : decide (0 < (st.buf.length : Int)) = false := by simpa using hrm
  have l1 := h.les
  have l2 := h.leq
  rw [hcl] at y4
  have P0 := hide h
  have WO := hide fun u (hb : Below w.heap.size w u) => rwithout_any os st.snd cs x.g u (own_wat' (P0.out.below hb).rs) l1
  clear h
  generalize hN : (dr x.g st.snd).length = N at ho WO
  clear hN
  subst ho
  clear hx hx'
  unfold wv
  go_enter Tryz.func148, Tryz.ntmps148
  go_wp2_with fail
  refine (WO.out _ (BA.out)).mono ?_
  rintro r w3 ⟨ob, d, rfl, -, b3⟩
  have B3 := hide (btr (BA.out) b3)
  have Y3 := hide (heap_below (heap_new w (.cells #[.int .i64 x.g, .int .i64 x.c, .int .i64 x.v] 207)) (b3))
  clear b3 WO
  have a0 : w3.cell? ⟨w.heap.size, 0, none⟩ = some (.int .i64 x.g) := cell_of Y3.out 0
  have a1 : w3.cell? ⟨w.heap.size, 1, none⟩ = some (.int .i64 x.c) := cell_of Y3.out 1
  have a2 : w3.cell? ⟨w.heap.size, 2, none⟩ = some (.int .i64 x.v) := cell_of Y3.out 2
  have g1 : w3.cell? ⟨G, 3, none⟩ = some (.slice oq 1024 cq) := (cell_of (P0.out.below B3.out).hp 3).trans (by rw [hl]; rfl)
  go_wp2_with fail
  go_ret
  exact ⟨rfl, B3.out⟩
set_option maxRecDepth 100000 in
set_option maxHeartbeats 3200000 in
theorem rwait_false_ok (G : Nat) (F : Nat → Prop) (st : St) (x : Wt) (w : World) (h : Rr w G F st) (hcl : st.closed = false) (hrm : decide (0 < st.buf.length) = false) (ho : (dr x.g st.snd).length = 0) (hx : okb x = true) (hl : st.rcv.length < 1024) :
    Calls Tryz.prog 148 #[.pointer (some ⟨G, 0, none⟩), .bool false, wv x] w fun r w' => r = .returned (.int .i64 0) ∧ KF F w w' ∧ ∃ F', Nw F' F w ∧ Rr w' G F' { st with rcv := st.rcv ++ [x] } := by
  have hx' := (okb_iff x).1 hx
  have d1 : decide (x.g < 0) = false := decide_eq_false (by omega)
  have d2 : decide (x.c < -1) = false := decide_eq_false (by omega)
  have hG := h.lt
  obtain ⟨vL, vS, vQ, h⟩ := h
  obtain ⟨ol, cl, os, cs, oq, cq, ⟨rfl, _, _⟩, ⟨rfl, _, _⟩, rfl, _, _⟩ := h.read
  have y0 : w.cell? ⟨G, 0, none⟩ = some (.int .i64 (st.size : Int)) := cell_of h.hp 0
  have y1 : w.cell? ⟨G, 1, none⟩ = some (.slice ol st.buf.length cl) := cell_of h.hp 1
  have y2 : w.cell? ⟨G, 2, none⟩ = some (.slice os st.snd.length cs) := cell_of h.hp 2
  have y3 : w.cell? ⟨G, 3, none⟩ = some (.slice oq st.rcv.length cq) := cell_of h.hp 3
  have y4 : w.cell? ⟨G, 4, none⟩ = some (.bool st.closed) := cell_of h.hp 4
  have BA := hide (below_alloc w (.cells #[.int .i64 x.g, .int .i64 x.c, .int .i64 x.v] 207))
  have e0 : decide (0 < (st.buf.length : Int)) = false := by simpa using hrm
  have l1 := h.les
  have l2 := h.leq
  rw [hcl] at y4
  have P0 := hide h
  have WO := hide fun u (hb : Below w.heap.size w u) => rwithout_any os st.snd cs x.g u (own_wat' (P0.out.below hb).rs) l1
  clear h
  generalize hN : (dr x.g st.snd).length = N at ho WO
  clear hN
  subst ho
  clear hx hx'
  cases hi : Tryz.prog.info? 207 with
  | none => have := info_rw; rw [hi] at this; cases this
  | some i0 =>
  have hx2 := info_rw
  rw [hi] at hx2
  simp at hx2
  have INF := hide (And.intro hi hx2)
  clear hx2 hi
  have d3 : decide (1024 ≤ (st.rcv.length : Int)) = false := decide_eq_false (by omega)
  unfold wv
  go_enter Tryz.func148, Tryz.ntmps148
  go_wp2_with fail
  refine (WO.out _ (BA.out)).mono ?_
  rintro r w3 ⟨ob, d, rfl, -, b3⟩
  have B3 := hide (btr (BA.out) b3)
  have Y3 := hide (heap_below (heap_new w (.cells #[.int .i64 x.g, .int .i64 x.c, .int .i64 x.v] 207)) (b3))
  clear b3 WO
  have a0 : w3.cell? ⟨w.heap.size, 0, none⟩ = some (.int .i64 x.g) := cell_of Y3.out 0
  have a1 : w3.cell? ⟨w.heap.size, 1, none⟩ = some (.int .i64 x.c) := cell_of Y3.out 1
  have a2 : w3.cell? ⟨w.heap.size, 2, none⟩ = some (.int .i64 x.v) := cell_of Y3.out 2
  have P3 := hide (P0.out.below B3.out)
  have g1 : w3.cell? ⟨G, 3, none⟩ = some (.slice oq st.rcv.length cq) := cell_of P3.out.hp 3
  have gf1 := frozen_of P3.out.hp 3
  have SZ3 := B3.out.size
  have hG3 : G < w3.heap.size := by omega
  have hY3 := heap_lt Y3.out
  go_wp2_with fail
  have BD := hide (btr (below_alloc w3 (.cells #[.int .i64 x.g, .int .i64 x.c, .int .i64 x.v] 207)) (bdrew1 _))
  have P4 := hide (P3.out.below BD.out)
  have hS4 : (w3.alloc (.cells #[.int .i64 x.g, .int .i64 x.c, .int .i64 x.v] 207)).drew.heap.size = w3.heap.size + 1 := World.size_alloc _ _
  obtain ⟨v', w6, hr, hown, hgrow, _, hat⟩ := run_append_own_at (P := Tryz.prog) ((w3.alloc (.cells #[.int .i64 x.g, .int .i64 x.c, .int .i64 x.v] 207)).drew) 0 209 209 207 i0 (wv ⟨0, 0, 0⟩) 3 24 Tryz.underlying209 INF.out.1 INF.out.2.1 INF.out.2.2.1 INF.out.2.2.2 rfl (by decide) _ _ _ P4.out.rq ⟨w3.heap.size, 0, none⟩ 1 1 (wc [x]) rfl (src3 w3 x _) (wc_one _) (by unfold maxLen; omega) (by omega) (Nat.zero_le _)
  rw [← wc_app] at hown
  have hown2 : w6.ownsRow 0 207 3 v' (st.rcv ++ [x]).length (wc (st.rcv ++ [x])) := by rw [List.length_append]; exact hown
  obtain ⟨oa', c', rfl, _, _⟩ := owns_wat hown2
  have hlen : (st.rcv ++ [x]).length = st.rcv.length + 1 := by simp
  have R6 := hide (P4.out.appQ hgrow hown2 hat (by rw [hlen]; omega))
  have G6 := hide (heap_grown hgrow P4.out.hp (fun e => own_ty P4.out.rq P4.out.hp (by decide) e.symm))
  have K6 := hide (KF.grown (KF.of (F := F) (btr B3.out BD.out)) hgrow (fun k e => .inl (P4.out.fq k e)))
  have N6 : Hid (Nw (Fw F (.slice oa' (st.rcv ++ [x]).length c')) F w) := Fw.at hat P4.out.fq (by rw [hS4]; omega)
  have g6 : w6.cell? ⟨G, 3, none⟩ = some (.slice oq st.rcv.length cq) := cell_of G6.out 3
  have gf6 := frozen_of G6.out 3
  have FG := hide P3.out.fg
  have HR := hide hr
  clear hown hown2 hgrow hat BD hr
  rw [hlen] at R6 N6
  go_region_law (refine step_append_run _ (by rfl) _ _ _ _ (by rfl) _ _ (by rfl) (by rfl) _ _ HR.out ?_)
  all_goals
    go_wp2_with fail
    go_ret
    exact ⟨rfl, K6.out.set FG.out 3 _, _, N6.out, R6.out.rr⟩
end Rp
end Go.Proofs.YtblfimobiibmjaaGreat
