import Derived.Test.YtiobcfldnfiiaaaGreatZjEg2
import Derived.Deep.RegionHeld3
import Derived.Deep.QuietTactic
import Derived.BigQuiet
import Derived.Deep.DeepCutAuto
import Derived.Deep.RegionLaw
import Derived.Maps.AppendAt
import Derived.OwnWalk
import Derived.Lib.AppendZeros
import Derived.Lib.Slices
/- Events in memory; the document's gauge: Made, Serves, over this seat's program. -/
namespace Go.Proofs.YtiobcfldnfiiaaaGreat
open Go.ChangeShapes Go.WideShapes Go.ChangeAt Go.RowKit
namespace Gu
open En Ba

/-- events lie in memory -/
def EsAt (w : World) (oa : Option Addr) (l : List Ev) : Prop :=
  ∀ k e, l[k]? = some e → ∃ b off, oa = some ⟨b, off, none⟩ ∧ ∀ j, j < 8 → w.cell? ⟨b, off + k * 8 + j, none⟩ = (En.evc e)[j]?
theorem EsAt.nil (w : World) (oa : Option Addr) : EsAt w oa [] := fun _ _ h => by simp at h
theorem evc_some (e : Ev) (j : Nat) (h : j < 8) : ∃ v, (En.evc e)[j]? = some v := ⟨_, Array.getElem?_eq_getElem h⟩
theorem EsAt.below {w w' : World} {oa : Option Addr} {l : List Ev} (h : EsAt w oa l) (hb : Below w.heap.size w w') : EsAt w' oa l := by
  intro k e hk
  obtain ⟨b, off, he, hc⟩ := h k e hk
  refine ⟨b, off, he, fun j hj => ?_⟩
  obtain ⟨v, hv⟩ := evc_some e j hj
  have := hc j hj
  rw [hv] at this ⊢
  exact (hb.cell (World.block_lt_of_cell? w _ this)).trans this
theorem EsAt.read {w : World} {b off : Nat} {l : List Ev} {k : Nat} {e : Ev} (h : EsAt w (some ⟨b, off, none⟩) l) (hk : l[k]? = some e) : w.cell? ⟨b, off + k * 8, none⟩ = some (.int .i64 e.k) ∧ w.cell? ⟨b, off + k * 8 + 1, none⟩ = some (.int .i64 e.g) ∧ w.cell? ⟨b, off + k * 8 + 2, none⟩ = some (.int .i64 e.c) ∧ w.cell? ⟨b, off + k * 8 + 3, none⟩ = some (.int .i64 e.a) ∧ w.cell? ⟨b, off + k * 8 + 4, none⟩ = some (.int .i64 e.v) ∧ w.cell? ⟨b, off + k * 8 + 5, none⟩ = some (.int .i64 e.m) ∧ w.cell? ⟨b, off + k * 8 + 6, none⟩ = some (.bool e.s) ∧ w.cell? ⟨b, off + k * 8 + 7, none⟩ = some (.bool e.o) := by
  obtain ⟨b', off', he, hc⟩ := h k e hk
  cases he
  exact ⟨hc 0 (by decide), hc 1 (by decide), hc 2 (by decide), hc 3 (by decide), hc 4 (by decide), hc 5 (by decide), hc 6 (by decide), hc 7 (by decide)⟩
def mk (p : List Ev) : Nat := p.countP fun x => decide (x.k = 2)
end Gu
end Go.Proofs.YtiobcfldnfiiaaaGreat
/- Tells, begins of layer 24, over this seat's program. -/
namespace Go.Proofs.YtiobcfldnfiiaaaGreat
open Go.ChangeShapes Go.WideShapes Go.ChangeAt Go.RowKit
namespace Eg
open En Gu Ba

def tellB (e : Ev) : Bool := decide (e.k = 1) || decide (e.k = 3) || decide (e.k = 4) || decide (e.k = 5) || decide (e.k = 6)
theorem tellB_iff (e : Ev) : tellB e = true ↔ tells e := by
  unfold tellB tells
  simp
  omega
theorem tells_any (e : Ev) (w : World) : Calls Tryz.prog 17 #[evv e] w fun r w' => r = .returned (.bool (tellB e)) ∧ Below w.heap.size w w' := by
  unfold evv evc tellB
  obtain ⟨k, g, c, a, v, m, s, o⟩ := e
  simp only
  by_cases h1 : k = 1
  · subst h1
    go_enter Tryz.func17, Tryz.ntmps17
    go_wp2_with fail
    go_ret
    exact ⟨rfl, below_alloc _ _⟩
  by_cases h3 : k = 3
  · subst h3
    go_enter Tryz.func17, Tryz.ntmps17
    go_wp2_with fail
    go_ret
    exact ⟨rfl, below_alloc _ _⟩
  by_cases h4 : k = 4
  · subst h4
    go_enter Tryz.func17, Tryz.ntmps17
    go_wp2_with fail
    go_ret
    exact ⟨rfl, below_alloc _ _⟩
  by_cases h5 : k = 5
  · subst h5
    go_enter Tryz.func17, Tryz.ntmps17
    go_wp2_with fail
    go_ret
    exact ⟨rfl, below_alloc _ _⟩
  by_cases h6 : k = 6
  · subst h6
    go_enter Tryz.func17, Tryz.ntmps17
    go_wp2_with fail
    go_ret
    exact ⟨rfl, below_alloc _ _⟩
  have b1 : (k == 1) = false := by simp [h1]
  have b3 : (k == 3) = false := by simp [h3]
  have b4 : (k == 4) = false := by simp [h4]
  have b5 : (k == 5) = false := by simp [h5]
  have b6 : (k == 6) = false := by simp [h6]
  have e : (decide (k = 1) || decide (k = 3) || decide (k = 4) || decide (k = 5) || decide (k = 6)) = false := by simp [h1, h3, h4, h5, h6]
  rw [e]
  clear e h1 h3 h4 h5 h6
  go_enter Tryz.func17, Tryz.ntmps17
  go_wp2_with fail
  go_ret
  exact ⟨rfl, below_alloc _ _⟩
theorem pk_last {l : List Ev} {g : Int} : ∀ {n p : Nat}, pkF l g n = some p → ∀ (j : Nat) (e : Ev), p < j → j < n → l[j]? = some e → ¬ (e.k = 6 ∧ e.g = g)
  | 0, p, h => by cases h
  | n + 1, p, h => by
    intro j e h1 h2 h3 h4
    unfold pkF at h
    cases he : l[n]? with
    | none =>
      rw [he] at h
      rcases Nat.lt_or_ge j n with q | q
      · exact pk_last h j e h1 q h3 h4
      · have : j = n := by omega
        subst this
        rw [he] at h3
        cases h3
    | some x =>
      rw [he] at h
      simp only at h
      split at h
      · cases h
        omega
      · rename_i h5
        rcases Nat.lt_or_ge j n with q | q
        · exact pk_last h j e h1 q h3 h4
        · have : j = n := by omega
          subst this
          rw [he] at h3
          cases h3
          exact h5 h4
set_option maxRecDepth 100000 in
set_option maxHeartbeats 1600000 in
theorem begins_any (oa : Option Addr) (l : List Ev) (cp i : Nat) (w : World) (hE : Gu.EsAt w oa l) (h : Tok l) (hi : i < l.length) (hl : l.length ≤ 1000000) :
    Calls Tryz.prog 29 #[.slice oa l.length cp, .int .i64 (i : Int)] w fun r w' => r = .returned (.int .i64 (bg l i : Int)) ∧ Below w.heap.size w w' := by
  obtain ⟨x, hx⟩ : ∃ x, l[i]? = some x := ⟨_, List.getElem?_eq_getElem hi⟩
  obtain ⟨b, off, rfl, -⟩ := hE i x hx
  have HE := hide hE
  have i0 : (0 : Int) ≤ (i : Int) := by omega
  have i1 : (i : Int) < (l.length : Int) := by omega
  by_cases k7 : x.k = 7
  · obtain ⟨p, y, e1, e2, e3, e4, e5, e6⟩ := bg_wake h hx k7
    rw [e1]
    have LAST := hide (pk_last e3)
    have PY := hide e4
    have PK := hide (And.intro e5 e6)
    have HX := hide hx
    obtain ⟨z0, z1, -⟩ := hE.read hx
    have kk : (x.k != 7) = false := by simp [k7]
    have K7 := hide k7
    clear hE h hx e1 e3 e4 e5 e6 k7
    go_enter Tryz.func29, Tryz.ntmps29
    go_wp2_with fail
    go_loopw [5] (fun iv wr => ∃ k : Nat, p ≤ k ∧ k ≤ i ∧ iv = .int .i64 k ∧ Below w.heap.size w wr) (fun iv _ => (intOf iv).toNat)
    case atStart => exact ⟨i, by omega, Nat.le_refl _, rfl, Below.refl _ _⟩
    case round =>
      obtain ⟨k, hk1, hk2, rfl, hb⟩ := hrel
      have HB := hide hb
      obtain ⟨e, he⟩ : ∃ e, l[k]? = some e := ⟨_, List.getElem?_eq_getElem (by omega)⟩
      obtain ⟨y0, y1, -⟩ := (HE.out.below hb).read he
      obtain ⟨x0, x1, -⟩ := (HE.out.below hb).read HX.out
      have k0 : (0 : Int) ≤ (k : Int) := by omega
      have k1 : (k : Int) < (l.length : Int) := by omega
      have HEE := hide he
      clear hb he z0 z1
      by_cases hkp : k = p
      · have ee : Hid (e = y) := by
          have q := HEE.out
          rw [hkp, PY.out] at q
          show e = y
          cases q
          rfl
        have c1 : (e.k != 6) = false := by rw [ee.out]; simp [PK.out.1]
        have c2 : (e.g != x.g) = false := by rw [ee.out]; simp [PK.out.2]
        have HKP := hide hkp
        clear hkp
        go_wp2_with fail
        go_quiet (fail)
        go_wp2_with fail
        go_ret
        exact ⟨by (rw [← HKP.out]) <;> rfl, btr HB.out (bdrew _ _)⟩
      · have hno : ¬ (e.k = 6 ∧ e.g = x.g) := by
          rcases Nat.lt_or_ge k i with q | q
          · exact LAST.out k e (by omega) q HEE.out
          · have : k = i := by omega
            have q2 := HEE.out
            rw [this, HX.out] at q2
            cases q2
            intro z
            have := K7.out
            omega
        have hk3 : 1 ≤ k := by omega
        by_cases h6 : e.k = 6
        · have c1 : (e.k != 6) = false := by simp [h6]
          have c2 : (e.g != x.g) = true := by
            simp
            exact fun z => hno ⟨h6, z⟩
          clear h6 hno
          go_wp2_with fail
          go_quiet (fail)
          go_wp2_with fail
          go_roundw
          case rel => exact ⟨k - 1, by omega, by omega, by go_num, btr HB.out (bdrew _ _)⟩
          case measure => simp [intOf]; omega
        · have c1 : (e.k != 6) = true := by simp [h6]
          clear h6 hno
          go_wp2_with fail
          go_quiet (fail)
          go_wp2_with fail
          go_roundw
          case rel => exact ⟨k - 1, by omega, by omega, by go_num, btr HB.out (bdrew _ _)⟩
          case measure => simp [intOf]; omega
  · have e0 : bg l i = i := by
      unfold bg
      rw [hx]
      simp [k7]
    rw [e0]
    have kk : (x.k != 7) = true := by simp [k7]
    obtain ⟨z0, -⟩ := hE.read hx
    clear hE h hx k7 e0
    go_enter Tryz.func29, Tryz.ntmps29
    go_wp2_with fail
    go_ret
    exact ⟨rfl, Below.refl _ _⟩
end Eg
end Go.Proofs.YtiobcfldnfiiaaaGreat
/- The document's gauge: Crew (rule 2), over this seat's program. Written by gen/gucrew.py. -/
namespace Go.Proofs.YtiobcfldnfiiaaaGreat
open Go.ChangeShapes Go.WideShapes Go.ChangeAt Go.RowKit
namespace Gu
open En Ba

theorem there_take {l : List Ev} {k : Nat} {e : Ev} (h : l[k]? = some e) : there (l.take (k + 1)) = there (l.take k) + if e.k = 1 then 1 else 0 := by
  rw [List.take_add_one, h]; exact there_app _ _
theorem there_le (l : List Ev) (k : Nat) : there (l.take k) ≤ k + 1 := by
  have := List.countP_le_length (p := fun x : Ev => decide (x.k = 1)) (l := l.take k)
  simp only [List.length_take] at this
  unfold there; omega
end Gu
end Go.Proofs.YtiobcfldnfiiaaaGreat
/- The document's gauge: Served (rule 4), over this seat's program. Written by gen/guserved.py. -/
namespace Go.Proofs.YtiobcfldnfiiaaaGreat
open Go.ChangeShapes Go.WideShapes Go.ChangeAt Go.RowKit
namespace Gu
open En Ba

end Gu
end Go.Proofs.YtiobcfldnfiiaaaGreat
/- The document's gauge, over this seat's program: what is in a channel (in). -/
namespace Go.Proofs.YtiobcfldnfiiaaaGreat
open Go.ChangeShapes Go.WideShapes Go.ChangeAt Go.RowKit
namespace Gu
open En Ba

def ic (l : List Int) : List Value := l.map (Value.int .i64)
theorem ic_app (l m : List Int) : ic (l ++ m) = ic l ++ ic m := by simp [ic]
theorem ic_one (l : List Int) : ∀ u ∈ ic l, u.oneCell' = true := by
  intro u hu
  obtain ⟨b, -, rfl⟩ := List.mem_map.1 hu
  rfl
theorem ic_len (l : List Int) : (ic l).length = l.length := by simp [ic]
theorem info_int : (Tryz.prog.info? 3).map (fun i => (i.zero, i.size, i.bytes)) = some (some (.int .i64 0), 1, 8) := by kernel_rfl
theorem own_sl {w : World} {base : Nat} {e : TypeId} {size n : Nat} {v : Value} {xs : List Value} (h : w.ownsRow base e size v n xs) : ∃ oa c, v = .slice oa n c := by
  rcases h.2 with ⟨rfl, rfl⟩ | ⟨g, cap, cr, rfl, -⟩
  · exact ⟨none, 0, rfl⟩
  · exact ⟨_, _, rfl⟩
theorem own_kb {w w' : World} {P base size : Nat} {e : TypeId} {v : Value} {n : Nat} {xs : List Value} (h : w.ownsRow base e size v n xs) (k : KB P w w') (hn : v.ownBlock ≠ some P) : w'.ownsRow base e size v n xs := by
  refine ⟨h.1, ?_⟩
  rcases h.2 with q | ⟨g, cap, cur, q1, q2, q3, q4⟩
  · exact .inl q
  · refine .inr ⟨g, cap, cur, q1, q2, k.heap q3 ?_, q4⟩
    subst q1; intro e; subst e; exact hn rfl
theorem below_set {w u : World} {n b i : Nat} {v : Value} (h : Below n w u) (hb : n ≤ b) : Below n w (u.setCell ⟨b, i, none⟩ v) := by
  refine ⟨h.os, h.tape, h.output, ?_, fun k hk => ?_⟩
  · have : (u.setCell ⟨b, i, none⟩ v).heap.size = u.heap.size := by simp [World.setCell]
    rw [this]; exact h.size
  · rw [← h.block k hk]
    exact Below.heap_setCell _ _ _ _ (by show k ≠ b; omega)
theorem step_append_run {ops : Array Oper} (w : World) {o : Oper} {a : Act} {K : Act → World → Prop} {Q : Exit → Act → World → Prop} {E : Prop} (hgd : o.guard = none) (s x : Operand) (t tn : TypeId)
    (ho : o.op = .call { callee := .builtin .append, args := #[s, x], argTypes := #[t, tn] }) (vs vx : Value) (hs : a.eval s = vs) (hx : a.eval x = vx)
    (v' : Value) (w' : World) (hr : (Builtin.append_ #[t, tn] o.type #[vs, vx]).run Tryz.prog w = .ok v' w') (h : K (a.put o.dst v') w') :
    if Region.wanted o (yielded ops a.tmps) = true then Oper.wp Tryz.prog o a w K Q else E := by
  have hw : Region.wanted o (yielded ops a.tmps) = true := by simp [Region.wanted, hgd]
  rw [if_pos hw]
  exact Lib.wp_append_run w s x t tn ho vs vx hs hx v' w' hr h
section
variable {ops : Array Oper} {rest : List Oper} {o : Oper} {a : Act} {w : World} {Q : Exit → Act → World → Prop}
theorem wpL_app (hgd : o.guard = none) (s x : Operand) (t tn : TypeId)
    (ho : o.op = .call { callee := .builtin .append, args := #[s, x], argTypes := #[t, tn] }) (vs vx : Value) (hs : a.eval s = vs) (hx : a.eval x = vx)
    (v' : Value) (w' : World) (hr : (Builtin.append_ #[t, tn] o.type #[vs, vx]).run Tryz.prog w = .ok v' w') (h : wpList Tryz.prog ops Q rest (a.put o.dst v') w') : wpList Tryz.prog ops Q (o :: rest) a w :=
  wpList_plain hgd fun _ hK => Lib.wp_append_run w s x t tn ho vs vx hs hx v' w' hr (hK _ _ h)
end
/-- the channel's record under way: at N the one that is handed back, at N + 1 the one that is kept -/
structure IB (w : World) (N : Nat) (v : Value) (sz : Int) (L : List Int) (cl rt : Bool) : Prop where
  hr : w.heap[N]? = some (.cells #[.int .i64 0, .slice none 0 0, .bool false, .bool false] 138 (0, 0))
  hs : w.heap[N + 1]? = some (.cells #[.int .i64 sz, v, .bool cl, .bool rt] 138 (0, 0))
  ow : w.ownsRow N 3 1 v L.length (ic L)
section
variable {w w' : World} {N : Nat} {v : Value} {sz : Int} {L : List Int} {cl rt : Bool}
theorem own_ib {P : Nat} {c : Array Value} {n : Nat} {xs : List Value} (h : w.ownsRow N 3 1 v n xs) (p : w.heap[P]? = some (.cells c 138 (0, 0))) : v.ownBlock ≠ some P := by
  rcases h.2 with ⟨rfl, -⟩ | ⟨g, cap, cur, rfl, -, q3, -⟩
  · intro e; cases e
  · intro e; cases e; rw [q3] at p; cases p
theorem IB.below (h : IB w N v sz L cl rt) (b : Below w.heap.size w w') : IB w' N v sz L cl rt := ⟨heap_below h.hr b, heap_below h.hs b, own_below h.ow b⟩
theorem IB.set (h : IB w N v sz L cl rt) (i : Nat) (x : Value) {sz' : Int} {cl' rt' : Bool} (e : #[Value.int .i64 sz, v, .bool cl, .bool rt].setIfInBounds i x = #[.int .i64 sz', v, .bool cl', .bool rt']) : IB (w.setCell ⟨N + 1, i, none⟩ x) N v sz' L cl' rt' := by
  have K := (KB.refl (N + 1) w).setCell i x
  exact ⟨K.heap h.hr (by omega), by rw [← e]; exact Ba.heap_setCell_same h.hs _, own_kb h.ow K (own_ib h.ow h.hs)⟩
theorem IB.row (h : IB w N v sz L cl rt) {row : Option Nat} (hg : w.grownBy w' row) (hrow : ∀ k, row = some k → k ≠ N ∧ k ≠ N + 1) {v' : Value} {L' : List Int} (ho : w'.ownsRow N 3 1 v' L'.length (ic L')) : IB (w'.setCell ⟨N + 1, 1, none⟩ v') N v' sz L' cl rt := by
  have a1 : w'.heap[N]? = _ := (hg.block _ (heap_lt h.hr) (fun e => (hrow _ e.symm).1 rfl)).trans h.hr
  have a2 : w'.heap[N + 1]? = _ := (hg.block _ (heap_lt h.hs) (fun e => (hrow _ e.symm).2 rfl)).trans h.hs
  have K := (KB.refl (N + 1) w').setCell 1 v'
  exact ⟨K.heap a1 (by omega), Ba.heap_setCell_same a2 _, own_kb ho K (own_ib ho a2)⟩
/-- one value is put behind the others -/
theorem IB.app (h : IB w N v sz L cl rt) (hl : L.length ≤ 4000) (x : Int) :
    ∃ oa c w', (Builtin.append_ #[52, 52] 52 #[v, .slice (some ⟨w.heap.size, 0, none⟩) 1 1]).run Tryz.prog (w.alloc (.cells #[.int .i64 x] 3)) = .ok (.slice oa (L.length + 1) c) w' ∧ IB (w'.setCell ⟨N + 1, 1, none⟩ (.slice oa (L.length + 1) c)) N (.slice oa (L.length + 1) c) sz (L ++ [x]) cl rt ∧ w'.cell? ⟨N + 1, 1, none⟩ = some v ∧ w'.frozen? ⟨N + 1, 1, none⟩ = false ∧ Below N w w' ∧ (∀ (b : Nat) (d : Array Value) (t : TypeId), w.heap[b]? = some (.cells d t (0, 0)) → t ≠ 3 → w'.heap[b]? = some (.cells d t (0, 0))) := by
  obtain ⟨i0, hi, hz0, hz1, hz2⟩ := info_parts info_int
  have h1 := h.below (below_alloc w (.cells #[.int .i64 x] 3))
  have hN : N ≤ w.heap.size := Nat.le_of_lt (heap_lt h.hr)
  obtain ⟨v', w', hr, ho, hg1, -, -⟩ := run_append_own_at (P := Tryz.prog) (w.alloc (.cells #[.int .i64 x] 3)) N 52 52 3 i0 (.int .i64 0) 1 8 Tryz.underlying52 hi hz0 hz1 hz2 rfl (by decide) v L.length (ic L) h1.ow ⟨w.heap.size, 0, none⟩ 1 1 [.int .i64 x] rfl (cell_one_new w _ _) (ic_one [x]) (by unfold maxLen; omega) (by omega) (by rw [World.size_alloc]; omega)
  obtain ⟨oa, c, rfl⟩ := own_sl ho
  have a2 : w'.heap[N + 1]? = some (.cells #[.int .i64 sz, v, .bool cl, .bool rt] 138 (0, 0)) := (hg1.block _ (heap_lt h1.hs) (fun e => own_ib h1.ow h1.hs e.symm)).trans h1.hs
  refine ⟨oa, c, w', hr, h1.row hg1 (fun k hk => ⟨fun e => own_ib h1.ow h1.hr (by rw [hk, e]), fun e => own_ib h1.ow h1.hs (by rw [hk, e])⟩) (L' := L ++ [x]) (by rw [ic_app, List.length_append]; exact ho), cell_of a2 1, frozen_of a2 1, ?_, fun b d t hb ht => ?_⟩
  rotate_left
  · have hb1 := heap_below hb (below_alloc w (.cells #[.int .i64 x] 3))
    exact (hg1.block b (heap_lt hb1) (Ba.own_ty h1.ow hb1 ht)).trans hb1
  exact ((below_alloc w (.cells #[.int .i64 x] 3)).mono hN).grown hg1 (by rw [World.size_alloc]; omega) (fun y hy => (h1.ow.lt y hy).1)
/-- the first value is taken off: the others, in a row of their own -/
theorem IB.tail {y : Int} {r : List Int} {g cap : Nat} (h : IB w N (.slice (some ⟨g, 0, none⟩) (r.length + 1) cap) sz (y :: r) cl rt) (hl : r.length ≤ 4000) (o m c : Nat) (hm : m = r.length) (ho : r ≠ [] → o = 1) :
    ∃ oa c' w', (Builtin.append_ #[52, 52] 52 #[.slice none 0 0, .slice (some ⟨g, o, none⟩) m c]).run Tryz.prog w = .ok (.slice oa r.length c') w' ∧ IB (w'.setCell ⟨N + 1, 1, none⟩ (.slice oa r.length c')) N (.slice oa r.length c') sz r cl rt ∧ w'.cell? ⟨N + 1, 1, none⟩ = some (.slice (some ⟨g, 0, none⟩) (r.length + 1) cap) ∧ w'.frozen? ⟨N + 1, 1, none⟩ = false ∧ Below N w w' ∧ (∀ (b : Nat) (o : Obj), w.heap[b]? = some o → w'.heap[b]? = some o) := by
  subst hm
  obtain ⟨i0, hi, hz0, hz1, hz2⟩ := info_parts info_int
  have hN : N ≤ w.heap.size := Nat.le_of_lt (heap_lt h.hr)
  have hsrc : ∀ j u, (ic r)[j]? = some u → w.cell? ((⟨g, o, none⟩ : Addr).add j) = some u := by
    intro j u hj
    have hne : r ≠ [] := by rintro rfl; simp [ic] at hj
    have ho1 := ho hne
    subst ho1
    rcases h.ow.2 with ⟨e, -⟩ | ⟨g', cap', cur, e, -, hg, h1, -, -, h3⟩
    · cases e
    · cases e
      rw [Addr.add_lit, cell_of hg]
      have e1 : (ic (y :: r))[1 + j]? = some u := by rw [Nat.add_comm]; exact hj
      have hjl : j < r.length := by have := (List.getElem?_eq_some_iff.1 hj).1; rwa [ic_len] at this
      rw [← h3, List.getElem?_take, if_pos (by simp; omega)] at e1
      simpa using e1
  obtain ⟨v', w', hr, ho, hg1, -, -⟩ := run_append_own_at (P := Tryz.prog) w N 52 52 3 i0 (.int .i64 0) 1 8 Tryz.underlying52 hi hz0 hz1 hz2 rfl (by decide) (.slice none 0 0) 0 [] (World.ownsRow_nil _ _ _ _) ⟨g, o, none⟩ r.length c (ic r) (by rw [ic_len, Nat.mul_one]) hsrc (ic_one r) (by unfold maxLen; omega) (by omega) hN
  rw [Nat.zero_add, List.nil_append] at ho
  obtain ⟨oa, c', rfl⟩ := own_sl ho
  have a2 : w'.heap[N + 1]? = _ := (hg1.block _ (heap_lt h.hs) (fun e => by cases e)).trans h.hs
  refine ⟨oa, c', w', hr, h.row hg1 (fun k hk => by cases hk) ho, cell_of a2 1, frozen_of a2 1, (Below.refl N w).grown hg1 hN (fun y hy => by cases hy), fun b o hb => ?_⟩
  exact (hg1.block _ (heap_lt hb) (fun e => by cases e)).trans hb
end
theorem inn_succ {l : List Ev} {k : Nat} {x : Ev} (h : l[k]? = some x) (c : Int) : inn l (k + 1) c = ins (inn l k c) c x l[k + 1]? := by simp [inn, h]
end Gu
end Go.Proofs.YtiobcfldnfiiaaaGreat
/- The document's gauge, over this seat's program: Ordered, Closed. -/
namespace Go.Proofs.YtiobcfldnfiiaaaGreat
open Go.ChangeShapes Go.WideShapes Go.ChangeAt Go.RowKit
namespace Gu
open En Ba

end Gu
end Go.Proofs.YtiobcfldnfiiaaaGreat
/- Which events are right, kind by kind; the reference's within, over this seat's program. -/
namespace Go.Proofs.YtiobcfldnfiiaaaGreat
open Go.ChangeShapes Go.WideShapes Go.ChangeAt Go.RowKit
namespace En
open Ba Re

theorem within_any (n lo hi : Int) (w : World) :
    Calls Tryz.prog 89 #[.int .i64 n, .int .i64 lo, .int .i64 hi] w fun r w' => r = .returned (.bool (decide (lo ≤ n ∧ n ≤ hi))) ∧ w' = w := by
  rw [show decide (lo ≤ n ∧ n ≤ hi) = (decide (lo ≤ n) && decide (n ≤ hi)) by simp]
  cases h1 : decide (lo ≤ n)
  · go_enter Tryz.func89, Tryz.ntmps89
    go_wp2_with fail
    go_ret
    exact ⟨rfl, rfl⟩
  · go_enter Tryz.func89, Tryz.ntmps89
    go_wp2_with fail
    go_ret
    exact ⟨ret_bool (by simp), rfl⟩
theorem chk1 (g c a v m : Int) (s o : Bool) : chk ⟨1, g, c, a, v, m, s, o⟩ = if s = false ∧ o = false ∧ (0 ≤ g ∧ g ≤ 511) ∧ c = -1 ∧ a = -1 ∧ (0 ≤ v ∧ v ≤ 7) ∧ (0 ≤ m ∧ m ≤ 511) then 0 else 4 := by
  unfold chk
  rw [if_neg (by show ¬ ((1 : Int) < 1 ∨ 13 < (1 : Int)); decide)]
  have h : ((ff ⟨1, g, c, a, v, m, s, o⟩ && okF ⟨1, g, c, a, v, m, s, o⟩) = true) ↔ (s = false ∧ o = false ∧ (0 ≤ g ∧ g ≤ 511) ∧ c = -1 ∧ a = -1 ∧ (0 ≤ v ∧ v ≤ 7) ∧ (0 ≤ m ∧ m ≤ 511)) := by
    cases s <;> cases o <;> simp [ff, okF, okA, spn, inS, fl, nth, List.range, List.range.loop] <;> (try split) <;> (try simp) <;> omega
  by_cases q : s = false ∧ o = false ∧ (0 ≤ g ∧ g ≤ 511) ∧ c = -1 ∧ a = -1 ∧ (0 ≤ v ∧ v ≤ 7) ∧ (0 ≤ m ∧ m ≤ 511)
  · rw [if_pos q, if_pos (h.2 q)]
  · rw [if_neg q, if_neg (fun z => q (h.1 z))]
theorem chk2 (g c a v m : Int) (s o : Bool) : chk ⟨2, g, c, a, v, m, s, o⟩ = if s = false ∧ o = false ∧ (0 ≤ g ∧ g ≤ 511) ∧ (0 ≤ c ∧ c ≤ 511) ∧ a = -1 ∧ (0 ≤ v ∧ v ≤ 4) ∧ m = -1 then 0 else 4 := by
  unfold chk
  rw [if_neg (by show ¬ ((2 : Int) < 1 ∨ 13 < (2 : Int)); decide)]
  have h : ((ff ⟨2, g, c, a, v, m, s, o⟩ && okF ⟨2, g, c, a, v, m, s, o⟩) = true) ↔ (s = false ∧ o = false ∧ (0 ≤ g ∧ g ≤ 511) ∧ (0 ≤ c ∧ c ≤ 511) ∧ a = -1 ∧ (0 ≤ v ∧ v ≤ 4) ∧ m = -1) := by
    cases s <;> cases o <;> simp [ff, okF, okA, spn, inS, fl, nth, List.range, List.range.loop] <;> (try split) <;> (try simp) <;> omega
  by_cases q : s = false ∧ o = false ∧ (0 ≤ g ∧ g ≤ 511) ∧ (0 ≤ c ∧ c ≤ 511) ∧ a = -1 ∧ (0 ≤ v ∧ v ≤ 4) ∧ m = -1
  · rw [if_pos q, if_pos (h.2 q)]
  · rw [if_neg q, if_neg (fun z => q (h.1 z))]
theorem chk3 (g c a v m : Int) (s o : Bool) : chk ⟨3, g, c, a, v, m, s, o⟩ = if s = true ∧ o = false ∧ (0 ≤ g ∧ g ≤ 511) ∧ (0 ≤ c ∧ c ≤ 511) ∧ (-1 ≤ a ∧ a ≤ 3) ∧ (0 ≤ v ∧ v ≤ 99) ∧ (-1 ≤ m ∧ m ≤ 511) then 0 else 4 := by
  unfold chk
  rw [if_neg (by show ¬ ((3 : Int) < 1 ∨ 13 < (3 : Int)); decide)]
  have h : ((ff ⟨3, g, c, a, v, m, s, o⟩ && okF ⟨3, g, c, a, v, m, s, o⟩) = true) ↔ (s = true ∧ o = false ∧ (0 ≤ g ∧ g ≤ 511) ∧ (0 ≤ c ∧ c ≤ 511) ∧ (-1 ≤ a ∧ a ≤ 3) ∧ (0 ≤ v ∧ v ≤ 99) ∧ (-1 ≤ m ∧ m ≤ 511)) := by
    cases s <;> cases o <;> simp [ff, okF, okA, spn, inS, fl, nth, vm, ml, mh, List.range, List.range.loop] <;> (try split) <;> (try simp) <;> omega
  by_cases q : s = true ∧ o = false ∧ (0 ≤ g ∧ g ≤ 511) ∧ (0 ≤ c ∧ c ≤ 511) ∧ (-1 ≤ a ∧ a ≤ 3) ∧ (0 ≤ v ∧ v ≤ 99) ∧ (-1 ≤ m ∧ m ≤ 511)
  · rw [if_pos q, if_pos (h.2 q)]
  · rw [if_neg q, if_neg (fun z => q (h.1 z))]
theorem chk4 (g c a v m : Int) (s o : Bool) : chk ⟨4, g, c, a, v, m, s, o⟩ = if s = false ∧ (0 ≤ g ∧ g ≤ 511) ∧ (0 ≤ c ∧ c ≤ 511) ∧ (-1 ≤ a ∧ a ≤ 3) ∧ (0 ≤ v ∧ v ≤ 99) ∧ (-1 ≤ m ∧ m ≤ 511) ∧ (o = true ∨ v = 0 ∧ m = -1) then 0 else 4 := by
  unfold chk
  rw [if_neg (by show ¬ ((4 : Int) < 1 ∨ 13 < (4 : Int)); decide)]
  have h : ((ff ⟨4, g, c, a, v, m, s, o⟩ && okF ⟨4, g, c, a, v, m, s, o⟩) = true) ↔ (s = false ∧ (0 ≤ g ∧ g ≤ 511) ∧ (0 ≤ c ∧ c ≤ 511) ∧ (-1 ≤ a ∧ a ≤ 3) ∧ (0 ≤ v ∧ v ≤ 99) ∧ (-1 ≤ m ∧ m ≤ 511) ∧ (o = true ∨ v = 0 ∧ m = -1)) := by
    cases s <;> cases o <;> simp [ff, okF, okA, spn, inS, fl, nth, vm, ml, mh, List.range, List.range.loop] <;> (try split) <;> (try simp) <;> omega
  by_cases q : s = false ∧ (0 ≤ g ∧ g ≤ 511) ∧ (0 ≤ c ∧ c ≤ 511) ∧ (-1 ≤ a ∧ a ≤ 3) ∧ (0 ≤ v ∧ v ≤ 99) ∧ (-1 ≤ m ∧ m ≤ 511) ∧ (o = true ∨ v = 0 ∧ m = -1)
  · rw [if_pos q, if_pos (h.2 q)]
  · rw [if_neg q, if_neg (fun z => q (h.1 z))]
theorem chk5 (g c a v m : Int) (s o : Bool) : chk ⟨5, g, c, a, v, m, s, o⟩ = if s = false ∧ o = false ∧ (0 ≤ g ∧ g ≤ 511) ∧ (0 ≤ c ∧ c ≤ 511) ∧ a = -1 ∧ v = -1 ∧ m = -1 then 0 else 4 := by
  unfold chk
  rw [if_neg (by show ¬ ((5 : Int) < 1 ∨ 13 < (5 : Int)); decide)]
  have h : ((ff ⟨5, g, c, a, v, m, s, o⟩ && okF ⟨5, g, c, a, v, m, s, o⟩) = true) ↔ (s = false ∧ o = false ∧ (0 ≤ g ∧ g ≤ 511) ∧ (0 ≤ c ∧ c ≤ 511) ∧ a = -1 ∧ v = -1 ∧ m = -1) := by
    cases s <;> cases o <;> simp [ff, okF, okA, spn, inS, fl, nth, List.range, List.range.loop] <;> (try split) <;> (try simp) <;> omega
  by_cases q : s = false ∧ o = false ∧ (0 ≤ g ∧ g ≤ 511) ∧ (0 ≤ c ∧ c ≤ 511) ∧ a = -1 ∧ v = -1 ∧ m = -1
  · rw [if_pos q, if_pos (h.2 q)]
  · rw [if_neg q, if_neg (fun z => q (h.1 z))]
theorem chk6 (g c a v m : Int) (s o : Bool) : chk ⟨6, g, c, a, v, m, s, o⟩ = if o = false ∧ (0 ≤ g ∧ g ≤ 511) ∧ (a = -1 ∧ (-1 ≤ c ∧ c ≤ 511) ∧ (s = true ∧ (0 ≤ v ∧ v ≤ 99) ∨ s = false ∧ v = 0) ∨ (0 ≤ a ∧ a ≤ 4) ∧ c = -1 ∧ s = false ∧ v = 0) ∧ m = -1 then 0 else 4 := by
  unfold chk
  rw [if_neg (by show ¬ ((6 : Int) < 1 ∨ 13 < (6 : Int)); decide)]
  have h : ((ff ⟨6, g, c, a, v, m, s, o⟩ && okF ⟨6, g, c, a, v, m, s, o⟩) = true) ↔ (o = false ∧ (0 ≤ g ∧ g ≤ 511) ∧ (a = -1 ∧ (-1 ≤ c ∧ c ≤ 511) ∧ (s = true ∧ (0 ≤ v ∧ v ≤ 99) ∨ s = false ∧ v = 0) ∨ (0 ≤ a ∧ a ≤ 4) ∧ c = -1 ∧ s = false ∧ v = 0) ∧ m = -1) := by
    cases s <;> cases o <;> simp [ff, okF, okA, spn, inS, fl, nth, vm, List.range, List.range.loop] <;> (try split) <;> (try simp) <;> omega
  by_cases q : o = false ∧ (0 ≤ g ∧ g ≤ 511) ∧ (a = -1 ∧ (-1 ≤ c ∧ c ≤ 511) ∧ (s = true ∧ (0 ≤ v ∧ v ≤ 99) ∨ s = false ∧ v = 0) ∨ (0 ≤ a ∧ a ≤ 4) ∧ c = -1 ∧ s = false ∧ v = 0) ∧ m = -1
  · rw [if_pos q, if_pos (h.2 q)]
  · rw [if_neg q, if_neg (fun z => q (h.1 z))]
theorem chk7 (g c a v m : Int) (s o : Bool) : chk ⟨7, g, c, a, v, m, s, o⟩ = if (0 ≤ g ∧ g ≤ 511) ∧ (0 ≤ c ∧ c ≤ 511) ∧ (-1 ≤ a ∧ a ≤ 3) ∧ (0 ≤ v ∧ v ≤ 99) ∧ (0 ≤ m ∧ m ≤ 511) ∧ (o = true ∨ s = false ∧ v = 0) then 0 else 4 := by
  unfold chk
  rw [if_neg (by show ¬ ((7 : Int) < 1 ∨ 13 < (7 : Int)); decide)]
  have h : ((ff ⟨7, g, c, a, v, m, s, o⟩ && okF ⟨7, g, c, a, v, m, s, o⟩) = true) ↔ ((0 ≤ g ∧ g ≤ 511) ∧ (0 ≤ c ∧ c ≤ 511) ∧ (-1 ≤ a ∧ a ≤ 3) ∧ (0 ≤ v ∧ v ≤ 99) ∧ (0 ≤ m ∧ m ≤ 511) ∧ (o = true ∨ s = false ∧ v = 0)) := by
    cases s <;> cases o <;> simp [ff, okF, okA, spn, inS, fl, nth, vm, ml, mh, List.range, List.range.loop] <;> (try split) <;> (try simp) <;> omega
  by_cases q : (0 ≤ g ∧ g ≤ 511) ∧ (0 ≤ c ∧ c ≤ 511) ∧ (-1 ≤ a ∧ a ≤ 3) ∧ (0 ≤ v ∧ v ≤ 99) ∧ (0 ≤ m ∧ m ≤ 511) ∧ (o = true ∨ s = false ∧ v = 0)
  · rw [if_pos q, if_pos (h.2 q)]
  · rw [if_neg q, if_neg (fun z => q (h.1 z))]
theorem chk8 (g c a v m : Int) (s o : Bool) : chk ⟨8, g, c, a, v, m, s, o⟩ = if s = false ∧ o = false ∧ (0 ≤ g ∧ g ≤ 511) ∧ c = -1 ∧ a = -1 ∧ v = -1 ∧ m = -1 then 0 else 4 := by
  unfold chk
  rw [if_neg (by show ¬ ((8 : Int) < 1 ∨ 13 < (8 : Int)); decide)]
  have h : ((ff ⟨8, g, c, a, v, m, s, o⟩ && okF ⟨8, g, c, a, v, m, s, o⟩) = true) ↔ (s = false ∧ o = false ∧ (0 ≤ g ∧ g ≤ 511) ∧ c = -1 ∧ a = -1 ∧ v = -1 ∧ m = -1) := by
    cases s <;> cases o <;> simp [ff, okF, okA, spn, inS, fl, nth, List.range, List.range.loop] <;> (try split) <;> (try simp) <;> omega
  by_cases q : s = false ∧ o = false ∧ (0 ≤ g ∧ g ≤ 511) ∧ c = -1 ∧ a = -1 ∧ v = -1 ∧ m = -1
  · rw [if_pos q, if_pos (h.2 q)]
  · rw [if_neg q, if_neg (fun z => q (h.1 z))]
theorem chk9 (g c a v m : Int) (s o : Bool) : chk ⟨9, g, c, a, v, m, s, o⟩ = if s = false ∧ o = false ∧ (0 ≤ g ∧ g ≤ 511) ∧ c = -1 ∧ a = -1 ∧ (0 ≤ v ∧ v ≤ 7) ∧ m = -1 then 0 else 4 := by
  unfold chk
  rw [if_neg (by show ¬ ((9 : Int) < 1 ∨ 13 < (9 : Int)); decide)]
  have h : ((ff ⟨9, g, c, a, v, m, s, o⟩ && okF ⟨9, g, c, a, v, m, s, o⟩) = true) ↔ (s = false ∧ o = false ∧ (0 ≤ g ∧ g ≤ 511) ∧ c = -1 ∧ a = -1 ∧ (0 ≤ v ∧ v ≤ 7) ∧ m = -1) := by
    cases s <;> cases o <;> simp [ff, okF, okA, spn, inS, fl, nth, List.range, List.range.loop] <;> (try split) <;> (try simp) <;> omega
  by_cases q : s = false ∧ o = false ∧ (0 ≤ g ∧ g ≤ 511) ∧ c = -1 ∧ a = -1 ∧ (0 ≤ v ∧ v ≤ 7) ∧ m = -1
  · rw [if_pos q, if_pos (h.2 q)]
  · rw [if_neg q, if_neg (fun z => q (h.1 z))]
theorem chk10 (g c a v m : Int) (s o : Bool) : chk ⟨10, g, c, a, v, m, s, o⟩ = if s = false ∧ o = false ∧ (0 ≤ g ∧ g ≤ 511) ∧ c = -1 ∧ a = -1 ∧ (0 ≤ v ∧ v ≤ 7) ∧ m = -1 then 0 else 4 := by
  unfold chk
  rw [if_neg (by show ¬ ((10 : Int) < 1 ∨ 13 < (10 : Int)); decide)]
  have h : ((ff ⟨10, g, c, a, v, m, s, o⟩ && okF ⟨10, g, c, a, v, m, s, o⟩) = true) ↔ (s = false ∧ o = false ∧ (0 ≤ g ∧ g ≤ 511) ∧ c = -1 ∧ a = -1 ∧ (0 ≤ v ∧ v ≤ 7) ∧ m = -1) := by
    cases s <;> cases o <;> simp [ff, okF, okA, spn, inS, fl, nth, List.range, List.range.loop] <;> (try split) <;> (try simp) <;> omega
  by_cases q : s = false ∧ o = false ∧ (0 ≤ g ∧ g ≤ 511) ∧ c = -1 ∧ a = -1 ∧ (0 ≤ v ∧ v ≤ 7) ∧ m = -1
  · rw [if_pos q, if_pos (h.2 q)]
  · rw [if_neg q, if_neg (fun z => q (h.1 z))]
theorem chk11 (g c a v m : Int) (s o : Bool) : chk ⟨11, g, c, a, v, m, s, o⟩ = if s = false ∧ o = false ∧ (0 ≤ g ∧ g ≤ 511) ∧ c = -1 ∧ a = -1 ∧ v = -1 ∧ m = -1 then 0 else 4 := by
  unfold chk
  rw [if_neg (by show ¬ ((11 : Int) < 1 ∨ 13 < (11 : Int)); decide)]
  have h : ((ff ⟨11, g, c, a, v, m, s, o⟩ && okF ⟨11, g, c, a, v, m, s, o⟩) = true) ↔ (s = false ∧ o = false ∧ (0 ≤ g ∧ g ≤ 511) ∧ c = -1 ∧ a = -1 ∧ v = -1 ∧ m = -1) := by
    cases s <;> cases o <;> simp [ff, okF, okA, spn, inS, fl, nth, List.range, List.range.loop] <;> (try split) <;> (try simp) <;> omega
  by_cases q : s = false ∧ o = false ∧ (0 ≤ g ∧ g ≤ 511) ∧ c = -1 ∧ a = -1 ∧ v = -1 ∧ m = -1
  · rw [if_pos q, if_pos (h.2 q)]
  · rw [if_neg q, if_neg (fun z => q (h.1 z))]
theorem chk12 (g c a v m : Int) (s o : Bool) : chk ⟨12, g, c, a, v, m, s, o⟩ = if s = false ∧ o = false ∧ (0 ≤ g ∧ g ≤ 511) ∧ c = -1 ∧ a = -1 ∧ v = -1 ∧ m = -1 then 0 else 4 := by
  unfold chk
  rw [if_neg (by show ¬ ((12 : Int) < 1 ∨ 13 < (12 : Int)); decide)]
  have h : ((ff ⟨12, g, c, a, v, m, s, o⟩ && okF ⟨12, g, c, a, v, m, s, o⟩) = true) ↔ (s = false ∧ o = false ∧ (0 ≤ g ∧ g ≤ 511) ∧ c = -1 ∧ a = -1 ∧ v = -1 ∧ m = -1) := by
    cases s <;> cases o <;> simp [ff, okF, okA, spn, inS, fl, nth, List.range, List.range.loop] <;> (try split) <;> (try simp) <;> omega
  by_cases q : s = false ∧ o = false ∧ (0 ≤ g ∧ g ≤ 511) ∧ c = -1 ∧ a = -1 ∧ v = -1 ∧ m = -1
  · rw [if_pos q, if_pos (h.2 q)]
  · rw [if_neg q, if_neg (fun z => q (h.1 z))]
theorem chk13 (g c a v m : Int) (s o : Bool) : chk ⟨13, g, c, a, v, m, s, o⟩ = if s = false ∧ o = false ∧ g = -1 ∧ c = -1 ∧ a = -1 ∧ v = -1 ∧ m = -1 then 0 else 4 := by
  unfold chk
  rw [if_neg (by show ¬ ((13 : Int) < 1 ∨ 13 < (13 : Int)); decide)]
  have h : ((ff ⟨13, g, c, a, v, m, s, o⟩ && okF ⟨13, g, c, a, v, m, s, o⟩) = true) ↔ (s = false ∧ o = false ∧ g = -1 ∧ c = -1 ∧ a = -1 ∧ v = -1 ∧ m = -1) := by
    cases s <;> cases o <;> simp [ff, okF, okA, spn, inS, fl, nth, List.range, List.range.loop] <;> (try split) <;> (try simp) <;> omega
  by_cases q : s = false ∧ o = false ∧ g = -1 ∧ c = -1 ∧ a = -1 ∧ v = -1 ∧ m = -1
  · rw [if_pos q, if_pos (h.2 q)]
  · rw [if_neg q, if_neg (fun z => q (h.1 z))]
end En
end Go.Proofs.YtiobcfldnfiiaaaGreat
