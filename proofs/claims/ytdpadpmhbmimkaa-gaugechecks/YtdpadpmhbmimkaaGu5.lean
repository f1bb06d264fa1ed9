/- The document's gauge, over this seat's program: what is in a channel (in). -/
import Derived.Test.YtdpadpmhbmimkaaGu4
import Derived.Deep.DeepCutAuto
import Derived.Deep.RegionLaw
import Derived.Maps.AppendAt
import Derived.OwnWalk
import Derived.Lib.AppendZeros
import Derived.Lib.Slices
namespace Go.Proofs.Ytdpadpmhbmimkaa
open Go.ChangeShapes Go.WideShapes Go.ChangeAt Go.RowKit
namespace Gu
open En Ba

def ic (l : List Int) : List Value := l.map (Value.int .i64)
theorem ic_app (l m : List Int) : ic (l ++ m) = ic l ++ ic m := by simp [ic]
theorem ic_one (l : List Int) : ∀ u ∈ ic l, u.oneCell' = true := by
  intro u hu
  obtain ⟨b, -, rfl⟩ := List.mem_map.1 hu
  rfl
theorem ic_len (l : List Int) : (ic l).length = l.length := by simp [ic]
theorem info_int : (Try.prog.info? 3).map (fun i => (i.zero, i.size, i.bytes)) = some (some (.int .i64 0), 1, 8) := by kernel_rfl
theorem size_ins : (Try.prog.info? 54).map (·.size) = some 4 := by kernel_rfl
theorem loadVar_ins {w : World} {b : Nat} {c : Array Value} {t : TypeId} (h : w.heap[b]? = some (.cells c t (0, 0))) (hc : c.size = 4) : (loadVar 54 ⟨b, 0, none⟩).run Try.prog w = .ok (.agg c) w :=
  run_loadVar_row w b t _ _ _ _ h Try.underlying54 rfl (by rw [size_ins, hc])
theorem own_sl {w : World} {base : Nat} {e : TypeId} {size n : Nat} {v : Value} {xs : List Value} (h : w.ownsRow base e size v n xs) : ∃ oa c, v = .slice oa n c := by
  rcases h.2 with ⟨rfl, rfl⟩ | ⟨g, cap, cr, rfl, -⟩
  · exact ⟨none, 0, rfl⟩
  · exact ⟨_, _, rfl⟩
theorem own_kb {w w' : World} {P base size : Nat} {e : TypeId} {v : Value} {n : Nat} {xs : List Value} (h : w.ownsRow base e size v n xs) (k : KB P w w') (hn : v.ownBlock ≠ some P) : w'.ownsRow base e size v n xs := by
  refine ⟨h.1, ?_⟩
  rcases h.2 with q | ⟨g, cap, cur, q1, q2, q3, q4⟩
  · exact .inl q
  · refine .inr ⟨g, cap, cur, q1, q2, k.heap q3 ?_, q4⟩
    subst q1; intro e; subst e; exact hn rfl
theorem below_set {w u : World} {n b i : Nat} {v : Value} (h : Below n w u) (hb : n ≤ b) : Below n w (u.setCell ⟨b, i, none⟩ v) := by
  refine ⟨h.os, h.tape, h.output, ?_, fun k hk => ?_⟩
  · have : (u.setCell ⟨b, i, none⟩ v).heap.size = u.heap.size := by simp [World.setCell]
    rw [this]; exact h.size
  · rw [← h.block k hk]
    exact Below.heap_setCell _ _ _ _ (by show k ≠ b; omega)
theorem step_append_run {ops : Array Oper} (w : World) {o : Oper} {a : Act} {K : Act → World → Prop} {Q : Exit → Act → World → Prop} {E : Prop} (hgd : o.guard = none) (s x : Operand) (t tn : TypeId)
    (ho : o.op = .call { callee := .builtin .append, args := #[s, x], argTypes := #[t, tn] }) (vs vx : Value) (hs : a.eval s = vs) (hx : a.eval x = vx)
    (v' : Value) (w' : World) (hr : (Builtin.append_ #[t, tn] o.type #[vs, vx]).run Try.prog w = .ok v' w') (h : K (a.put o.dst v') w') :
    if Region.wanted o (yielded ops a.tmps) = true then Oper.wp Try.prog o a w K Q else E := by
  have hw : Region.wanted o (yielded ops a.tmps) = true := by simp [Region.wanted, hgd]
  rw [if_pos hw]
  exact Lib.wp_append_run w s x t tn ho vs vx hs hx v' w' hr h
section
variable {ops : Array Oper} {rest : List Oper} {o : Oper} {a : Act} {w : World} {Q : Exit → Act → World → Prop}
theorem wpL_app (hgd : o.guard = none) (s x : Operand) (t tn : TypeId)
    (ho : o.op = .call { callee := .builtin .append, args := #[s, x], argTypes := #[t, tn] }) (vs vx : Value) (hs : a.eval s = vs) (hx : a.eval x = vx)
    (v' : Value) (w' : World) (hr : (Builtin.append_ #[t, tn] o.type #[vs, vx]).run Try.prog w = .ok v' w') (h : wpList Try.prog ops Q rest (a.put o.dst v') w') : wpList Try.prog ops Q (o :: rest) a w :=
  wpList_plain hgd fun _ hK => Lib.wp_append_run w s x t tn ho vs vx hs hx v' w' hr (hK _ _ h)
end
/-- the channel's record under way: at N the one that is handed back, at N + 1 the one that is kept -/
structure IB (w : World) (N : Nat) (v : Value) (sz : Int) (L : List Int) (cl rt : Bool) : Prop where
  hr : w.heap[N]? = some (.cells #[.int .i64 0, .slice none 0 0, .bool false, .bool false] 54 (0, 0))
  hs : w.heap[N + 1]? = some (.cells #[.int .i64 sz, v, .bool cl, .bool rt] 54 (0, 0))
  ow : w.ownsRow N 3 1 v L.length (ic L)
section
variable {w w' : World} {N : Nat} {v : Value} {sz : Int} {L : List Int} {cl rt : Bool}
theorem own_ib {P : Nat} {c : Array Value} {n : Nat} {xs : List Value} (h : w.ownsRow N 3 1 v n xs) (p : w.heap[P]? = some (.cells c 54 (0, 0))) : v.ownBlock ≠ some P := by
  rcases h.2 with ⟨rfl, -⟩ | ⟨g, cap, cur, rfl, -, q3, -⟩
  · intro e; cases e
  · intro e; cases e; rw [q3] at p; cases p
theorem IB.below (h : IB w N v sz L cl rt) (b : Below w.heap.size w w') : IB w' N v sz L cl rt := ⟨heap_below h.hr b, heap_below h.hs b, own_below h.ow b⟩
theorem IB.set (h : IB w N v sz L cl rt) (i : Nat) (x : Value) {sz' : Int} {cl' rt' : Bool} (e : #[Value.int .i64 sz, v, .bool cl, .bool rt].setIfInBounds i x = #[.int .i64 sz', v, .bool cl', .bool rt']) : IB (w.setCell ⟨N + 1, i, none⟩ x) N v sz' L cl' rt' := by
  have K := (KB.refl (N + 1) w).setCell i x
  exact ⟨K.heap h.hr (by omega), by rw [← e]; exact Ba.heap_setCell_same h.hs _, own_kb h.ow K (own_ib h.ow h.hs)⟩
theorem IB.row (h : IB w N v sz L cl rt) {row : Option Nat} (hg : w.grownBy w' row) (hrow : ∀ k, row = some k → k ≠ N ∧ k ≠ N + 1) {v' : Value} {L' : List Int} (ho : w'.ownsRow N 3 1 v' L'.length (ic L')) : IB (w'.setCell ⟨N + 1, 1, none⟩ v') N v' sz L' cl rt := by
  have a1 : w'.heap[N]? = _ := (hg.block _ (heap_lt h.hr) (fun e => (hrow _ e.symm).1 rfl)).trans h.hr
  have a2 : w'.heap[N + 1]? = _ := (hg.block _ (heap_lt h.hs) (fun e => (hrow _ e.symm).2 rfl)).trans h.hs
  have K := (KB.refl (N + 1) w').setCell 1 v'
  exact ⟨K.heap a1 (by omega), Ba.heap_setCell_same a2 _, own_kb ho K (own_ib ho a2)⟩
/-- one value is put behind the others -/
theorem IB.app (h : IB w N v sz L cl rt) (hl : L.length ≤ 4000) (x : Int) :
    ∃ oa c w', (Builtin.append_ #[33, 33] 33 #[v, .slice (some ⟨w.heap.size, 0, none⟩) 1 1]).run Try.prog (w.alloc (.cells #[.int .i64 x] 3)) = .ok (.slice oa (L.length + 1) c) w' ∧ IB (w'.setCell ⟨N + 1, 1, none⟩ (.slice oa (L.length + 1) c)) N (.slice oa (L.length + 1) c) sz (L ++ [x]) cl rt ∧ w'.cell? ⟨N + 1, 1, none⟩ = some v ∧ w'.frozen? ⟨N + 1, 1, none⟩ = false ∧ Below N w w' ∧ (∀ (b : Nat) (d : Array Value) (t : TypeId), w.heap[b]? = some (.cells d t (0, 0)) → t ≠ 3 → w'.heap[b]? = some (.cells d t (0, 0))) := by
  obtain ⟨i0, hi, hz0, hz1, hz2⟩ := info_parts info_int
  have h1 := h.below (below_alloc w (.cells #[.int .i64 x] 3))
  have hN : N ≤ w.heap.size := Nat.le_of_lt (heap_lt h.hr)
  obtain ⟨v', w', hr, ho, hg1, -, -⟩ := run_append_own_at (P := Try.prog) (w.alloc (.cells #[.int .i64 x] 3)) N 33 33 3 i0 (.int .i64 0) 1 8 Try.underlying33 hi hz0 hz1 hz2 rfl (by decide) v L.length (ic L) h1.ow ⟨w.heap.size, 0, none⟩ 1 1 [.int .i64 x] rfl (cell_one_new w _ _) (ic_one [x]) (by unfold maxLen; omega) (by omega) (by rw [World.size_alloc]; omega)
  obtain ⟨oa, c, rfl⟩ := own_sl ho
  have a2 : w'.heap[N + 1]? = some (.cells #[.int .i64 sz, v, .bool cl, .bool rt] 54 (0, 0)) := (hg1.block _ (heap_lt h1.hs) (fun e => own_ib h1.ow h1.hs e.symm)).trans h1.hs
  refine ⟨oa, c, w', hr, h1.row hg1 (fun k hk => ⟨fun e => own_ib h1.ow h1.hr (by rw [hk, e]), fun e => own_ib h1.ow h1.hs (by rw [hk, e])⟩) (L' := L ++ [x]) (by rw [ic_app, List.length_append]; exact ho), cell_of a2 1, frozen_of a2 1, ?_, fun b d t hb ht => ?_⟩
  rotate_left
  · have hb1 := heap_below hb (below_alloc w (.cells #[.int .i64 x] 3))
    exact (hg1.block b (heap_lt hb1) (Ba.own_ty h1.ow hb1 ht)).trans hb1
  exact ((below_alloc w (.cells #[.int .i64 x] 3)).mono hN).grown hg1 (by rw [World.size_alloc]; omega) (fun y hy => (h1.ow.lt y hy).1)
/-- the first value is taken off: the others, in a row of their own -/
theorem IB.tail {y : Int} {r : List Int} {g cap : Nat} (h : IB w N (.slice (some ⟨g, 0, none⟩) (r.length + 1) cap) sz (y :: r) cl rt) (hl : r.length ≤ 4000) (o m c : Nat) (hm : m = r.length) (ho : r ≠ [] → o = 1) :
    ∃ oa c' w', (Builtin.append_ #[33, 33] 33 #[.slice none 0 0, .slice (some ⟨g, o, none⟩) m c]).run Try.prog w = .ok (.slice oa r.length c') w' ∧ IB (w'.setCell ⟨N + 1, 1, none⟩ (.slice oa r.length c')) N (.slice oa r.length c') sz r cl rt ∧ w'.cell? ⟨N + 1, 1, none⟩ = some (.slice (some ⟨g, 0, none⟩) (r.length + 1) cap) ∧ w'.frozen? ⟨N + 1, 1, none⟩ = false ∧ Below N w w' ∧ (∀ (b : Nat) (o : Obj), w.heap[b]? = some o → w'.heap[b]? = some o) := by
  subst hm
  obtain ⟨i0, hi, hz0, hz1, hz2⟩ := info_parts info_int
  have hN : N ≤ w.heap.size := Nat.le_of_lt (heap_lt h.hr)
  have hsrc : ∀ j u, (ic r)[j]? = some u → w.cell? ((⟨g, o, none⟩ : Addr).add j) = some u := by
    intro j u hj
    have hne : r ≠ [] := by rintro rfl; simp [ic] at hj
    have ho1 := ho hne
    subst ho1
    rcases h.ow.2 with ⟨e, -⟩ | ⟨g', cap', cur, e, -, hg, h1, -, -, h3⟩
    · cases e
    · cases e
      rw [Addr.add_lit, cell_of hg]
      have e1 : (ic (y :: r))[1 + j]? = some u := by rw [Nat.add_comm]; exact hj
      have hjl : j < r.length := by have := (List.getElem?_eq_some_iff.1 hj).1; rwa [ic_len] at this
      rw [← h3, List.getElem?_take, if_pos (by simp; omega)] at e1
      simpa using e1
  obtain ⟨v', w', hr, ho, hg1, -, -⟩ := run_append_own_at (P := Try.prog) w N 33 33 3 i0 (.int .i64 0) 1 8 Try.underlying33 hi hz0 hz1 hz2 rfl (by decide) (.slice none 0 0) 0 [] (World.ownsRow_nil _ _ _ _) ⟨g, o, none⟩ r.length c (ic r) (by rw [ic_len, Nat.mul_one]) hsrc (ic_one r) (by unfold maxLen; omega) (by omega) hN
  rw [Nat.zero_add, List.nil_append] at ho
  obtain ⟨oa, c', rfl⟩ := own_sl ho
  have a2 : w'.heap[N + 1]? = _ := (hg1.block _ (heap_lt h.hs) (fun e => by cases e)).trans h.hs
  refine ⟨oa, c', w', hr, h.row hg1 (fun k hk => by cases hk) ho, cell_of a2 1, frozen_of a2 1, (Below.refl N w).grown hg1 hN (fun y hy => by cases hy), fun b o hb => ?_⟩
  exact (hg1.block _ (heap_lt hb) (fun e => by cases e)).trans hb
end
theorem inn_succ {l : List Ev} {k : Nat} {x : Ev} (h : l[k]? = some x) (c : Int) : inn l (k + 1) c = ins (inn l k c) c x l[k + 1]? := by simp [inn, h]
theorem put_len (L : List Int) (e : Ev) (nx : Option Ev) : (put L e nx).length ≤ L.length + 1 := by
  unfold put
  split
  · simp
  · split
    · split
      · simp
      · simp
    · simp
theorem mov_len (s : In) (e : Ev) (nx : Option Ev) : (mov s e nx).L.length ≤ s.L.length + 1 := by
  have h := put_len s.L e nx
  unfold mov
  split
  · split
    · rename_i h2; rw [h2] at h; simp at h ⊢; omega
    · simp
  · exact h
theorem inn_len (l : List Ev) (c : Int) : ∀ k, (inn l k c).L.length ≤ k
  | 0 => Nat.le_refl _
  | k + 1 => by
    have ih := inn_len l c k
    unfold inn
    split
    · unfold ins
      split
      · omega
      · split
        · have := mov_len (inn l k c) ‹Ev› l[k + 1]?; omega
        · simp only; omega
    · omega
set_option maxRecDepth 100000 in
set_option maxHeartbeats 12800000 in
theorem rin_any (oa : Option Addr) (l : List Ev) (cc : Nat) (c : Int) (n : Nat) (w : World) (hA : EsAt w oa l) (hn : n ≤ l.length) (hl : l.length ≤ 2000) :
    Calls Try.prog 29 #[.slice oa l.length cc, .int .i64 c, .int .i64 (n : Int)] w fun r w' => (∃ oa' c', r = .returned (.agg #[.int .i64 (inn l n c).size, .slice oa' (inn l n c).L.length c', .bool (inn l n c).closed, .bool (inn l n c).right])) ∧ Below w.heap.size w w' := by
  have HA := hide hA
  clear hA
  obtain ⟨M, hM⟩ : ∃ M, l.length = M := ⟨_, rfl⟩
  have HM := hide hM
  rw [hM] at hn hl ⊢
  clear hM
  have START : Hid (IB ((w.alloc (.cells #[.int .i64 0, .slice none 0 0, .bool false, .bool false] 54)).alloc (.cells #[.int .i64 0, .slice none 0 0, .bool false, .bool true] 54)) w.heap.size (.slice none 0 0) 0 [] false true) := by
    have h1 := heap_new w (.cells #[.int .i64 0, .slice none 0 0, .bool false, .bool false] 54)
    have h2 := heap_new (w.alloc (.cells #[.int .i64 0, .slice none 0 0, .bool false, .bool false] 54)) (.cells #[.int .i64 0, .slice none 0 0, .bool false, .bool true] 54)
    rw [World.size_alloc] at h2
    exact ⟨heap_below h1 (below_alloc _ _), h2, World.ownsRow_nil _ _ _ _⟩
  have B0 := hide (btr (below_alloc w (.cells #[.int .i64 0, .slice none 0 0, .bool false, .bool false] 54)) (below_alloc _ (.cells #[.int .i64 0, .slice none 0 0, .bool false, .bool true] 54)))
  go_enter Try.func29, Try.ntmps29
  go_wp2_with fail
  go_loopw [8] (fun i wr => ∃ (k : Nat) (v : Value), k ≤ n ∧ i = .int .i64 (k : Int) ∧ IB wr w.heap.size v (inn l k c).size (inn l k c).L (inn l k c).closed (inn l k c).right ∧ Below w.heap.size w wr) (fun i _ => n - (intOf i).toNat)
  case atStart => exact ⟨0, _, Nat.zero_le _, rfl, START.out, B0.out⟩
  case round =>
    obtain ⟨k, v, hk, rfl, ib, bl⟩ := hrel
    clear START B0
    by_cases hlt : k < n
    · have hlt' : (k : Int) < (n : Int) := by omega
      have hkM : (k : Int) < (M : Int) := by omega
      obtain ⟨x, hx⟩ : ∃ x, l[k]? = some x := ⟨_, List.getElem?_eq_getElem (by rw [HM.out]; omega)⟩
      obtain ⟨b1, o1, rfl, -⟩ := HA.out k x hx
      obtain ⟨p0, p1, p2, p3, p4, p5, p6, p7⟩ := (HA.out.below bl).read hx
      have NXT := hide (inn_succ hx c)
      have LEN := inn_len l c k
      have ES := hide ((HA.out.below bl).below (below_alloc wr (.cells #[.int .i64 x.k, .int .i64 x.g, .int .i64 x.c, .int .i64 x.a, .int .i64 x.v, .int .i64 x.m, .bool x.s, .bool x.o] 31)))
      have IB1 := hide (ib.below (below_alloc wr (.cells #[.int .i64 x.k, .int .i64 x.g, .int .i64 x.c, .int .i64 x.a, .int .i64 x.v, .int .i64 x.m, .bool x.s, .bool x.o] 31)))
      have BL1 := hide (btr bl (below_alloc wr (.cells #[.int .i64 x.k, .int .i64 x.g, .int .i64 x.c, .int .i64 x.a, .int .i64 x.v, .int .i64 x.m, .bool x.s, .bool x.o] 31)))
      have EV1 := hide (heap_new wr (.cells #[.int .i64 x.k, .int .i64 x.g, .int .i64 x.c, .int .i64 x.a, .int .i64 x.v, .int .i64 x.m, .bool x.s, .bool x.o] 31))
      have HSZ : w.heap.size + 1 < wr.heap.size := heap_lt ib.hs
      clear ib bl hx
      obtain ⟨s, hs⟩ : ∃ s, inn l k c = s := ⟨_, rfl⟩
      rw [hs] at NXT LEN IB1
      clear hs
      go_upto_region 6 with fail
      obtain ⟨E, hE⟩ : ∃ E, wr.heap.size = E := ⟨_, rfl⟩
      rw [hE] at EV1 HSZ ⊢
      clear hE p0 p1 p2 p3 p4 p5 p6 p7
      generalize wr.alloc (.cells #[.int .i64 x.k, .int .i64 x.g, .int .i64 x.c, .int .i64 x.a, .int .i64 x.v, .int .i64 x.m, .bool x.s, .bool x.o] 31) = W1 at *
      have v0 : W1.cell? ⟨E, 0, none⟩ = some (.int .i64 x.k) := cell_of EV1.out 0
      have v2 : W1.cell? ⟨E, 2, none⟩ = some (.int .i64 x.c) := cell_of EV1.out 2
      have v4 : W1.cell? ⟨E, 4, none⟩ = some (.int .i64 x.v) := cell_of EV1.out 4
      have v5 : W1.cell? ⟨E, 5, none⟩ = some (.int .i64 x.m) := cell_of EV1.out 5
      have v7 : W1.cell? ⟨E, 7, none⟩ = some (.bool x.o) := cell_of EV1.out 7
      have s0 : W1.cell? ⟨w.heap.size + 1, 0, none⟩ = some (.int .i64 s.size) := cell_of IB1.out.hs 0
      have s1 : W1.cell? ⟨w.heap.size + 1, 1, none⟩ = some v := cell_of IB1.out.hs 1
      have s2 : W1.cell? ⟨w.heap.size + 1, 2, none⟩ = some (.bool s.closed) := cell_of IB1.out.hs 2
      have s3 : W1.cell? ⟨w.heap.size + 1, 3, none⟩ = some (.bool s.right) := cell_of IB1.out.hs 3
      have f0 := frozen_of IB1.out.hs 0
      have f2 := frozen_of IB1.out.hs 2
      have f3 := frozen_of IB1.out.hs 3
      by_cases hc : x.c = c
      case neg =>
        have dc : (x.c != c) = true := by simpa using hc
        have FIN : Hid (inn l (k + 1) c = s) := by show _ = _; rw [NXT.out]; unfold ins; rw [if_pos hc]
        go_wp2_with fail
        go_roundw
        case rel => exact ⟨k + 1, v, by omega, by go_num, by rw [FIN.out]; exact IB1.out, BL1.out⟩
        case measure => simp [intOf]; omega
      have dc : (x.c != c) = false := by simpa using hc
      by_cases hm : moves x = true
      case neg =>
        have hmf : moves x = false := by simpa using hm
        have FIN : Hid (inn l (k + 1) c = ⟨if x.k = 2 then x.v else s.size, s.L, if x.k = 5 then true else s.closed, s.right⟩) := by show _ = _; rw [NXT.out]; unfold ins; rw [if_neg (by simp [hc]), hmf]; rfl
        unfold moves at hmf
        simp only [Bool.or_eq_false_iff, decide_eq_false_iff_not, Bool.and_eq_false_iff] at hmf
        obtain ⟨h3, h4⟩ := hmf
        have d3 : (x.k != 3) = true := by simp [h3]
        by_cases k2 : x.k = 2
        · have d2 : (x.k == 2) = true := by simp [k2]
          have d5 : (x.k == 5) = false := by simp; omega
          have d4 : (x.k != 4) = true := by simp; omega
          have IB2 := hide (IB1.out.set 0 (.int .i64 x.v) (sz' := x.v) (cl' := s.closed) (rt' := s.right) rfl)
          have BL2 := hide (below_set (i := 0) (v := .int .i64 x.v) BL1.out (show w.heap.size ≤ w.heap.size + 1 by omega))
          have F2 : Hid (inn l (k + 1) c = ⟨x.v, s.L, s.closed, s.right⟩) := by show _ = _; rw [FIN.out, if_pos k2, if_neg (by omega)]
          clear FIN k2 h3 h4
          go_wp2_with fail
          go_roundw
          case rel => exact ⟨k + 1, v, by omega, by go_num, by rw [F2.out]; exact IB2.out, BL2.out⟩
          case measure => simp [intOf]; omega
        have d2 : (x.k == 2) = false := by simp [k2]
        by_cases k5 : x.k = 5
        · have d5 : (x.k == 5) = true := by simp [k5]
          have d4 : (x.k != 4) = true := by simp; omega
          have IB2 := hide (IB1.out.set 2 (.bool true) (sz' := s.size) (cl' := true) (rt' := s.right) rfl)
          have BL2 := hide (below_set (i := 2) (v := .bool true) BL1.out (show w.heap.size ≤ w.heap.size + 1 by omega))
          have F2 : Hid (inn l (k + 1) c = ⟨s.size, s.L, true, s.right⟩) := by show _ = _; rw [FIN.out, if_neg k2, if_pos k5]
          clear FIN k5 h3 h4
          go_wp2_with fail
          go_roundw
          case rel => exact ⟨k + 1, v, by omega, by go_num, by rw [F2.out]; exact IB2.out, BL2.out⟩
          case measure => simp [intOf]; omega
        have d5 : (x.k == 5) = false := by simp [k5]
        have F2 : Hid (inn l (k + 1) c = s) := by show _ = _; rw [FIN.out, if_neg k2, if_neg k5]
        by_cases k4 : x.k = 4
        · have d4 : (x.k != 4) = false := by simp [k4]
          have ho : x.o = false := by
            rcases h4 with q | q
            · exact absurd k4 q
            · exact q
          rw [ho] at v7
          clear FIN k4 h3 h4
          go_wp2_with fail
          go_roundw
          case rel => exact ⟨k + 1, v, by omega, by go_num, by rw [F2.out]; exact IB1.out, BL1.out⟩
          case measure => simp [intOf]; omega
        · have d4 : (x.k != 4) = true := by simp [k4]
          clear FIN k4 h3 h4
          go_wp2_with fail
          go_roundw
          case rel => exact ⟨k + 1, v, by omega, by go_num, by rw [F2.out]; exact IB1.out, BL1.out⟩
          case measure => simp [intOf]; omega
      have FIN : Hid (inn l (k + 1) c = mov s x l[k + 1]?) := by show _ = _; rw [NXT.out]; unfold ins; rw [if_neg (by simp [hc]), if_pos hm]
      clear NXT
      have hmk := moves_k hm
      have d2 : (x.k == 2) = false := by rcases hmk with h | ⟨h, -⟩ <;> simp [h]
      have d5 : (x.k == 5) = false := by rcases hmk with h | ⟨h, -⟩ <;> simp [h]
      obtain ⟨va, vc, rfl⟩ := own_sl IB1.out.ow
      -- what is put in
      have mm1 : (M : Int) - 1 = ((M - 1 : Nat) : Int) := by omega
      obtain ⟨la, hla⟩ : ∃ la, ((k : Int) == ((M - 1 : Nat) : Int)) = la := ⟨_, rfl⟩
      have hla2 : (k == M - 1) = la := by rw [← hla, Bool.eq_iff_iff]; simp only [beq_iff_eq]; omega
      have NX : Hid (l[k + 1]?.isNone = la) := by
        show _ = _
        rw [← hla2]
        by_cases h : k + 1 < M
        · rw [List.getElem?_eq_getElem (by rw [HM.out]; exact h), show (k == M - 1) = false from by simp; omega]; rfl
        · rw [List.getElem?_eq_none (by rw [HM.out]; omega), show (k == M - 1) = true from by simp; omega]; rfl
      obtain ⟨nx, hnx⟩ : ∃ nx, l[k + 1]? = nx := ⟨_, rfl⟩
      have HNX := hide hnx
      rw [hnx] at FIN NX
      clear hnx
      have region11 : True := trivial
      have K3 : (x.k = 3 ∧ (x.k != 3) = false ∧ (x.k == 3) = true ∧ (x.k == 4) = false) ∨ (x.k = 4 ∧ x.o = true ∧ (x.k != 3) = true ∧ (x.k != 4) = false ∧ (x.k == 3) = false ∧ (x.k == 4) = true) := by
        rcases hmk with h | ⟨h, h2⟩
        · exact .inl (by simp [h])
        · exact .inr (by simp [h, h2])
      clear hmk hm
      go_upto_region 11 with fail
      go_cut [48] (fun s48 wc => s48 = .bool false ∧ wc = W1)
      case first =>
        rcases K3 with ⟨-, d3, -, -⟩ | ⟨-, ho, d3, d4, -, -⟩
        · go_wp2_with fail
          go_meet
          case rel => exact ⟨rfl, rfl⟩
        · rw [ho] at v7
          go_wp2_with fail
          go_meet
          case rel => exact ⟨rfl, rfl⟩
      case rest =>
        obtain ⟨rfl, e1⟩ := hcut
        obtain rfl := e1.symm
        clear e1 v7 v2 s2 f0 f2
        go_upto_region 13 with fail
        go_cut [56] (fun s56 wc => s56 = .bool (x.k == 3) ∧ wc = W1)
        case first =>
          go_wp2_with fail
          go_meet
          case rel => exact ⟨rfl, rfl⟩
        case rest =>
        obtain ⟨rfl, e1⟩ := hcut
        obtain rfl := e1.symm
        clear e1
        go_upto_if 56 with fail
        go_cut [] (fun wc => ∃ v', IB wc w.heap.size v' s.size (put s.L x nx) s.closed s.right ∧ wc.heap[E]? = some (.cells #[.int .i64 x.k, .int .i64 x.g, .int .i64 x.c, .int .i64 x.a, .int .i64 x.v, .int .i64 x.m, .bool x.s, .bool x.o] 31) ∧ Below w.heap.size w wc)
        case first =>
          rcases K3 with ⟨k3, d3, d3', d4⟩ | ⟨k4, ho, d3, d4, d3', d4'⟩
          · have PU : Hid (put s.L x nx = s.L ++ [x.v]) := by show _ = _; unfold put; rw [if_pos k3]
            obtain ⟨oa1, c1, w3, ap1, ib3, e3, z3, b3, ke3⟩ := IB1.out.app (by omega) x.v
            have AP1 := hide ap1
            have IB3 := hide ib3
            have BL3 := hide (below_set (i := 1) (v := .slice oa1 (s.L.length + 1) c1) (Below.trans BL1.out b3) (show w.heap.size ≤ w.heap.size + 1 by omega))
            have EV3 := hide (((KB.refl (w.heap.size + 1) w3).setCell 1 (.slice oa1 (s.L.length + 1) c1)).heap (ke3 E _ _ EV1.out (by decide)) (by omega))
            clear ap1 ib3 b3 ke3
            clear k3
            go_wp2_with (at_builtin; refine wpL_app rfl _ _ 33 33 rfl _ _ rfl rfl _ _ AP1.out ?_)
            go_meet
            case rel => exact ⟨_, by rw [PU.out]; exact IB3.out, EV3.out, BL3.out⟩
          · have nk3 : ¬ x.k = 3 := by omega
            by_cases hm0 : 0 ≤ x.m
            · have dm : decide (0 ≤ x.m) = true := decide_eq_true hm0
              cases la
              · cases nx with
                | none => exact absurd NX.out (by simp)
                | some y =>
                  have PU : Hid (put s.L x (some y) = s.L ++ [y.v]) := by show _ = _; unfold put; rw [if_neg nk3, if_pos hm0]
                  obtain ⟨-, -, -, -, y4, -, -, -⟩ := ES.out.read HNX.out
                  obtain ⟨k1, hk1⟩ : ∃ k1, k + 1 = k1 := ⟨_, rfl⟩
                  have hkM1 : (k1 : Int) < (M : Int) := by have := (List.getElem?_eq_some_iff.1 HNX.out).1; have := HM.out; omega
                  have hk0 : (0 : Int) ≤ (k1 : Int) := by omega
                  have wk1 : IntKind.i64.wrap ((k : Int) + 1) = (k1 : Int) := by rw [IntKind.wrap_i64]; omega
                  have y4' : W1.drew.cell? ⟨b1, o1 + k1 * 8 + 4, none⟩ = some (.int .i64 y.v) := by rw [← hk1]; exact y4
                  clear hk1
                  have s1' : W1.drew.cell? ⟨w.heap.size + 1, 1, none⟩ = some (.slice va s.L.length vc) := s1
                  have s1'' : (W1.alloc (.cells #[.int .i64 y.v] 3)).drew.cell? ⟨w.heap.size + 1, 1, none⟩ = some (.slice va s.L.length vc) := (below_alloc W1 (.cells #[.int .i64 y.v] 3)).cell (World.block_lt_of_cell? W1 _ s1) |>.trans s1
                  obtain ⟨oa1, c1, w3, ap1, ib3, e3, z3, b3, ke3⟩ := (IB1.out.below (bdrew1 _)).app (by omega) y.v
                  have AP1 := hide ap1
                  have IB3 := hide ib3
                  have BL3 := hide (below_set (i := 1) (v := .slice oa1 (s.L.length + 1) c1) (Below.trans (BL1.out.trans ((bdrew1 W1).mono BL1.out.size)) b3) (show w.heap.size ≤ w.heap.size + 1 by omega))
                  have EV3 := hide (((KB.refl (w.heap.size + 1) w3).setCell 1 (.slice oa1 (s.L.length + 1) c1)).heap (ke3 E _ _ (show W1.drew.heap[E]? = _ from EV1.out) (by decide)) (by omega))
                  clear ap1 ib3 b3 ke3
                  have AP1' : (Builtin.append_ #[33, 33] 33 #[.slice va s.L.length vc, .slice (some ⟨W1.heap.size, 0, none⟩) 1 1]).run Try.prog (W1.alloc (.cells #[.int .i64 y.v] 3)).drew = .ok (.slice oa1 (s.L.length + 1) c1) w3 := AP1.out
                  clear hm0 nk3 k4 y4
                  go_wp2_with fail
                  go_region_law (refine step_append_run _ (by rfl) _ _ _ _ (by rfl) _ _ (by rfl) (by rfl) _ _ AP1' ?_)
                  all_goals
                    go_wp2_with fail
                    go_meet
                    case rel => exact ⟨_, by rw [PU.out]; exact IB3.out, EV3.out, BL3.out⟩
              · have hnn : nx = none := by have := NX.out; simpa using this
                have PU : Hid (put s.L x nx = s.L) := by show _ = _; unfold put; rw [if_neg nk3, if_pos hm0, hnn]
                clear hm0 nk3 k4 hnn
                go_wp2_with fail
                go_meet
                case rel => exact ⟨_, by rw [PU.out]; exact IB1.out, EV1.out, BL1.out⟩
            · have dm : decide (0 ≤ x.m) = false := decide_eq_false hm0
              have PU : Hid (put s.L x nx = s.L) := by show _ = _; unfold put; rw [if_neg nk3, if_neg hm0]
              clear hm0 nk3 k4
              go_wp2_with fail
              go_meet
              case rel => exact ⟨_, by rw [PU.out]; exact IB1.out, EV1.out, BL1.out⟩
        case rest =>
          obtain ⟨v', ib, ev, bl⟩ := hcut
          clear v0 v4 v5 s0 s1 s3 f3 IB1 EV1 BL1 ES
          have PL := put_len s.L x nx
          obtain ⟨pt, hpt⟩ : ∃ pt, put s.L x nx = pt := ⟨_, rfl⟩
          have HPT := hide hpt
          rw [hpt] at ib PL
          clear hpt
          have IB2 := hide (ib.set 3 (.bool true) (sz' := s.size) (cl' := s.closed) (rt' := true) rfl)
          have EV2 := hide (((KB.refl (w.heap.size + 1) wc).setCell 3 (.bool true)).heap ev (by omega))
          have BL2 := hide (below_set (i := 3) (v := .bool true) bl (show w.heap.size ≤ w.heap.size + 1 by omega))
          have s3 : wc.cell? ⟨w.heap.size + 1, 3, none⟩ = some (.bool s.right) := cell_of ib.hs 3
          have f3 := frozen_of ib.hs 3
          clear ib ev bl
          go_upto_region 18 with fail
          generalize wc.setCell ⟨w.heap.size + 1, 3, none⟩ (.bool true) = W2 at *
          clear s3 f3
          have v0 : W2.cell? ⟨E, 0, none⟩ = some (.int .i64 x.k) := cell_of EV2.out 0
          have v4 : W2.cell? ⟨E, 4, none⟩ = some (.int .i64 x.v) := cell_of EV2.out 4
          have v5 : W2.cell? ⟨E, 5, none⟩ = some (.int .i64 x.m) := cell_of EV2.out 5
          obtain ⟨pb, HPB⟩ : ∃ pb, Hid (decide (x.k = 4 ∨ 0 ≤ x.m) = pb) := ⟨_, rfl⟩
          go_cut [90] (fun s90 wd => s90 = .bool pb ∧ wd = W2)
          case first =>
            rcases K3 with ⟨k3, -, -, d4⟩ | ⟨k4, -, -, -, -, d4'⟩
            · have e90 : decide (x.k = 4 ∨ 0 ≤ x.m) = decide (0 ≤ x.m) := by rw [decide_eq_decide]; omega
              go_wp2_with fail
              go_meet
              case rel => exact ⟨by rw [← HPB.out, e90], rfl⟩
            · have e90 : decide (x.k = 4 ∨ 0 ≤ x.m) = true := decide_eq_true (.inl k4)
              go_wp2_with fail
              go_meet
              case rel => exact ⟨by rw [← HPB.out, e90], rfl⟩
          case rest =>
          obtain ⟨rfl, e1⟩ := hcut
          obtain rfl := e1.symm
          clear e1
          have s1 : W2.cell? ⟨w.heap.size + 1, 1, none⟩ = some v' := cell_of IB2.out.hs 1
          have s3 : W2.cell? ⟨w.heap.size + 1, 3, none⟩ = some (.bool true) := cell_of IB2.out.hs 3
          have f1 := frozen_of IB2.out.hs 1
          have f3 := frozen_of IB2.out.hs 3
          go_upto_if 90 with fail
          go_cut [] (fun wd => ∃ v'' L' rt', IB wd w.heap.size v'' s.size L' s.closed rt' ∧ L'.length ≤ 2001 ∧ mov s x nx = ⟨s.size, L', s.closed, rt' && decide ((L'.length : Int) ≤ s.size)⟩ ∧ Below w.heap.size w wd)
          case first =>
            cases pb
            rotate_left
            · have hP : x.k = 4 ∨ 0 ≤ x.m := of_decide_eq_true HPB.out
              cases pt with
              | nil =>
                have MV : Hid (mov s x nx = ⟨s.size, [], s.closed, (decide (0 ≤ x.m) && nx.isNone) && decide ((0 : Int) ≤ s.size)⟩) := by show _ = _; unfold mov; rw [if_pos hP, HPT.out]
                rw [NX.out] at MV
                obtain ⟨pa, pc, rfl⟩ := own_sl IB2.out.ow
                rw [List.length_nil] at s1
                cases hm0 : decide (0 ≤ x.m)
                · rw [hm0] at MV
                  have IB3 := hide (IB2.out.set 3 (.bool false) (sz' := s.size) (cl' := s.closed) (rt' := false) rfl)
                  have BL3 := hide (below_set (i := 3) (v := .bool false) BL2.out (show w.heap.size ≤ w.heap.size + 1 by omega))
                  clear hP
                  go_wp2_with fail
                  go_meet
                  case rel => exact ⟨_, [], false, IB3.out, by simp, by rw [MV.out]; rfl, BL3.out⟩
                · rw [hm0] at MV
                  have IB3 := hide (IB2.out.set 3 (.bool la) (sz' := s.size) (cl' := s.closed) (rt' := la) rfl)
                  have BL3 := hide (below_set (i := 3) (v := .bool la) BL2.out (show w.heap.size ≤ w.heap.size + 1 by omega))
                  clear hP
                  go_wp2_with fail
                  go_meet
                  case rel => exact ⟨_, [], la, IB3.out, by simp, by rw [MV.out]; rfl, BL3.out⟩
              | cons y r =>
                have MV : Hid (mov s x nx = ⟨s.size, r, s.closed, decide (y = x.v) && decide ((r.length : Int) ≤ s.size)⟩) := by show _ = _; unfold mov; rw [if_pos hP, HPT.out]
                obtain ⟨g, pc, rfl, hpc, hg0⟩ : ∃ g pc, v' = .slice (some ⟨g, 0, none⟩) (r.length + 1) pc ∧ r.length + 1 ≤ pc ∧ W2.cell? ⟨g, 0, none⟩ = some (.int .i64 y) := by
                  rcases IB2.out.ow.2 with ⟨-, h⟩ | ⟨g, cap, cur, rfl, -, hg, h1, -, -, h3⟩
                  · simp at h
                  · refine ⟨g, cap, rfl, h1, ?_⟩
                    rw [cell_of hg]
                    have e1 : (ic (y :: r))[0]? = some (.int .i64 y) := rfl
                    rw [← h3, List.getElem?_take, if_pos (by simp)] at e1
                    simpa using e1
                rw [List.length_cons] at PL
                obtain ⟨Rn, hRn⟩ : ∃ Rn, r.length + 1 = Rn := ⟨_, rfl⟩
                have dR : decide ((0 : Int) < (Rn : Int)) = true := by simp; omega
                have dR2 : decide (0 < Rn) = true := by simp; omega
                have dR3 : (0 : Int) < (Rn : Int) := by omega
                have dR4 : (1 : Int) ≤ (Rn : Int) := by omega
                have dR5 : 1 ≤ Rn := by omega
                have hRb : Rn ≤ 2001 := by omega
                obtain ⟨rq, hrq⟩ : ∃ rq, (y == x.v) = rq := ⟨_, rfl⟩
                have RB : Hid (decide (y = x.v) = rq) := by show _ = _; rw [← hrq, Bool.eq_iff_iff]; simp
                have IB3 := hide ((IB2.out.below (bdrew1 _)).set 3 (.bool rq) (sz' := s.size) (cl' := s.closed) (rt' := rq) rfl)
                have BL3 := hide (below_set (i := 3) (v := .bool rq) (Below.trans BL2.out ((bdrew1 W2).mono BL2.out.size)) (show w.heap.size ≤ w.heap.size + 1 by omega))
                have s1' : W2.drew.cell? ⟨w.heap.size + 1, 1, none⟩ = some (.slice (some ⟨g, 0, none⟩) (r.length + 1) pc) := s1
                have s3' : W2.drew.cell? ⟨w.heap.size + 1, 3, none⟩ = some (.bool true) := s3
                have f3' : W2.drew.frozen? ⟨w.heap.size + 1, 3, none⟩ = false := f3
                have v4' : W2.drew.cell? ⟨E, 4, none⟩ = some (.int .i64 x.v) := v4
                have hg0' : W2.drew.cell? ⟨g, 0, none⟩ = some (.int .i64 y) := hg0
                rw [hRn] at s1 s1' hpc
                have hpc2 : (Rn : Int) ≤ (pc : Int) := by omega
                have hpc3 : (1 : Int) ≤ (pc : Int) := by omega
                by_cases hp1 : pc = 1
                · subst hp1
                  have hr0 : r = [] := by
                    cases r with
                    | nil => rfl
                    | cons _ _ => simp at hRn; omega
                  subst hr0
                  have hR1 : Rn = 1 := hRn.symm
                  subst hR1
                  obtain ⟨oa4, c4, w4, ap4, ib4, e4, z4, b4, -⟩ := IB3.out.tail (by simp) 0 0 0 rfl (fun h => absurd rfl h)
                  have AP4 : Hid ((Builtin.append_ #[33, 33] 33 #[.slice none 0 0, .slice (some ⟨g, 0, none⟩) 0 0]).run Try.prog (W2.drew.setCell ⟨w.heap.size + 1, 3, none⟩ (.bool rq)) = .ok (.slice oa4 0 c4) w4) := ap4
                  have IB4 : Hid (IB (w4.setCell ⟨w.heap.size + 1, 1, none⟩ (.slice oa4 0 c4)) w.heap.size (.slice oa4 0 c4) s.size [] s.closed rq) := ib4
                  have e4' : w4.cell? ⟨w.heap.size + 1, 1, none⟩ = some (.slice (some ⟨g, 0, none⟩) 1 1) := e4
                  have BL4 := hide (below_set (i := 1) (v := .slice oa4 0 c4) (Below.trans BL3.out b4) (show w.heap.size ≤ w.heap.size + 1 by omega))
                  have t1 : (W2.drew.setCell ⟨w.heap.size + 1, 3, none⟩ (.bool rq)).cell? ⟨w.heap.size + 1, 1, none⟩ = some (.slice (some ⟨g, 0, none⟩) 1 1) := cell_of IB3.out.hs 1
                  clear ap4 ib4 b4 hP hRn e4
                  go_upto_region 20 with fail
                  go_cut [] (fun we => we = W2.drew.setCell ⟨w.heap.size + 1, 3, none⟩ (.bool rq))
                  case first =>
                    go_region
                    all_goals
                      go_wp2_with fail
                      go_meet
                      case rel => rfl
                  case rest =>
                    subst hcut
                    generalize W2.drew.setCell ⟨w.heap.size + 1, 3, none⟩ (.bool rq) = W3 at *
                    go_wp2_with (at_builtin; refine wpL_app rfl _ _ 33 33 rfl _ _ rfl rfl _ _ AP4.out ?_)
                    go_meet
                    case rel => exact ⟨_, [], rq, IB4.out, by simp, by rw [MV.out, RB.out], BL4.out⟩
                · have HO : Hid (r ≠ [] → 1 = 1) := fun _ => rfl
                  obtain ⟨oa4, c4, w4, ap4, ib4, e4, z4, b4, -⟩ := IB3.out.tail (by omega) 1 (Rn - 1) (pc - 1) (by omega) HO.out
                  have AP4 := hide ap4
                  have IB4 := hide ib4
                  rw [hRn] at e4
                  have BL4 := hide (below_set (i := 1) (v := .slice oa4 r.length c4) (Below.trans BL3.out b4) (show w.heap.size ≤ w.heap.size + 1 by omega))
                  have t1 : (W2.drew.setCell ⟨w.heap.size + 1, 3, none⟩ (.bool rq)).cell? ⟨w.heap.size + 1, 1, none⟩ = some (.slice (some ⟨g, 0, none⟩) Rn pc) := by rw [← hRn]; exact cell_of IB3.out.hs 1
                  have hrl := hide hRn
                  clear ap4 ib4 b4 hP hRn
                  go_upto_region 20 with fail
                  go_cut [] (fun we => we = W2.drew.setCell ⟨w.heap.size + 1, 3, none⟩ (.bool rq))
                  case first =>
                    go_region
                    all_goals
                      go_wp2_with fail
                      go_meet
                      case rel => rfl
                  case rest =>
                    subst hcut
                    generalize W2.drew.setCell ⟨w.heap.size + 1, 3, none⟩ (.bool rq) = W3 at *
                    go_wp2_with (at_builtin; refine wpL_app rfl _ _ 33 33 rfl _ _ rfl rfl _ _ AP4.out ?_)
                    go_meet
                    case rel => exact ⟨_, r, rq, IB4.out, by have := hrl.out; omega, by rw [MV.out, RB.out], BL4.out⟩
            · have hP : ¬ (x.k = 4 ∨ 0 ≤ x.m) := of_decide_eq_false HPB.out
              have MV : Hid (mov s x nx = ⟨s.size, pt, s.closed, true && decide ((pt.length : Int) ≤ s.size)⟩) := by show _ = _; unfold mov; rw [if_neg hP, HPT.out]; rfl
              clear hP
              go_wp2_with fail
              go_meet
              case rel => exact ⟨_, pt, true, IB2.out, by omega, MV.out, BL2.out⟩
          case rest =>
            clear v0 v4 v5 s1 s3 f1 f3 IB2 EV2 BL2
            obtain ⟨v'', L', rt', ib, hL, mv, bl⟩ := hcut
            obtain ⟨qa, qc, rfl⟩ := own_sl ib.ow
            have FI : Hid (inn l (k + 1) c = ⟨s.size, L', s.closed, rt' && decide ((L'.length : Int) ≤ s.size)⟩) := FIN.out.trans mv
            have s0 := cell_of ib.hs 0
            have s1 := cell_of ib.hs 1
            have s3 := cell_of ib.hs 3
            have f3 := frozen_of ib.hs 3
            simp at s0 s1 s3
            have IB5 := hide ib
            have BL5 := hide bl
            clear ib bl mv FIN
            rename World => W5
            cases rt'
            · have IB6 := hide (IB5.out.set 3 (.bool false) (sz' := s.size) (cl' := s.closed) (rt' := false) rfl)
              have BL6 := hide (below_set (i := 3) (v := .bool false) BL5.out (show w.heap.size ≤ w.heap.size + 1 by omega))
              go_wp2_with fail
              go_roundw
              case rel => exact ⟨k + 1, _, by omega, by go_num, by rw [FI.out]; exact IB6.out, BL6.out⟩
              case measure => simp [intOf]; omega
            · have IB6 := hide (IB5.out.set 3 (.bool (decide ((L'.length : Int) ≤ s.size))) (sz' := s.size) (cl' := s.closed) (rt' := decide ((L'.length : Int) ≤ s.size)) rfl)
              have BL6 := hide (below_set (i := 3) (v := .bool (decide ((L'.length : Int) ≤ s.size))) BL5.out (show w.heap.size ≤ w.heap.size + 1 by omega))
              go_wp2_with fail
              go_roundw
              case rel => exact ⟨k + 1, _, by omega, by go_num, by rw [FI.out]; exact IB6.out, BL6.out⟩
              case measure => simp [intOf]; omega
    · have hlt' : ¬ ((k : Int) < (n : Int)) := by omega
      obtain rfl : k = n := by omega
      obtain ⟨va, vc, rfl⟩ := own_sl ib.ow
      have RR := hide ib
      have BL := hide bl
      have g0 := cell_of ib.hs 0
      have g1 := cell_of ib.hs 1
      have g2 := cell_of ib.hs 2
      have g3 := cell_of ib.hs 3
      have r0 := cell_of ib.hr 0
      have r1 := cell_of ib.hr 1
      have r2 := cell_of ib.hr 2
      have r3 := cell_of ib.hr 3
      have f0 := frozen_of ib.hr 0
      have f1 := frozen_of ib.hr 1
      have f2 := frozen_of ib.hr 2
      have f3 := frozen_of ib.hr 3
      simp at g0 g1 g2 g3 r0 r1 r2 r3
      clear ib bl
      obtain ⟨s, hs⟩ : ∃ s, inn l k c = s := ⟨_, rfl⟩
      have HS := hide hs
      rw [hs] at RR g0 g1 g2 g3
      clear hs
      have E1 : Hid (((((wr.setCell ⟨w.heap.size, 0, none⟩ (.int .i64 s.size)).setCell ⟨w.heap.size, 1, none⟩ (.slice va s.L.length vc)).setCell ⟨w.heap.size, 2, none⟩ (.bool s.closed)).setCell ⟨w.heap.size, 3, none⟩ (.bool s.right)).heap[w.heap.size]? = some (.cells #[.int .i64 s.size, .slice va s.L.length vc, .bool s.closed, .bool s.right] 54 (0, 0))) := Ba.heap_setCell_same (Ba.heap_setCell_same (Ba.heap_setCell_same (Ba.heap_setCell_same RR.out.hr _) _) _) _
      have K1 := hide (((((KB.refl w.heap.size wr).setCell 0 (.int .i64 s.size)).setCell 1 (.slice va s.L.length vc)).setCell 2 (.bool s.closed)).setCell 3 (.bool s.right))
      go_wp2_with fail
      exact bodyPost_ret (En.results_row1 Try.results29 _ _ _ _ rfl (loadVar_ins E1.out rfl)) rfl ⟨⟨_, _, by rw [HS.out]⟩, KB.below BL.out K1.out (Nat.le_refl _)⟩
end Gu
end Go.Proofs.Ytdpadpmhbmimkaa
