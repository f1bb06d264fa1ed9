/- Package slots, over this seat's program: a queue of clocks: first, take, add. -/
import Derived.Test.YtekdcfdjohlfcaaCx
import Derived.Test.YtekdcfdjohlfcaaFa
import Derived.Maps.AppendAt
import Derived.Lib.Slices
namespace Go.Proofs.Ytekdcfdjohlfcaa
open Go.ChangeShapes Go.WideShapes Go.ChangeAt Go.RowKit
namespace Sl
open Ck
open Ba (KF Bd Nw)

/-- a pointer to a clock; a row of them -/
def ptr (b : Nat) : Value := .pointer (some ⟨b, 0, none⟩)
def pcs (l : List Nat) : List Value := l.map ptr
theorem pcs_len (l : List Nat) : (pcs l).length = l.length * 1 := by simp [pcs]
theorem pcs_one (l : List Nat) : ∀ u ∈ pcs l, u.oneCell' = true := by
  intro u hu
  obtain ⟨b, -, rfl⟩ := List.mem_map.1 hu
  rfl
theorem info_pc : (Try.prog.info? 34).map (fun i => (i.zero, i.size, i.bytes)) = some (some (.pointer none), 1, 8) := by kernel_rfl
theorem zero_pc (w : World) : (zeroValue 34).run Try.prog w = .ok (.pointer none) w := by
  cases hi : Try.prog.info? 34 with
  | none => have := info_pc; rw [hi] at this; cases this
  | some i0 =>
    have hx := info_pc
    rw [hi] at hx
    simp at hx
    simp [zeroValue, typeInfo, hi, hx.1]
theorem step_append_run {ops : Array Oper} (w : World) {o : Oper} {a : Act} {K : Act → World → Prop} {Q : Exit → Act → World → Prop} {E : Prop} (hgd : o.guard = none) (s x : Operand) (t tn : TypeId)
    (ho : o.op = .call { callee := .builtin .append, args := #[s, x], argTypes := #[t, tn] }) (vs vx : Value) (hs : a.eval s = vs) (hx : a.eval x = vx)
    (v' : Value) (w' : World) (hr : (Builtin.append_ #[t, tn] o.type #[vs, vx]).run Try.prog w = .ok v' w') (h : K (a.put o.dst v') w') :
    if Region.wanted o (yielded ops a.tmps) = true then Oper.wp Try.prog o a w K Q else E := by
  have hw : Region.wanted o (yielded ops a.tmps) = true := by simp [Region.wanted, hgd]
  rw [if_pos hw]
  exact Lib.wp_append_run w s x t tn ho vs vx hs hx v' w' hr h
theorem heap_set_other (w : World) (S i k : Nat) (v : Value) (h : k ≠ S) : (w.setCell ⟨S, i, none⟩ v).heap[k]? = w.heap[k]? := by
  simp [World.setCell, Array.getElem?_modify, Ne.symm h]
theorem size_set (w : World) (S i : Nat) (v : Value) : (w.setCell ⟨S, i, none⟩ v).heap.size = w.heap.size := by simp [World.setCell]
theorem heap_row_other (w : World) (g k : Nat) (cs : Array Value) (h : k ≠ g) : (w.setRow g cs).heap[k]? = w.heap[k]? := by
  simp [World.setRow, Array.getElem?_modify, Ne.symm h]
theorem own_sl {w : World} {e : TypeId} {v : Value} {n : Nat} {xs : List Value} (h : w.ownsRow 0 e 1 v n xs) : ∃ oa c, v = .slice oa n c := by
  rcases h.2 with ⟨rfl, rfl⟩ | ⟨g, cap, cr, rfl, -⟩
  · exact ⟨none, 0, rfl⟩
  · exact ⟨_, _, rfl⟩
theorem own_set {w : World} {e : TypeId} {v : Value} {n S i : Nat} {xs : List Value} {u : Value} (h : w.ownsRow 0 e 1 v n xs) (hne : v.ownBlock ≠ some S) : (w.setCell ⟨S, i, none⟩ u).ownsRow 0 e 1 v n xs := by
  refine ⟨h.1, ?_⟩
  rcases h.2 with q | ⟨g, cap, cr, rfl, h0, hg, q⟩
  · exact .inl q
  · refine .inr ⟨g, cap, cr, rfl, h0, ?_, q⟩
    rw [heap_set_other _ _ _ _ _ (fun e => hne (by rw [← e]; rfl))]
    exact hg
theorem first_nil (w : World) : Calls Try.prog 59 #[.pointer none] w fun r w' => r = .returned (.tuple #[.pointer none, .bool false]) ∧ w' = w := by
  go_enter Try.func59, Try.ntmps59
  go_wp2_with fail
  go_ret2
  exact ⟨rfl, rfl⟩
/-- what the first one is -/
def fstV : List Nat → Value
  | [] => .pointer none
  | x :: _ => ptr x
theorem first_any (S i : Nat) (v : Value) (l : List Nat) (w : World) (hc : w.cell? ⟨S, i, none⟩ = some v) (ho : w.ownsRow 0 34 1 v l.length (pcs l)) :
    Calls Try.prog 59 #[.pointer (some ⟨S, i, none⟩)] w fun r w' => r = .returned (.tuple #[fstV l, .bool (!l.isEmpty)]) ∧ w' = w := by
  cases l with
  | nil =>
    obtain ⟨-, ⟨rfl, -⟩ | ⟨g, cap, cur, rfl, -⟩⟩ := ho
    · go_enter Try.func59, Try.ntmps59
      go_wp2_with fail
      go_ret2
      exact ⟨rfl, rfl⟩
    · go_enter Try.func59, Try.ntmps59
      go_wp2_with fail
      go_ret2
      exact ⟨rfl, rfl⟩
  | cons x l =>
    rcases ho with ⟨-, ⟨-, hn⟩ | ⟨g, cap, cur, rfl, -, hg, hle, hmx, hsz, htk⟩⟩
    · simp at hn
    · have h0 : cur[0]? = some (ptr x) := by
        have : (cur.toList.take ((x :: l).length * 1))[0]? = some (ptr x) := by rw [htk]; rfl
        rw [List.getElem?_take] at this
        split at this
        · simpa using this
        · cases this
      have c0 : w.cell? ⟨g, 0, none⟩ = some (ptr x) := by rw [cell_of hg]; exact h0
      unfold ptr at c0
      have e0 : (((x :: l).length : Int) == 0) = false := by rw [beq_eq_false_iff_ne]; simp only [List.length_cons]; omega
      have e1 : (0 : Int) < ((x :: l).length : Int) := by simp only [List.length_cons]; omega
      clear hg hsz htk hle h0
      generalize hN : (x :: l).length = N at *
      go_enter Try.func59, Try.ntmps59
      go_wp2_with fail
      go_ret2
      exact ⟨rfl, rfl⟩
set_option maxRecDepth 100000 in
set_option maxHeartbeats 1600000 in
/-- the first one is gone -/
theorem delete_any (v : Value) (x : Nat) (l : List Nat) (w : World) (ho : w.ownsRow 0 34 1 v (x :: l).length (pcs (x :: l))) :
    Calls Try.prog 60 #[v, .int .i64 0, .int .i64 1] w fun r w' => ∃ v', r = .returned v' ∧ w'.ownsRow 0 34 1 v' l.length (pcs l) ∧ v'.ownBlock = v.ownBlock ∧ w.grownBy w' v.ownBlock := by
  rcases ho with ⟨-, ⟨-, hn⟩ | ⟨g, cap, cur, rfl, -, hg, hle, hmx, hsz, htk⟩⟩
  · simp at hn
  have hL : (x :: l).length = l.length + 1 := rfl
  rw [hL] at hle htk ⊢
  have hm2 : cap ≤ 9223372036854775807 := by simp only [maxLen] at hmx; omega
  cases hi : Try.prog.info? 34 with
  | none => have := info_pc; rw [hi] at this; cases this
  | some i0 =>
  have hx := info_pc
  rw [hi] at hx
  simp at hx
  have hcell : ∀ j u, (pcs l)[j]? = some u → w.drew.cell? ((⟨g, 1, none⟩ : Addr).add j) = some u := by
    intro j u hj
    have e : (⟨g, 1, none⟩ : Addr).add j = ⟨g, 1 + j, none⟩ := by unfold Addr.add; split <;> simp_all
    rw [e]
    show w.cell? ⟨g, 1 + j, none⟩ = some u
    rw [cell_of hg]
    have : (cur.toList.take ((l.length + 1) * 1))[1 + j]? = some u := by
      rw [htk]
      show (ptr x :: pcs l)[1 + j]? = some u
      rw [Nat.add_comm, List.getElem?_cons_succ]
      exact hj
    rw [List.getElem?_take] at this
    split at this
    · simpa using this
    · cases this
  have hr : (Builtin.append_ #[89, 89] 89 #[.slice (some ⟨g, 0, none⟩) 0 cap, .slice (if cap = 1 then some ⟨g, 0, none⟩ else some ⟨g, 1, none⟩) l.length (cap - 1)]).run Try.prog w.drew = .ok (.slice (some ⟨g, 0, none⟩) l.length cap) (w.drew.setRow g (pcs l ++ cur.toList.drop l.length).toArray) := by
    by_cases hc1 : cap = 1
    · have hl0 : l.length = 0 := by omega
      have hnil : l = [] := List.eq_nil_of_length_eq_zero hl0
      subst hnil
      have hr := run_append_room (P := Try.prog) w.drew 89 89 34 i0 Try.underlying89 hi g 0 cap cur hg ⟨g, 0, none⟩ 0 (cap - 1) [] (by simp) (by simp) (by simp) (by omega) (by simp)
      rw [if_pos hc1]
      simpa [pcs] using hr
    · have hr := run_append_room (P := Try.prog) w.drew 89 89 34 i0 Try.underlying89 hi g 0 cap cur hg ⟨g, 1, none⟩ l.length (cap - 1) (pcs l) (by rw [hx.2.1]; exact pcs_len l) hcell (pcs_one l) (by omega) (by rw [pcs_len]; omega)
      rw [if_neg hc1]
      simp only [Nat.zero_mul, Nat.zero_add, List.take_zero, List.nil_append, pcs_len, Nat.mul_one] at hr
      exact hr
  have hg1 : (w.drew.setRow g (pcs l ++ cur.toList.drop l.length).toArray).heap[g]? = some (.cells (pcs l ++ cur.toList.drop l.length).toArray 34 (0, 0)) := by
    have hg' : w.drew.heap[g]? = some (.cells cur 34 (0, 0)) := hg
    simp only [World.setRow, Array.getElem?_modify, if_true, hg', Option.map_some]
  have hsz1 : (pcs l ++ cur.toList.drop l.length).toArray.size = cap := by simp [pcs]; omega
  have hcl : ∀ ty c, (Builtin.clear_ #[89] ty #[.slice (some ⟨g, l.length, none⟩) 1 c]).run Try.prog (w.drew.setRow g (pcs l ++ cur.toList.drop l.length).toArray) = .ok (.tuple #[]) ((w.drew.setRow g (pcs l ++ cur.toList.drop l.length).toArray).setCells g l.length (List.replicate 1 (.pointer none))) :=
    fun ty c => Lib.run_clear_slice _ _ _ ty _ Try.underlying89 zero_pc rfl rfl g l.length 1 c (by omega) (fun t ht => by rw [cell_of hg1, Array.getElem?_eq_getElem (by rw [hsz1]; omega)]; rfl) (fun t _ => frozen_of hg1 _)
  have hfin : (w.drew.setRow g (pcs l ++ cur.toList.drop l.length).toArray).setCells g l.length (List.replicate 1 (.pointer none)) = (w.drew.setRow g (pcs l ++ cur.toList.drop l.length).toArray).setCell ⟨g, l.length, none⟩ (.pointer none) := rfl
  rw [hfin] at hcl
  have hg2 := Ba.heap_setCell_same (i := l.length) hg1 (.pointer none)
  have FIN : Hid (∀ c, c = cap → ((w.drew.setRow g (pcs l ++ cur.toList.drop l.length).toArray).setCell ⟨g, l.length, none⟩ (.pointer none)).ownsRow 0 34 1 (.slice (some ⟨g, 0, none⟩) l.length c) l.length (pcs l) ∧ w.grownBy ((w.drew.setRow g (pcs l ++ cur.toList.drop l.length).toArray).setCell ⟨g, l.length, none⟩ (.pointer none)) (some g)) := by
    intro c hc
    subst hc
    refine ⟨⟨pcs_len l, .inr ⟨g, c, _, rfl, Nat.zero_le _, hg2, by omega, hmx, ?_, ?_⟩⟩, ⟨rfl, rfl, rfl, ?_, fun k hk hne => ?_⟩⟩
    · rw [Array.size_setIfInBounds, hsz1, Nat.mul_one]
    · rw [Array.toList_setIfInBounds, Nat.mul_one]
      rw [List.take_set_of_le (Nat.le_refl _)]
      simp [pcs]
    · simp [World.setCell, World.setRow]
    · have hne' : k ≠ g := fun e => hne (by rw [e])
      rw [heap_set_other _ _ _ _ _ hne', heap_row_other _ _ _ _ hne']
      rfl
  have HR := hide hr
  have HG := hide hg
  have HT := hide htk
  have HS := hide hsz
  have e01 : (l.length : Int) + 1 ≤ cap := by omega
  have e02 : (1 : Int) ≤ (l.length : Int) + 1 := by omega
  clear hr hcell hx hi hg htk hsz hg1 hg2 hsz1 hfin
  go_enter Try.func60, Try.ntmps60
  go_wp2_with fail
  go_region_law (refine step_append_run _ (by rfl) _ _ _ _ (by rfl) _ _ (by rfl) (by rfl) _ _ HR.out ?_)
  all_goals
    go_wp2_with fail
  all_goals
    go_ret
    exact ⟨_, rfl, (FIN.out _ (by first | rfl | omega)).1, rfl, (FIN.out _ rfl).2⟩
theorem take_nil (w : World) : Calls Try.prog 37 #[.pointer none] w fun r w' => r = .returned (.tuple #[.pointer none, .bool false]) ∧ w' = w := by
  go_enter Try.func37, Try.ntmps37
  go_wp2_with fail
  refine (first_nil _).mono ?_
  rintro r w1 ⟨rfl, rfl⟩
  go_wp2_with fail
  go_ret2
  exact ⟨rfl, rfl⟩
theorem take_empty (S i : Nat) (v : Value) (w : World) (hc : w.cell? ⟨S, i, none⟩ = some v) (ho : w.ownsRow 0 34 1 v 0 (pcs [])) :
    Calls Try.prog 37 #[.pointer (some ⟨S, i, none⟩)] w fun r w' => r = .returned (.tuple #[.pointer none, .bool false]) ∧ w' = w := by
  have FF := hide (first_any S i v [] w hc ho)
  clear hc ho
  go_enter Try.func37, Try.ntmps37
  go_wp2_with fail
  refine FF.out.mono ?_
  rintro r w1 ⟨rfl, rfl⟩
  go_wp2_with fail
  go_ret2
  exact ⟨rfl, rfl⟩
set_option maxHeartbeats 1600000 in
theorem take_any (S i : Nat) (T : TypeId) (cur : Array Value) (v : Value) (x : Nat) (l : List Nat) (w : World) (hS : w.heap[S]? = some (.cells cur T (0, 0))) (hi : cur[i]? = some v)
    (ho : w.ownsRow 0 34 1 v (x :: l).length (pcs (x :: l))) (hne : v.ownBlock ≠ some S) :
    Calls Try.prog 37 #[.pointer (some ⟨S, i, none⟩)] w fun r w' => r = .returned (.tuple #[ptr x, .bool true]) ∧ ∃ v', w'.heap[S]? = some (.cells (cur.setIfInBounds i v') T (0, 0)) ∧ w'.ownsRow 0 34 1 v' l.length (pcs l) ∧ v'.ownBlock = v.ownBlock ∧ KF (fun k => k = S ∨ v.ownBlock = some k) w w' := by
  have hc : w.cell? ⟨S, i, none⟩ = some v := by rw [cell_of hS]; exact hi
  have FF := hide (first_any S i v (x :: l) w hc ho)
  have DD := hide (delete_any v x l w ho)
  have HS := hide hS
  have hlt : S < w.heap.size := (Array.getElem?_eq_some_iff.1 hS).1
  unfold fstV ptr at FF
  unfold ptr
  clear ho hS
  go_enter Try.func37, Try.ntmps37
  go_wp2_with fail
  refine FF.out.mono ?_
  rintro r w0 ⟨rfl, e0⟩
  obtain rfl := e0.symm
  go_wp2_with fail
  refine DD.out.mono ?_
  rintro r w1 ⟨v', rfl, ho1, hb1, hg1⟩
  obtain ⟨oa', c', rfl⟩ := own_sl ho1
  have hS1 : w1.heap[S]? = some (.cells cur T (0, 0)) := (hg1.block S hlt (fun e => hne e.symm)).trans HS.out
  have c1 : w1.cell? ⟨S, i, none⟩ = some v := by rw [cell_of hS1]; exact hi
  have f1 : w1.frozen? ⟨S, i, none⟩ = false := frozen_of hS1 i
  have S2 : Hid ((w1.setCell ⟨S, i, none⟩ (.slice oa' l.length c')).heap[S]? = some (.cells (cur.setIfInBounds i (.slice oa' l.length c')) T (0, 0))) := Ba.heap_setCell_same hS1 (.slice oa' l.length c')
  have O2 : Hid ((w1.setCell ⟨S, i, none⟩ (.slice oa' l.length c')).ownsRow 0 34 1 (.slice oa' l.length c') l.length (pcs l)) := by
    exact own_set ho1 (by rw [hb1]; exact hne)
  have K2 : Hid (KF (fun k => k = S ∨ v.ownBlock = some k) w (w1.setCell ⟨S, i, none⟩ (.slice oa' l.length c'))) := by
    refine ⟨hg1.os, hg1.tape, hg1.output, by rw [size_set]; exact hg1.size, fun k hk hn => ?_⟩
    rw [heap_set_other _ _ _ _ _ (fun e => hn (.inl e))]
    exact hg1.block k hk (fun e => hn (.inr e.symm))
  have HB := hide hb1
  clear ho1 hb1 hg1 hS1 DD FF
  go_wp2_with fail
  go_ret2
  exact ⟨rfl, _, S2.out, O2.out, HB.out, K2.out⟩
set_option maxHeartbeats 1600000 in
/-- one is added at the end -/
theorem add_any (S i : Nat) (T : TypeId) (cur : Array Value) (v : Value) (x : Nat) (l : List Nat) (w : World) (hS : w.heap[S]? = some (.cells cur T (0, 0))) (hi : cur[i]? = some v)
    (ho : w.ownsRow 0 34 1 v l.length (pcs l)) (hne : v.ownBlock ≠ some S) (hl : l.length ≤ 100000) :
    Calls Try.prog 38 #[.pointer (some ⟨S, i, none⟩), ptr x] w fun r w' => r = .returned (.tuple #[]) ∧ ∃ v', w'.heap[S]? = some (.cells (cur.setIfInBounds i v') T (0, 0)) ∧ w'.ownsRow 0 34 1 v' (l ++ [x]).length (pcs (l ++ [x])) ∧ (v'.ownBlock = v.ownBlock ∨ ∃ N, v'.ownBlock = some N ∧ w.heap.size ≤ N) ∧ KF (fun k => k = S ∨ v.ownBlock = some k) w w' := by
  have hc : w.cell? ⟨S, i, none⟩ = some v := by rw [cell_of hS]; exact hi
  have hlt : S < w.heap.size := (Array.getElem?_eq_some_iff.1 hS).1
  cases hi0 : Try.prog.info? 34 with
  | none => have := info_pc; rw [hi0] at this; cases this
  | some i0 =>
  have hx := info_pc
  rw [hi0] at hx
  simp at hx
  have INF := hide (And.intro hi0 hx)
  have H1 := hide (ho.alloc (.cells #[ptr x] 34))
  have HS := hide hS
  unfold ptr at H1 ⊢
  clear hx hi0 ho hS
  go_enter Try.func38, Try.ntmps38
  go_wp2_with (at_builtin; refine wpList_append_own_at _ rfl _ _ 89 rfl 0 34 i0 (.pointer none) 1 8 Try.underlying89 INF.out.1 INF.out.2.1 INF.out.2.2.1 INF.out.2.2.2 rfl (by decide) _ _ _ rfl H1.out ⟨w.heap.size, 0, none⟩ 1 1 [.pointer (some ⟨x, 0, none⟩)] rfl rfl ?c1 ?c2 ?c3 ?c4 (Nat.zero_le _) ?_)
  case c1 => exact cell_one_new _ _ _
  case c2 => intro u hu; rw [List.mem_singleton] at hu; rw [hu]; rfl
  case c3 => unfold maxLen; omega
  case c4 => omega
  intro v' w2 ho hg _ hat
  obtain ⟨oa', c', rfl⟩ := own_sl ho
  have hne2 : some S ≠ v.ownBlock := fun e => hne e.symm
  have hS1 : w2.heap[S]? = some (.cells cur T (0, 0)) := (hg.block S (by first | omega | (rw [World.size_alloc]; omega)) hne2).trans ((Ba.below_alloc w _).block S hlt |>.trans HS.out)
  have c1 : w2.cell? ⟨S, i, none⟩ = some v := by rw [cell_of hS1]; exact hi
  have f1 : w2.frozen? ⟨S, i, none⟩ = false := frozen_of hS1 i
  have S2 : Hid ((w2.setCell ⟨S, i, none⟩ (.slice oa' (l.length + 1) c')).heap[S]? = some (.cells (cur.setIfInBounds i (.slice oa' (l.length + 1) c')) T (0, 0))) := Ba.heap_setCell_same hS1 (.slice oa' (l.length + 1) c')
  have HA : Hid ((Value.slice oa' (l.length + 1) c').ownBlock = v.ownBlock ∨ ∃ N, (Value.slice oa' (l.length + 1) c').ownBlock = some N ∧ w.heap.size ≤ N) := by
    rcases hat with q | q
    · exact .inl q
    · exact .inr ⟨_, q, by first | omega | (rw [World.size_alloc]; omega)⟩
  have O2 : Hid ((w2.setCell ⟨S, i, none⟩ (.slice oa' (l.length + 1) c')).ownsRow 0 34 1 (.slice oa' (l.length + 1) c') (l ++ [x]).length (pcs (l ++ [x]))) := by
    have e1 : (l ++ [x]).length = l.length + 1 := by simp
    have e2 : pcs (l ++ [x]) = pcs l ++ [.pointer (some ⟨x, 0, none⟩)] := by simp [pcs, ptr]
    rw [e1, e2]
    refine own_set ho ?_
    rcases HA.out with q | ⟨N, q, hN⟩
    · rw [q]; exact hne
    · rw [q]; intro e; cases e; omega
  have K2 : Hid (KF (fun k => k = S ∨ v.ownBlock = some k) w (w2.setCell ⟨S, i, none⟩ (.slice oa' (l.length + 1) c'))) := by
    have hsz : w.heap.size ≤ w2.heap.size := by have := hg.size; first | omega | (rw [World.size_alloc] at this; omega)
    refine ⟨hg.os, hg.tape, hg.output, by rw [size_set]; exact hsz, fun k hk hn => ?_⟩
    rw [heap_set_other _ _ _ _ _ (fun e => hn (.inl e))]
    exact (hg.block k (by first | omega | (rw [World.size_alloc]; omega)) (fun e => hn (.inr e.symm))).trans ((Ba.below_alloc w _).block k hk)
  clear ho hg hat hS1 H1
  go_wp2_with fail
  go_end0
  exact ⟨rfl, _, S2.out, O2.out, HA.out, K2.out⟩
end Sl
end Go.Proofs.Ytekdcfdjohlfcaa
