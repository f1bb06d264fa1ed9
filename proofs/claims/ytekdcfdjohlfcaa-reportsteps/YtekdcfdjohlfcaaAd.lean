/- Package cell, over this seat's program: rows of epochs: Delete of one, Insert of one. -/
import Derived.Test.YtekdcfdjohlfcaaAb
import Derived.Shelf.Spec.SlicesInsertGrow
namespace Go.Proofs.Ytekdcfdjohlfcaa
open Go.ChangeShapes Go.WideShapes Go.ChangeAt Go.RowKit
namespace Ce
open Ck
open Ba (KF Bd Nw hide)

theorem step_append_e {ops : Array Oper} (w : World) {o : Oper} {a : Act} {K : Act → World → Prop} {Q : Exit → Act → World → Prop} {E : Prop} (hgd : o.guard = none) (s x : Operand) (t tn : TypeId)
    (ho : o.op = .call { callee := .builtin .append, args := #[s, x], argTypes := #[t, tn] }) (vs vx : Value) (hs : a.eval s = vs) (hx : a.eval x = vx)
    (v' : Value) (w' : World) (hr : (Builtin.append_ #[t, tn] o.type #[vs, vx]).run Try.prog w = .ok v' w') (h : K (a.put o.dst v') w') :
    if Region.wanted o (yielded ops a.tmps) = true then Oper.wp Try.prog o a w K Q else E := by
  have hw : Region.wanted o (yielded ops a.tmps) = true := by simp [Region.wanted, hgd]
  rw [if_pos hw]
  exact Lib.wp_append_run w s x t tn ho vs vx hs hx v' w' hr h
/-- without the i'th -/
def outL (l : List Int) (i : Nat) : List Int := l.take i ++ l.drop (i + 1)
theorem out_len (l : List Int) (i : Nat) (h : i < l.length) : (outL l i).length = l.length - 1 := by simp [outL]; omega
/-- with e at the i'th place -/
def insL (l : List Int) (i : Nat) (e : Int) : List Int := l.take i ++ e :: l.drop i
theorem ins_len (l : List Int) (i : Nat) (e : Int) (h : i ≤ l.length) : (insL l i e).length = l.length + 1 := by simp [insL]; omega
theorem nth_out_lt (l : List Int) (i k : Nat) (h : i < l.length) (hk : k < i) : nth (outL l i) k = nth l k := by
  simp only [nth, outL, List.getD_eq_getElem?_getD]
  rw [List.getElem?_append_left (by simp; omega), List.getElem?_take, if_pos hk]
theorem nth_out_ge (l : List Int) (i k : Nat) (h : i < l.length) (hk : i ≤ k) : nth (outL l i) k = nth l (k + 1) := by
  simp only [nth, outL, List.getD_eq_getElem?_getD]
  rw [List.getElem?_append_right (by simp; omega), List.getElem?_drop]
  congr 2
  simp; omega
theorem nth_ins_lt (l : List Int) (i k : Nat) (e : Int) (h : i ≤ l.length) (hk : k < i) : nth (insL l i e) k = nth l k := by
  simp only [nth, insL, List.getD_eq_getElem?_getD]
  rw [List.getElem?_append_left (by simp; omega), List.getElem?_take, if_pos hk]
theorem nth_ins_at (l : List Int) (i : Nat) (e : Int) (h : i ≤ l.length) : nth (insL l i e) i = e := by
  simp only [nth, insL, List.getD_eq_getElem?_getD]
  rw [List.getElem?_append_right (by simp; omega)]
  have : i - (List.take i l).length = 0 := by simp; omega
  rw [this]; rfl
theorem nth_ins_gt (l : List Int) (i k : Nat) (e : Int) (h : i ≤ l.length) (hk : i < k) : nth (insL l i e) k = nth l (k - 1) := by
  simp only [nth, insL, List.getD_eq_getElem?_getD]
  rw [List.getElem?_append_right (by simp; omega)]
  obtain ⟨d, rfl⟩ : ∃ d, k = i + 1 + d := ⟨k - (i + 1), by omega⟩
  have : i + 1 + d - (List.take i l).length = d + 1 := by simp; omega
  rw [this, List.getElem?_cons_succ, List.getElem?_drop]
  congr 2
  omega
theorem us_drop (l : List Int) (k : Nat) : us (l.drop k) = (us l).drop k := by simp [us]
theorem info_e1 : (Try.prog.info? 61).map (·.size) = some 1 := by
  obtain ⟨i0, hi0, h0, h1, h2⟩ := info_parts info_e
  rw [hi0]; simp [h1]

set_option maxRecDepth 100000 in
set_option maxHeartbeats 3200000 in
theorem delete_any (v : Value) (l : List Int) (i : Nat) (w : World) (ho : w.ownsRow 0 61 1 v l.length (us l)) (hil : i < l.length) :
    Calls Try.prog 81 #[v, .int .i64 (i : Int), .int .i64 ((i : Int) + 1)] w fun r w' => ∃ v', r = .returned v' ∧ w'.ownsRow 0 61 1 v' (outL l i).length (us (outL l i)) ∧ v'.ownBlock = v.ownBlock ∧ w.grownBy w' v.ownBlock := by
  obtain ⟨oa, cap, rfl⟩ := own_sl ho
  obtain ⟨g, rfl, -⟩ := own_cell ho hil
  obtain ⟨cur, hg, hsz, hlc, hcm, hcell⟩ := own_cur ho
  have hm2 : cap ≤ 9223372036854775807 := by simp only [maxLen] at hcm; omega
  obtain ⟨i0, hi, hx0, hx1, hx2⟩ := info_parts info_e
  obtain ⟨n, hn⟩ : ∃ n, l.length = n + 1 := ⟨l.length - 1, by omega⟩
  rw [out_len l i hil]
  have hnn : l.length - 1 = n := by omega
  rw [hnn]
  have hdl : (us (l.drop (i + 1))).length = (n - i) * 1 := by rw [us_len, List.length_drop]; omega
  have hsrc : ∀ j u, (us (l.drop (i + 1)))[j]? = some u → w.drew.cell? ((⟨g, i + 1, none⟩ : Addr).add j) = some u := by
    intro j u hj
    rw [Addr.add_lit]
    show w.cell? ⟨g, i + 1 + j, none⟩ = some u
    rw [cell_of hg]
    rw [us_drop, List.getElem?_drop] at hj
    have hlt : i + 1 + j < l.length := by
      have := (List.getElem?_eq_some_iff.1 hj).1
      simpa [us] using this
    rw [us_at l _ hlt] at hj
    rw [hcell _ hlt, hj]
  have hr : (Builtin.append_ #[86, 86] 86 #[.slice (some ⟨g, 0, none⟩) i cap, .slice (if cap = i + 1 then some ⟨g, 0, none⟩ else some ⟨g, i + 1, none⟩) (n - i) (cap - (i + 1))]).run Try.prog w.drew = .ok (.slice (some ⟨g, 0, none⟩) n cap) (w.drew.setRow g (cur.toList.take i ++ us (l.drop (i + 1)) ++ cur.toList.drop n).toArray) := by
    have hni : i + (n - i) = n := by omega
    by_cases hc1 : cap = i + 1
    · have h0 : n - i = 0 := by omega
      have e0 : us (l.drop (i + 1)) = [] := List.eq_nil_of_length_eq_zero (by rw [hdl]; omega)
      have hr := run_append_room (P := Try.prog) w.drew 86 86 61 i0 Try.underlying86 hi g i cap cur hg ⟨g, 0, none⟩ 0 (cap - (i + 1)) [] (by simp) (by simp) (by simp) (by omega) (by simp [hx1]; omega)
      rw [if_pos hc1, h0, e0]
      have hin : i = n := by omega
      simpa [hx1, hin] using hr
    · have hr := run_append_room (P := Try.prog) w.drew 86 86 61 i0 Try.underlying86 hi g i cap cur hg ⟨g, i + 1, none⟩ (n - i) (cap - (i + 1)) (us (l.drop (i + 1))) (by rw [hx1]; exact hdl) hsrc (us_one _) (by omega) (by rw [hdl, hx1]; omega)
      rw [if_neg hc1]
      simp only [hx1, Nat.mul_one, hdl, hni] at hr
      exact hr
  have hlen1 : (cur.toList.take i ++ us (l.drop (i + 1)) ++ cur.toList.drop n).toArray.size = cap := by
    have : (us (l.drop (i + 1))).length = n - i := by rw [hdl]; omega
    simp [this]; omega
  have hg1 : (w.drew.setRow g (cur.toList.take i ++ us (l.drop (i + 1)) ++ cur.toList.drop n).toArray).heap[g]? = some (.cells (cur.toList.take i ++ us (l.drop (i + 1)) ++ cur.toList.drop n).toArray 61 (0, 0)) := by
    have hg' : w.drew.heap[g]? = some (.cells cur 61 (0, 0)) := hg
    simp only [World.setRow, Array.getElem?_modify, if_true, hg', Option.map_some]
  have hcl : ∀ ty c, (Builtin.clear_ #[86] ty #[.slice (some ⟨g, n, none⟩) 1 c]).run Try.prog (w.drew.setRow g (cur.toList.take i ++ us (l.drop (i + 1)) ++ cur.toList.drop n).toArray) = .ok (.tuple #[]) ((w.drew.setRow g (cur.toList.take i ++ us (l.drop (i + 1)) ++ cur.toList.drop n).toArray).setCell ⟨g, n, none⟩ (.int .u64 0)) :=
    fun ty c => Lib.run_clear_slice _ _ _ ty _ Try.underlying86 zero_e rfl rfl g n 1 c (by omega) (fun t ht => by rw [cell_of hg1, Array.getElem?_eq_getElem (by rw [hlen1]; omega)]; rfl) (fun t _ => Ba.frozen_of hg1 _)
  have hg2 := Ba.heap_setCell_same (i := n) hg1 (.int .u64 0)
  have hcells : ∀ k, k < (outL l i).length → ((cur.toList.take i ++ us (l.drop (i + 1)) ++ cur.toList.drop n).toArray.setIfInBounds n (.int .u64 0))[k]? = some (.int .u64 (nth (outL l i) k)) := by
    intro k hk
    rw [out_len l i hil] at hk
    rw [Array.getElem?_setIfInBounds, if_neg (by omega), List.getElem?_toArray, List.append_assoc]
    by_cases hki : k < i
    · rw [List.getElem?_append_left (by simp; omega), List.getElem?_take, if_pos hki, nth_out_lt l i k hil hki, ← hcell k (by omega)]
      simp
    · have hti : (List.take i cur.toList).length = i := by simp; omega
      rw [List.getElem?_append_right (by omega), hti, List.getElem?_append_left (by rw [hdl]; omega), us_drop, List.getElem?_drop, us_at l _ (by omega), nth_out_ge l i k hil (by omega)]
      congr 3
      omega
  have FIN : Hid (∀ c, c = cap → ((w.drew.setRow g (cur.toList.take i ++ us (l.drop (i + 1)) ++ cur.toList.drop n).toArray).setCell ⟨g, n, none⟩ (.int .u64 0)).ownsRow 0 61 1 (.slice (some ⟨g, 0, none⟩) n c) n (us (outL l i)) ∧ w.grownBy ((w.drew.setRow g (cur.toList.take i ++ us (l.drop (i + 1)) ++ cur.toList.drop n).toArray).setCell ⟨g, n, none⟩ (.int .u64 0)) (some g)) := by
    intro c hc
    subst hc
    refine ⟨?_, ⟨rfl, rfl, rfl, ?_, fun k hk hne => ?_⟩⟩
    · have := own_mk (m := outL l i) hg2 (by rw [Array.size_setIfInBounds, hlen1]) (by rw [out_len l i hil]; omega) hcm hcells
      rw [out_len l i hil, hnn] at this
      exact this
    · simp [World.setCell, World.setRow]
    · have hne' : g ≠ k := fun e => hne (by rw [e])
      simp [World.setCell, World.setRow, Array.getElem?_modify, hne']
      rfl
  have HR := hide hr
  have e01 : (i : Int) + 1 ≤ (l.length : Int) := by omega
  have e02 : (i : Int) + 1 ≤ (cap : Int) := by omega
  have e03 : ¬ ((i : Int) = (i : Int) + 1) := by omega
  have e04 : l.length - (i + 1) = n - i := by omega
  have e05 : (l.length : Int) - (n : Int) = 1 := by omega
  have e06 : l.length - n = 1 := by omega
  have e07 : ¬ (cap = n) := by omega
  have e08 : n ≤ l.length := by omega
  have e09 : l.length ≤ cap := hlc
  have e10 : (i : Int) ≤ (cap : Int) := by omega
  have e11 : i ≤ cap := by omega
  have e12 : (0 : Int) ≤ (i : Int) + 1 := by omega
  clear hr hi hx0 hx1 hx2 hg hsz hcell hg1 hg2 hlen1 hcells hsrc hdl hnn hn ho
  generalize hA : (cur.toList.take i ++ us (l.drop (i + 1)) ++ cur.toList.drop n).toArray = A at *
  generalize hL : l.length = L at *
  clear hA
  go_enter Try.func81, Try.ntmps81
  go_wp2_with fail
  go_region_law (refine step_append_e _ (by rfl) _ _ _ _ (by rfl) _ _ (by rfl) (by rfl) _ _ HR.out ?_)
  all_goals
    go_wp2_with fail
  all_goals
    go_ret
    exact ⟨_, rfl, (FIN.out _ (by first | rfl | omega)).1, rfl, (FIN.out _ rfl).2⟩
end Ce
end Go.Proofs.Ytekdcfdjohlfcaa
