import Derived.Test.YtekdcfdjohlfcaaZjRs1
import Derived.Lib.AppendZerosOnto
import Derived.Deep.MidRow
import Derived.Deep.WholeRow
/- Package cell, over this seat's program: rows of epochs: Insert of one. -/
namespace Go.Proofs.Ytekdcfdjohlfcaa
open Go.ChangeShapes Go.WideShapes Go.ChangeAt Go.RowKit
namespace Ce
open Ck
open Ba (KF Bd Nw hide)

/-- what Insert gives -/
def InsR (w : World) (v : Value) (m : List Int) (r : Ending) (w' : World) : Prop :=
  ∃ v', r = .returned v' ∧ w'.ownsRow 0 61 1 v' m.length (us m) ∧ (v'.ownBlock = v.ownBlock ∨ ∃ N, v'.ownBlock = some N ∧ w.heap.size ≤ N) ∧ w.grownBy w' v.ownBlock

theorem ob (oa : Option Addr) (n c n2 c2 : Nat) : (Value.slice oa n c).ownBlock = (Value.slice oa n2 c2).ownBlock := by cases oa <;> rfl
theorem ins_end (l : List Int) (e : Int) : insL l l.length e = l ++ [e] := by simp [insL]
theorem us_app (a b : List Int) : us (a ++ b) = us a ++ us b := by simp [us]
theorem cell_one {w : World} {vb : Nat} {e : Int} (h : w.heap[vb]? = some (.cells #[.int .u64 e] 61 (0, 0))) : ∀ j u, [Value.int .u64 e][j]? = some u → w.cell? ((⟨vb, 0, none⟩ : Addr).add j) = some u := by
  intro j u hj
  rw [Addr.add_lit, Nat.zero_add, cell_of h]
  cases j with
  | zero => simpa using hj
  | succ j => simp at hj

set_option maxRecDepth 100000 in
set_option maxHeartbeats 3200000 in
/-- at the end -/
theorem insert_end (v : Value) (l : List Int) (e : Int) (vb : Nat) (w : World) (ho : w.ownsRow 0 61 1 v l.length (us l)) (hl : l.length ≤ 100000) (hv : w.heap[vb]? = some (.cells #[.int .u64 e] 61 (0, 0))) :
    Calls Try.prog 78 #[v, .int .i64 (l.length : Int), .slice (some ⟨vb, 0, none⟩) 1 1] w (InsR w v (insL l l.length e)) := by
  unfold InsR
  obtain ⟨i0, hi, hx0, hx1, hx2⟩ := info_parts info_e
  have INF := hide (And.intro hi (And.intro hx0 (And.intro hx1 hx2)))
  have HO := hide ho
  have HC := hide (cell_one hv)
  obtain ⟨oa, cap, rfl⟩ := own_sl ho
  have hcap := own_cap ho
  have hm2 : cap ≤ 9223372036854775807 := by have := hcap.2; simp only [maxLen] at this; omega
  have hcl : (l.length : Int) ≤ (cap : Int) := by have := hcap.1; omega
  have hml : l.length + 1 ≤ maxLen := by simp only [maxLen]; omega
  have hbb : (l.length + 1) * 8 ≤ 140737488355328 := by omega
  have ON : Hid (∀ u ∈ [Value.int .u64 e], u.oneCell' = true) := by intro u hu; rw [List.mem_singleton] at hu; rw [hu]; rfl
  have LEN := hide (show (insL l l.length e).length = l.length + 1 from by rw [ins_end]; simp)
  have US := hide (show us (insL l l.length e) = us l ++ [.int .u64 e] from by rw [ins_end, us_app]; rfl)
  clear ho hv hi hx0 hx1 hx2 hcap
  go_enter Try.func78, Try.ntmps78
  go_wp2_with (at_builtin; refine wpList_append_own_at _ rfl _ _ 86 rfl 0 61 i0 (.int .u64 0) 1 8 Try.underlying86 INF.out.1 INF.out.2.1 INF.out.2.2.1 INF.out.2.2.2 rfl (by decide) _ _ _ rfl HO.out ⟨vb, 0, none⟩ 1 1 [.int .u64 e] rfl rfl HC.out ON.out hml hbb (Nat.zero_le _) ?_)
  all_goals
    intro v' w' o1 g1 x1 b1
    clear x1
    obtain ⟨oa', c', rfl⟩ := own_sl o1
    have O1 := hide o1
    rw [ob oa _ _ 0 0] at g1 b1
    have G1 := hide g1
    have B1 := hide b1
    clear o1 g1 b1
    go_wp2_with fail
    go_ret
    refine ⟨_, rfl, by rw [LEN.out, US.out]; exact O1.out, ?_, by rw [ob oa _ _ 0 0]; exact G1.out⟩
    rw [ob oa _ _ 0 0]
    rcases B1.out with q | q
    · exact .inl q
    · exact .inr ⟨_, q, Nat.le_refl _⟩

set_option maxRecDepth 100000 in
set_option maxHeartbeats 3200000 in
/-- inside, where there is room -/
theorem insert_room (g cap : Nat) (l : List Int) (i : Nat) (e : Int) (vb : Nat) (w : World) (ho : w.ownsRow 0 61 1 (.slice (some ⟨g, 0, none⟩) l.length cap) l.length (us l)) (hil : i < l.length) (hrm : l.length + 1 ≤ cap) (hv : w.heap[vb]? = some (.cells #[.int .u64 e] 61 (0, 0))) (hne : vb ≠ g) :
    Calls Try.prog 78 #[.slice (some ⟨g, 0, none⟩) l.length cap, .int .i64 (i : Int), .slice (some ⟨vb, 0, none⟩) 1 1] w (InsR w (.slice (some ⟨g, 0, none⟩) l.length cap) (insL l i e)) := by
  unfold InsR
  obtain ⟨cur, hg, hsz, hlc, hcm, hcell⟩ := own_cur ho
  have hm2 : cap ≤ 9223372036854775807 := by simp only [maxLen] at hcm; omega
  have hov : ∀ lb cb, (callFunc 90 #[.slice (some ⟨vb, 0, none⟩) 1 1, .slice (some ⟨g, i + 1, none⟩) lb cb]).run Try.prog w = .ok (.value (.bool false)) w := fun lb cb => by
    rw [run_callFunc_extern Try.func90 (by kernel_rfl) (by kernel_rfl) (by kernel_rfl) (e := Extern.SlicesOverlaps.overlaps #[86, 86] #[4]) (by kernel_rfl),
      Lib.run_overlaps_apart w 86 4 61 Try.underlying86 1 Try.sizeOf61 ⟨vb, 0, none⟩ ⟨g, i + 1, none⟩ 1 1 lb cb hne 61 61 1 cap (by simp [World.shape?, hv]) (by simp [World.shape?, hg, hsz]) (by omega) (Ba.frozen_of hv 0) (Ba.frozen_of hv 1)]
    rfl
  have hdl : (us (l.drop i)).length = l.length - i := by rw [us_len, List.length_drop]; omega
  have hg' : w.drew.heap[g]? = some (.cells cur 61 (0, 0)) := hg
  have hcp1 : ∀ ty dc sc, (Builtin.copy_ #[86, 86] ty #[.slice (some ⟨g, i + 1, none⟩) (l.length - i) dc, .slice (some ⟨g, i, none⟩) (l.length + 1 - i) sc]).run Try.prog w.drew = .ok (goInt (us (l.drop i)).length) (w.drew.setCells g (i + 1) (us (l.drop i))) := fun ty dc sc =>
    run_copy_cells w.drew _ _ ty 61 g (i + 1) (l.length - i) dc ⟨g, i, none⟩ (l.length + 1 - i) sc (us (l.drop i)) Try.underlying86 info_e1 (by rw [hdl]; simp only [Nat.min_def]; split <;> omega)
      (fun j v hj => by
        rw [Addr.add_lit, cell_of hg']
        rw [us_drop, List.getElem?_drop] at hj
        have hlt : i + j < l.length := by
          have := (List.getElem?_eq_some_iff.1 hj).1
          simpa [us] using this
        rw [us_at l _ hlt] at hj
        rw [hcell _ hlt, hj])
      (fun j hj => by rw [cell_of hg', Array.getElem?_eq_getElem (by omega)]; rfl) (fun j hj => Ba.frozen_of hg' _) (us_one _)
  obtain ⟨cur1, k1, k2, k3, k4, -⟩ := row_cells g 61 (0, 0) (us (l.drop i)) (i + 1) cur w.drew hg'
  obtain ⟨W1, hW1⟩ : ∃ W1, W1 = w.drew.setCells g (i + 1) (us (l.drop i)) := ⟨_, rfl⟩
  have hv1 : W1.heap[vb]? = some (.cells #[.int .u64 e] 61 (0, 0)) := by rw [hW1, heap_cells g _ _ _ _ hne]; exact hv
  rw [← hW1] at hcp1 k1
  have hcp2 : ∀ ty dc, (Builtin.copy_ #[86, 86] ty #[.slice (some ⟨g, i, none⟩) (l.length + 1 - i) dc, .slice (some ⟨vb, 0, none⟩) 1 1]).run Try.prog W1 = .ok (goInt [Value.int .u64 e].length) (W1.setCells g i [.int .u64 e]) := fun ty dc =>
    run_copy_cells W1 _ _ ty 61 g i (l.length + 1 - i) dc ⟨vb, 0, none⟩ 1 1 [.int .u64 e] Try.underlying86 info_e1 (by simp only [Nat.min_def, List.length_singleton]; split <;> omega) (cell_one hv1)
      (fun j hj => by rw [cell_of k1, Array.getElem?_eq_getElem (by simp at hj; omega)]; rfl) (fun j hj => Ba.frozen_of k1 _) (by intro u hu; rw [List.mem_singleton] at hu; rw [hu]; rfl)
  obtain ⟨cur2, m1, m2, m3, m4, m5⟩ := row_cells g 61 (0, 0) [Value.int .u64 e] i cur1 W1 k1
  have FIN : Hid ((W1.setCells g i [.int .u64 e]).ownsRow 0 61 1 (.slice (some ⟨g, 0, none⟩) (l.length + 1) cap) (insL l i e).length (us (insL l i e)) ∧ w.grownBy (W1.setCells g i [.int .u64 e]) (some g)) := by
    refine ⟨?_, ?_⟩
    · have := own_mk (m := insL l i e) m1 (by rw [m2, k2, hsz]) (by rw [ins_len l i e (by omega)]; omega) hcm (fun k hk => by
        rw [ins_len l i e (by omega)] at hk
        rcases Nat.lt_trichotomy k i with q | q | q
        · rw [m3 k q, k3 k (by omega), nth_ins_lt l i k e (by omega) q]; exact hcell k (by omega)
        · rw [q, nth_ins_at l i e (by omega)]
          have := m4 0 (by simp) (by omega)
          simpa using this
        · rw [m5 k (by simp; omega), nth_ins_gt l i k e (by omega) q]
          have := k4 (k - (i + 1)) (by rw [hdl]; omega) (by omega)
          rw [show i + 1 + (k - (i + 1)) = k by omega] at this
          rw [this, us_drop, List.getElem?_drop, us_at l _ (by omega)]
          congr 3
          omega)
      rw [ins_len l i e (by omega)] at this ⊢
      exact this
    · have t1 := tape_cells g (us (l.drop i)) (i + 1) w.drew
      rw [← hW1] at t1
      have t2 := tape_cells g [Value.int .u64 e] i W1
      refine ⟨t2.2.2.1.trans t1.2.2.1, t2.1.trans t1.1, t2.2.2.2.trans t1.2.2.2, by rw [t2.2.1, t1.2.1]; exact Nat.le_refl _, fun k hk hnk => ?_⟩
      have hkg : k ≠ g := fun e => hnk (by rw [e])
      rw [heap_cells g _ _ _ _ hkg, hW1, heap_cells g _ _ _ _ hkg]
      rfl
  have C1 := hide hcp1
  have C2 := hide hcp2
  have e01 : (i : Int) ≤ (l.length : Int) := by omega
  have e02 : ¬ ((i : Int) = (l.length : Int)) := by omega
  have e03 : ¬ ((cap : Int) < (l.length : Int) + 1) := by omega
  have e04 : (l.length : Int) + 1 ≤ (cap : Int) := by omega
  have e05 : (0 : Int) ≤ (i : Int) + 1 := by omega
  have e06 : (i : Int) + 1 ≤ (l.length : Int) + 1 := by omega
  have e07 : ¬ (cap = i + 1) := by omega
  have e08 : ¬ (cap = i) := by omega
  have e09 : (i : Int) ≤ (l.length : Int) + 1 := by omega
  have e10 : IntKind.i64.wrap ((i : Int) + 1) = (i : Int) + 1 := by rw [IntKind.wrap_i64]; omega
  have e11 : ((i : Int) + 1).toNat = i + 1 := by omega
  clear hW1 hv1 k1 k2 k3 k4 m1 m2 m3 m4 m5 hg hg' hsz hcell hv ho hdl
  generalize hL : l.length = L at *
  generalize us (l.drop i) = Ud at *
  generalize hF : W1.setCells g i [.int .u64 e] = WF at *
  clear hF
  go_enter Try.func78, Try.ntmps78
  go_wp2_with (simp only [hov])
  go_region
  clear hcp1
  go_wp2_with fail
  go_ret
  exact ⟨_, rfl, FIN.out.1, .inl rfl, FIN.out.2⟩
set_option maxRecDepth 100000 in
set_option maxHeartbeats 3200000 in
/-- inside, where there is no room -/
theorem insert_grow (g cap : Nat) (l : List Int) (i : Nat) (e : Int) (vb : Nat) (w : World) (ho : w.ownsRow 0 61 1 (.slice (some ⟨g, 0, none⟩) l.length cap) l.length (us l)) (hil : i < l.length) (hl : l.length ≤ 100000) (hrm : cap < l.length + 1) (hv : w.heap[vb]? = some (.cells #[.int .u64 e] 61 (0, 0))) :
    Calls Try.prog 78 #[.slice (some ⟨g, 0, none⟩) l.length cap, .int .i64 (i : Int), .slice (some ⟨vb, 0, none⟩) 1 1] w (InsR w (.slice (some ⟨g, 0, none⟩) l.length cap) (insL l i e)) := by
  unfold InsR
  obtain ⟨cur, hg, hsz, hlc, hcm, hcell⟩ := own_cur ho
  obtain ⟨i0, hi0, hz0, hzs, hzb⟩ := info_parts info_e
  have hm2 : cap ≤ 9223372036854775807 := by simp only [maxLen] at hcm; omega
  have hgw : g < w.heap.size := (Array.getElem?_eq_some_iff.1 hg).1
  have hvw : vb < w.heap.size := (Array.getElem?_eq_some_iff.1 hv).1
  have hsrc : ∀ j v, ((us l).take i)[j]? = some v → w.cell? ⟨g, j, none⟩ = some v := by
    intro j v hj
    rw [List.getElem?_take] at hj
    split at hj
    · have hlt : j < l.length := by omega
      rw [us_at l _ hlt] at hj
      rw [cell_of hg, hcell _ hlt, hj]
    · cases hj
  have hold : (Builtin.firstCells i0.size i (.slice (some ⟨g, 0, none⟩) i cap)).run Try.prog w.drew = .ok ((us l).take i).toArray w.drew := by
    rw [hzs]
    exact run_firstCells_some w.drew 1 i ⟨g, 0, none⟩ i cap ((us l).take i) (by rw [List.length_take, us_len]; omega) (fun j v hj => by
      rw [Addr.add_lit, Nat.zero_add]
      exact hsrc j v hj)
  have hkk : (l.length : Int) + 1 - (i : Int) = ((l.length + 1 - i : Nat) : Int) := by omega
  have hik : i + (l.length + 1 - i) = l.length + 1 := by omega
  have hrz : ∀ ty, (Builtin.append_ #[86, 3] ty #[.slice (some ⟨g, 0, none⟩) i cap, .int .i64 ((l.length : Int) + 1 - (i : Int))]).run Try.prog w =
      .ok (.slice (some ⟨w.heap.size, 0, none⟩) (l.length + 1) (grownCap w (l.length + 1) cap 61)) (w.drew.alloc (.cells (((us l).take i).toArray ++ Builtin.zeroCells (Value.int .u64 0).cells (l.length + 1 - i) ++ Builtin.zeroCells (Value.int .u64 0).cells (grownCap w (l.length + 1) cap 61 - (l.length + 1))) 61)) := fun ty => by
    have h := Lib.run_append_grow_zeros w 86 3 ty 61 i0 _ .i64 .i64 Try.underlying86 Try.underlying3 hi0 hz0 (some ⟨g, 0, none⟩) i cap ((us l).take i) hold (l.length + 1 - i) (by omega) (by omega) (by omega) (by omega) (by rw [hzb]; omega) (by rw [hzb, hik]; exact growslice_fits hrm (by omega))
    rw [hik] at h
    rw [hkk]
    exact h
  have hGn : l.length + 1 ≤ grownCap w (l.length + 1) cap 61 := grownCap_ge w _ _ _
  have hGm : grownCap w (l.length + 1) cap 61 ≤ maxLen := grownCap_le_maxLen w (l.length + 1) cap 61 (by unfold maxLen; omega)
  generalize grownCap w (l.length + 1) cap 61 = G at hrz hGn hGm
  have hGm2 : G ≤ 9223372036854775807 := by simp only [maxLen] at hGm; omega
  obtain ⟨ROW, hROW⟩ : ∃ ROW : Array Value, ROW = ((us l).take i).toArray ++ Builtin.zeroCells (Value.int .u64 0).cells (l.length + 1 - i) ++ Builtin.zeroCells (Value.int .u64 0).cells (G - (l.length + 1)) := ⟨_, rfl⟩
  rw [← hROW] at hrz
  have hRl : ROW.size = G := by
    rw [hROW]
    simp [Builtin.zeroCells, Value.cells, us]
    omega
  have hRi : ∀ k, k < i → ROW[k]? = some (.int .u64 (nth l k)) := by
    intro k hk
    rw [hROW, Array.append_assoc, Array.getElem?_append_left (by simp [us]; omega), List.getElem?_toArray, List.getElem?_take, if_pos hk]
    exact us_at l k (by omega)
  obtain ⟨W1, hW1⟩ : ∃ W1, W1 = w.drew.alloc (.cells ROW 61) := ⟨_, rfl⟩
  have h1 : W1.heap[w.heap.size]? = some (.cells ROW 61 (0, 0)) := by rw [hW1]; exact heap_new w.drew _
  have hv1 : W1.heap[vb]? = some (.cells #[.int .u64 e] 61 (0, 0)) := by rw [hW1]; exact (Below.heap_alloc w.drew _ vb hvw).trans hv
  have hg1 : W1.heap[g]? = some (.cells cur 61 (0, 0)) := by rw [hW1]; exact (Below.heap_alloc w.drew _ g hgw).trans hg
  have hz1 : W1.heap.size = w.heap.size + 1 := by rw [hW1, World.size_alloc]; rfl
  have ho1 : W1.os = w.os ∧ W1.tape = w.tape ∧ W1.output = w.output ∧ ∀ k, k < w.heap.size → W1.heap[k]? = w.heap[k]? := by
    rw [hW1]; exact ⟨rfl, rfl, rfl, fun k hk => Below.heap_alloc w.drew _ k hk⟩
  rw [← hW1] at hrz
  generalize hN : w.heap.size = N at *
  have hcpA : ∀ ty dc, (Builtin.copy_ #[86, 86] ty #[.slice (some ⟨N, i, none⟩) (l.length + 1 - i) dc, .slice (some ⟨vb, 0, none⟩) 1 1]).run Try.prog W1 = .ok (goInt [Value.int .u64 e].length) (W1.setCells N i [.int .u64 e]) := fun ty dc =>
    run_copy_cells W1 _ _ ty 61 N i (l.length + 1 - i) dc ⟨vb, 0, none⟩ 1 1 [.int .u64 e] Try.underlying86 info_e1 (by simp only [Nat.min_def, List.length_singleton]; split <;> omega) (cell_one hv1)
      (fun j hj => by rw [cell_of h1, Array.getElem?_eq_getElem (by simp at hj; omega)]; rfl) (fun j hj => Ba.frozen_of h1 _) (by intro u hu; rw [List.mem_singleton] at hu; rw [hu]; rfl)
  obtain ⟨cur2, m1, m2, m3, m4, -⟩ := row_cells N 61 (0, 0) [Value.int .u64 e] i ROW W1 h1
  have hg2 : (W1.setCells N i [.int .u64 e]).heap[g]? = some (.cells cur 61 (0, 0)) := by rw [heap_cells N _ _ _ _ (by omega)]; exact hg1
  have t2 := tape_cells N [Value.int .u64 e] i W1
  have hb2 : ∀ k, k < N → (W1.setCells N i [.int .u64 e]).heap[k]? = w.heap[k]? := fun k hk => by rw [heap_cells N _ _ _ _ (by omega)]; exact ho1.2.2.2 k hk
  generalize hW2 : W1.setCells N i [.int .u64 e] = W2 at *
  have hdl : (us (l.drop i)).length = l.length - i := by rw [us_len, List.length_drop]; omega
  have hg3 : W2.drew.heap[g]? = some (.cells cur 61 (0, 0)) := hg2
  have m1' : W2.drew.heap[N]? = some (.cells cur2 61 (0, 0)) := m1
  have hcpB : ∀ ty dc sc, (Builtin.copy_ #[86, 86] ty #[.slice (some ⟨N, i + 1, none⟩) (l.length - i) dc, .slice (some ⟨g, i, none⟩) (l.length - i) sc]).run Try.prog W2.drew = .ok (goInt (us (l.drop i)).length) (W2.drew.setCells N (i + 1) (us (l.drop i))) := fun ty dc sc =>
    run_copy_cells W2.drew _ _ ty 61 N (i + 1) (l.length - i) dc ⟨g, i, none⟩ (l.length - i) sc (us (l.drop i)) Try.underlying86 info_e1 (by rw [hdl]; simp only [Nat.min_def]; split <;> omega)
      (fun j v hj => by
        rw [Addr.add_lit, cell_of hg3]
        rw [us_drop, List.getElem?_drop] at hj
        have hlt : i + j < l.length := by
          have := (List.getElem?_eq_some_iff.1 hj).1
          simpa [us] using this
        rw [us_at l _ hlt] at hj
        rw [hcell _ hlt, hj])
      (fun j hj => by rw [cell_of m1', Array.getElem?_eq_getElem (by omega)]; rfl) (fun j hj => Ba.frozen_of m1' _) (us_one _)
  obtain ⟨cur3, n1, n2, n3, n4, -⟩ := row_cells N 61 (0, 0) (us (l.drop i)) (i + 1) cur2 W2.drew m1'
  have t3 := tape_cells N (us (l.drop i)) (i + 1) W2.drew
  have hb3 : ∀ k, k < N → (W2.drew.setCells N (i + 1) (us (l.drop i))).heap[k]? = w.heap[k]? := fun k hk => by rw [heap_cells N _ _ _ _ (by omega)]; exact hb2 k hk
  generalize hW3 : W2.drew.setCells N (i + 1) (us (l.drop i)) = W3 at *
  have FIN : Hid (W3.ownsRow 0 61 1 (.slice (some ⟨N, 0, none⟩) (l.length + 1) G) (insL l i e).length (us (insL l i e)) ∧ w.grownBy W3 (some g)) := by
    refine ⟨?_, ?_⟩
    · have := own_mk (m := insL l i e) n1 (by rw [n2, m2, hRl]) (by rw [ins_len l i e (by omega)]; omega) hGm (fun k hk => by
        rw [ins_len l i e (by omega)] at hk
        rcases Nat.lt_trichotomy k i with q | q | q
        · rw [n3 k (by omega), m3 k q, nth_ins_lt l i k e (by omega) q]; exact hRi k q
        · rw [q, nth_ins_at l i e (by omega), n3 i (by omega)]
          have := m4 0 (by simp) (by omega)
          simpa using this
        · rw [nth_ins_gt l i k e (by omega) q]
          have := n4 (k - (i + 1)) (by rw [hdl]; omega) (by omega)
          rw [show i + 1 + (k - (i + 1)) = k by omega] at this
          rw [this, us_drop, List.getElem?_drop, us_at l _ (by omega)]
          congr 3
          omega)
      rw [ins_len l i e (by omega)] at this ⊢
      exact this
    · exact ⟨t3.2.2.1.trans (t2.2.2.1.trans ho1.1), t3.1.trans (t2.1.trans ho1.2.1), t3.2.2.2.trans (t2.2.2.2.trans ho1.2.2.1), by rw [t3.2.1]; show w.heap.size ≤ W2.heap.size; rw [t2.2.1, hz1, hN]; omega, fun k hk hnk => hb3 k (by omega)⟩
  have e01 : (i : Int) ≤ (l.length : Int) := by omega
  have e02 : ¬ ((i : Int) = (l.length : Int)) := by omega
  have e03 : (cap : Int) < (l.length : Int) + 1 := by omega
  have e04 : (i : Int) ≤ (cap : Int) := by omega
  have e05 : (0 : Int) ≤ (i : Int) + 1 := by omega
  have e06 : (i : Int) + 1 ≤ (l.length : Int) + 1 := by omega
  have e07 : ¬ (G = i + 1) := by omega
  have e08 : ¬ (G = i) := by omega
  have e09 : ¬ (cap = i) := by omega
  have e10 : IntKind.i64.wrap ((i : Int) + 1) = (i : Int) + 1 := by rw [IntKind.wrap_i64]; omega
  have e11 : ((i : Int) + 1).toNat = i + 1 := by omega
  have e12 : IntKind.i64.wrap ((l.length : Int) + 1 - (i : Int)) = (l.length : Int) + 1 - (i : Int) := by rw [IntKind.wrap_i64]; omega
  have e13 : (i : Int) ≤ (l.length : Int) + 1 := by omega
  clear hW1 hv1 h1 hg1 hz1 ho1 m1 m1' m2 m3 m4 n1 n2 n3 n4 hg2 hg3 t2 t3 hb2 hb3 hW2 hW3 hg hsz hcell hv ho hdl hold hkk hik hsrc hRl hRi hROW hi0 hz0 hzs hzb hN
  have HRZ := hide hrz
  clear hrz
  generalize hL : l.length = L at *
  generalize us (l.drop i) = Ud at *
  go_enter Try.func78, Try.ntmps78
  go_wp2_with (at_builtin; refine Lib.wpList_append_run _ rfl _ _ _ _ rfl _ _ rfl rfl _ _ (HRZ.out _) ?_)
  go_region
  go_wp2_with fail
  go_ret
  exact ⟨_, rfl, FIN.out.1, .inr ⟨_, rfl, Nat.le_refl _⟩, FIN.out.2⟩

theorem insert_any (v : Value) (l : List Int) (i : Nat) (e : Int) (vb : Nat) (w : World) (ho : w.ownsRow 0 61 1 v l.length (us l)) (hil : i ≤ l.length) (hl : l.length ≤ 100000) (hv : w.heap[vb]? = some (.cells #[.int .u64 e] 61 (0, 0))) (hne : v.ownBlock ≠ some vb) :
    Calls Try.prog 78 #[v, .int .i64 (i : Int), .slice (some ⟨vb, 0, none⟩) 1 1] w (InsR w v (insL l i e)) := by
  by_cases hi : i = l.length
  · subst hi; exact insert_end v l e vb w ho hl hv
  · obtain ⟨oa, cap, rfl⟩ := own_sl ho
    obtain ⟨g, rfl, -⟩ := own_cell ho (k := i) (by omega)
    have hng : vb ≠ g := fun q => hne (by rw [q]; rfl)
    by_cases hc : l.length + 1 ≤ cap
    · exact insert_room g cap l i e vb w ho (by omega) hc hv hng
    · exact insert_grow g cap l i e vb w ho (by omega) hl (by omega) hv
end Ce
end Go.Proofs.Ytekdcfdjohlfcaa
/- Package cell, over this seat's program: what an access knows, and a cell in memory. -/
namespace Go.Proofs.Ytekdcfdjohlfcaa
open Go.ChangeShapes Go.WideShapes Go.ChangeAt Go.RowKit
namespace Ce
open Ck
open Ba (KF Bd Nw hide)
open Ep (tidOf clkOf ownB)

/-- whether an epoch is seen by one that knows its tid up to c -/
def seenB (e c : Int) : Bool := (e == 0) || (decide (1 ≤ clkOf e) && decide (clkOf e ≤ c))
theorem seen_is (e c : Int) (a0 : 0 ≤ e) (a1 : e ≤ 18446744073709551615) (w : World) : Calls Try.prog 84 #[.int .u64 e, .int .i64 c] w fun r w' => r = .returned (.bool (seenB e c)) ∧ w' = w := by
  by_cases h : e = 0
  · subst h
    exact Ep.seen_none c w
  · have e1 : seenB e c = (decide (1 ≤ clkOf e) && decide (clkOf e ≤ c)) := by simp [seenB, h]
    rw [e1]
    exact Ep.seen_any e c a0 a1 h w
/-- whether an epoch is known to an access of a tid, by its clock -/
def kn (own : Int) (l : List Int) (o : Int) : Bool := (tidOf o == own) || seenB o (gt l (tidOf o))

theorem kn_any (own : Int) (A B b : Nat) (l : List Int) (o : Int) (a0 : 0 ≤ o) (a1 : o ≤ 18446744073709551615) (w : World) (hB : w.cell? ⟨B, 0, none⟩ = some (.int .i64 own)) (hA : w.cell? ⟨A, 0, none⟩ = some (.pointer (some ⟨b, 0, none⟩))) (hc : CK w b l) :
    Calls Try.prog 83 #[.int .u64 o, .pointer (some ⟨B, 0, none⟩), .pointer (some ⟨A, 0, none⟩)] w fun r w' => r = .returned (.bool (kn own l o)) ∧ w' = w := by
  have T := hide (Ep.tid_any o a0 a1 w)
  have G := hide (get_any b l (tidOf o) w hc)
  have SE := hide (seen_is o (gt l (tidOf o)) a0 a1 w)
  clear hc
  cases hq : (tidOf o == own)
  · have K : Hid (kn own l o = seenB o (gt l (tidOf o))) := by show kn own l o = _; simp [kn, hq]
    rw [K.out]
    generalize gt l (tidOf o) = y at *
    generalize seenB o y = z at *
    go_enter Try.func83, Try.ntmps83
    go_wp2_with fail
    refine T.out.mono ?_
    rintro r w1 ⟨rfl, e1⟩
    obtain rfl := e1.symm
    go_wp2_with fail
    refine G.out.mono ?_
    rintro r w1 ⟨rfl, e1⟩
    obtain rfl := e1.symm
    go_wp2_with fail
    refine SE.out.mono ?_
    rintro r w1 ⟨rfl, e1⟩
    obtain rfl := e1.symm
    go_wp2_with fail
    go_ret
    exact ⟨rfl, rfl⟩
  · have K : Hid (kn own l o = true) := by show kn own l o = _; simp [kn, hq]
    rw [K.out]
    clear G SE
    go_enter Try.func83, Try.ntmps83
    go_wp2_with fail
    refine T.out.mono ?_
    rintro r w1 ⟨rfl, e1⟩
    obtain rfl := e1.symm
    go_wp2_with fail
    go_ret
    exact ⟨rfl, rfl⟩

/-- the closure of an access -/
def knF (A B : Nat) : Value := .func (.func 83) #[] #[.pointer (some ⟨B, 0, none⟩), .pointer (some ⟨A, 0, none⟩)]
theorem know_any (e : Int) (a0 : 0 ≤ e) (a1 : e ≤ 18446744073709551615) (b : Nat) (w : World) :
    Calls Try.prog 74 #[.int .u64 e, .pointer (some ⟨b, 0, none⟩)] w fun r w' => r = .returned (knF w.heap.size (w.heap.size + 1)) ∧ w' = (w.alloc (.cells #[.pointer (some ⟨b, 0, none⟩)] 34)).alloc (.cells #[.int .i64 (tidOf e)] 3) := by
  have T := hide (Ep.tid_any e a0 a1 (w.alloc (.cells #[.pointer (some ⟨b, 0, none⟩)] 34)))
  unfold knF
  go_enter Try.func74, Try.ntmps74
  go_wp2_with fail
  refine T.out.mono ?_
  rintro r w1 ⟨rfl, e1⟩
  obtain rfl := e1.symm
  go_wp2_with fail
  go_ret
  exact ⟨rfl, rfl⟩

theorem takes_any (e : Int) (a0 : 0 ≤ e) (a1 : e ≤ 18446744073709551615) (p : Option Addr) (w : World) :
    Calls Try.prog 73 #[.pointer p, .int .u64 e] w fun r w' => r = .returned (.int .i64 (if ownB e = false then 1 else if p = none then 7 else 0)) ∧ w' = w := by
  have T := hide (Ep.tid_any e a0 a1 w)
  cases ho : ownB e
  · have ht := Ep.tid_not e ho
    rw [ht] at T
    clear ho ht
    go_enter Try.func73, Try.ntmps73
    go_wp2_with fail
    refine T.out.mono ?_
    rintro r w1 ⟨rfl, e1⟩
    obtain rfl := e1.symm
    go_wp2_with fail
    go_ret
    exact ⟨rfl, rfl⟩
  · have h0 : ¬ (tidOf e < 0) := by
      rw [Ep.tid_own e ho]
      have := Ep.own_bd e ho
      omega
    clear ho
    generalize tidOf e = t at *
    cases p with
    | none =>
      go_enter Try.func73, Try.ntmps73
      go_wp2_with fail
      refine T.out.mono ?_
      rintro r w1 ⟨rfl, e1⟩
      obtain rfl := e1.symm
      go_wp2_with fail
      go_ret
      exact ⟨rfl, rfl⟩
    | some a =>
      go_enter Try.func73, Try.ntmps73
      go_wp2_with fail
      refine T.out.mono ?_
      rintro r w1 ⟨rfl, e1⟩
      obtain rfl := e1.symm
      go_wp2_with fail
      go_ret
      exact ⟨by simp, rfl⟩
/-- what is left of an epoch -/
def remE (e cut : Int) : Int := if seenB e cut = true then 0 else 18446744073709551615
theorem rem_any (e cut : Int) (a0 : 0 ≤ e) (a1 : e ≤ 18446744073709551615) (w : World) :
    Calls Try.prog 80 #[.int .u64 e, .int .i64 cut] w fun r w' => r = .returned (.int .u64 (remE e cut)) ∧ w' = w := by
  have SE := hide (seen_is e cut a0 a1 w)
  unfold remE
  cases hs : seenB e cut
  all_goals
    rw [hs] at SE
    clear hs
    go_enter Try.func80, Try.ntmps80
    go_wp2_with fail
    refine SE.out.mono ?_
    rintro r w1 ⟨rfl, e1⟩
    obtain rfl := e1.symm
    go_wp2_with fail
    go_ret
    exact ⟨rfl, rfl⟩

/-- a cell -/
structure Cst where
  last : Int
  rd : List Int
  tl : Bool
structure Gd (st : Cst) : Prop where
  la : st.last = 0 ∨ st.last = 18446744073709551615 ∨ ownB st.last = true
  ro : ∀ x ∈ st.rd, ownB x = true
  so : Srt st.rd
theorem own_u {e : Int} (h : ownB e = true) : 0 ≤ e ∧ e ≤ 18446744073709551615 := by
  have := Ep.own_bd e h
  omega
theorem Gd.last {st : Cst} (h : Gd st) : 0 ≤ st.last ∧ st.last ≤ 18446744073709551615 := by
  rcases h.la with q | q | q
  · omega
  · omega
  · exact own_u q
theorem Gd.u {st : Cst} (h : Gd st) : U64 st.rd := fun x hx => own_u (h.ro x hx)
theorem srt_ge {l : List Int} (h : Srt l) (ho : ∀ x ∈ l, ownB x = true) : ∀ i, i < l.length → (i : Int) ≤ tidOf (nth l i)
  | 0, hi => by
    have hx := ho _ (List.getElem_mem hi)
    rw [nth_lt l 0 hi, Ep.tid_own _ hx]
    have := Ep.own_bd _ hx
    omega
  | i + 1, hi => by
    have := srt_ge h ho i (by omega)
    have := h i (i + 1) (by omega) hi
    omega
theorem srt_len {l : List Int} (h : Srt l) (ho : ∀ x ∈ l, ownB x = true) : l.length ≤ 256 := by
  by_cases h0 : l.length = 0
  · omega
  · have h1 := srt_ge h ho (l.length - 1) (by omega)
    have h2 := Ep.tid_rng (nth l (l.length - 1))
    omega

/-- nothing of Y has changed -/
structure KY (Y : Nat → Prop) (w w' : World) : Prop where
  os : w'.os = w.os
  tape : w'.tape = w.tape
  output : w'.output = w.output
  size : w.heap.size ≤ w'.heap.size
  block : ∀ k, Y k → w'.heap[k]? = w.heap[k]?
theorem KY.refl (Y : Nat → Prop) (w : World) : KY Y w w := ⟨rfl, rfl, rfl, Nat.le_refl _, fun _ _ => rfl⟩
theorem KY.trans {Y : Nat → Prop} {a b c : World} (h : KY Y a b) (k : KY Y b c) : KY Y a c := ⟨k.os.trans h.os, k.tape.trans h.tape, k.output.trans h.output, Nat.le_trans h.size k.size, fun x hx => (k.block x hx).trans (h.block x hx)⟩
theorem KY.mono {Y Z : Nat → Prop} {a b : World} (h : KY Y a b) (i : ∀ k, Z k → Y k) : KY Z a b := ⟨h.os, h.tape, h.output, h.size, fun x hx => h.block x (i x hx)⟩
theorem KY.of {Y : Nat → Prop} {a b : World} (h : Below a.heap.size a b) (hy : ∀ k, Y k → k < a.heap.size) : KY Y a b := ⟨h.os, h.tape, h.output, h.size, fun x hx => h.block x (hy x hx)⟩
theorem KY.grown {Y : Nat → Prop} {a b : World} {o : Option Nat} (h : a.grownBy b o) (hy : ∀ k, Y k → k < a.heap.size) (ho : ∀ g, o = some g → ¬ Y g) : KY Y a b := ⟨h.os, h.tape, h.output, h.size, fun x hx => h.block x (hy x hx) (fun e => ho x e.symm hx)⟩
theorem KY.set {Y : Nat → Prop} (w : World) {X : Nat} (hX : ¬ Y X) (i : Nat) (v : Value) : KY Y w (w.setCell ⟨X, i, none⟩ v) :=
  ⟨rfl, rfl, rfl, by simp [World.setCell], fun k hk => by simp [World.setCell, Array.getElem?_modify, show X ≠ k from fun e => hX (e ▸ hk)]⟩
/-- the blocks that were there -/
def Lw (w : World) : Nat → Prop := fun k => k < w.heap.size
theorem KY.lw {w w' : World} (h : KY (Lw w) w w') : Below w.heap.size w w' := ⟨h.os, h.tape, h.output, h.size, fun k hk => h.block k hk⟩
/-- a clock that lies in Y -/
def CL (Y : Nat → Prop) (w : World) (b : Nat) (l : List Int) : Prop := ∀ W, KY Y w W → CK W b l
theorem CL.keep {Y : Nat → Prop} {w w' : World} {b : Nat} {l : List Int} (h : CL Y w b l) (k : KY Y w w') : CL Y w' b l := fun W hW => h W (k.trans hW)
theorem CL.ck {Y : Nat → Prop} {w : World} {b : Nat} {l : List Int} (h : CL Y w b l) : CK w b l := h w (KY.refl _ _)
theorem CL.mono {Y Z : Nat → Prop} {w : World} {b : Nat} {l : List Int} (h : CL Y w b l) (i : ∀ k, Y k → Z k) : CL Z w b l := fun W hW => h W (hW.mono i)

/-- a cell in memory, beside Y -/
structure CX (Y : Nat → Prop) (X : Nat) (w : World) (st : Cst) (v : Value) : Prop where
  head : w.heap[X]? = some (.cells #[.int .u64 st.last, v, .bool st.tl] 134 (0, 0))
  own : w.ownsRow 0 61 1 v st.rd.length (us st.rd)
  ne : v.ownBlock ≠ some X
  yx : ¬ Y X
  yg : ∀ g, v.ownBlock = some g → ¬ Y g
  yl : ∀ k, Y k → k < w.heap.size
  gd : Gd st
def CW (Y : Nat → Prop) (X : Nat) (w : World) (st : Cst) : Prop := ∃ v, CX Y X w st v
theorem CX.lt {Y : Nat → Prop} {X : Nat} {w : World} {st : Cst} {v : Value} (h : CX Y X w st v) : X < w.heap.size := (Array.getElem?_eq_some_iff.1 h.head).1
theorem CX.more {Y Z : Nat → Prop} {X : Nat} {w w' : World} {st : Cst} {v : Value} (h : CX Y X w st v) (hb : Below w.heap.size w w') (hz : ∀ k, Z k → Y k ∨ w.heap.size ≤ k) (hl : ∀ k, Z k → k < w'.heap.size) : CX Z X w' st v := by
  refine ⟨(hb.block X h.lt).trans h.head, ?_, h.ne, fun q => ?_, fun g hg q => ?_, hl, h.gd⟩
  · have hh : w.grownBy w' none := ⟨hb.os, hb.tape, hb.output, hb.size, fun k hk _ => hb.block k hk⟩
    exact h.own.kept hh (by cases v.ownBlock <;> simp)
  · rcases hz X q with q | q
    · exact h.yx q
    · have := h.lt; omega
  · rcases hz g q with q | q
    · exact h.yg g hg q
    · have := (h.own.lt g hg).2; omega
theorem CX.kept {Y : Nat → Prop} {X : Nat} {w w' : World} {st : Cst} {v : Value} (h : CX Y X w st v) (hb : Below w.heap.size w w') : CX Y X w' st v := h.more hb (fun _ q => .inl q) (fun k q => Nat.lt_of_lt_of_le (h.yl k q) hb.size)
theorem CW.kept {Y : Nat → Prop} {X : Nat} {w w' : World} {st : Cst} (h : CW Y X w st) (hb : Below w.heap.size w w') : CW Y X w' st := by
  obtain ⟨v, h⟩ := h; exact ⟨v, h.kept hb⟩
theorem CW.more {Y Z : Nat → Prop} {X : Nat} {w w' : World} {st : Cst} (h : CW Y X w st) (hb : Below w.heap.size w w') (hz : ∀ k, Z k → Y k ∨ w.heap.size ≤ k) (hl : ∀ k, Z k → k < w'.heap.size) : CW Z X w' st := by
  obtain ⟨v, h⟩ := h; exact ⟨v, h.more hb hz hl⟩
theorem CW.gd {Y : Nat → Prop} {X : Nat} {w : World} {st : Cst} (h : CW Y X w st) : Gd st := by obtain ⟨v, h⟩ := h; exact h.gd
theorem CW.yl {Y : Nat → Prop} {X : Nat} {w : World} {st : Cst} (h : CW Y X w st) : ∀ k, Y k → k < w.heap.size := by obtain ⟨v, h⟩ := h; exact h.yl

theorem find_any {Y : Nat → Prop} {X : Nat} {w : World} {st : Cst} (h : CW Y X w st) (t : Int) :
    Calls Try.prog 76 #[.pointer (some ⟨X, 0, none⟩), .int .i64 t] w fun r w' => r = .returned (.tuple #[.int .i64 (pos st.rd t : Nat), .bool (has st.rd t)]) ∧ w' = w := by
  obtain ⟨v, h⟩ := h
  have SR := hide (search_any v st.rd t w h.own h.gd.u h.gd.so (Nat.le_trans (srt_len h.gd.so h.gd.ro) (by decide)))
  obtain ⟨oa, c, rfl⟩ := own_sl h.own
  have c1 := cell_of h.head 1
  simp at c1
  clear h
  generalize pos st.rd t = P at *
  generalize has st.rd t = B at *
  go_enter Try.func76, Try.ntmps76
  go_wp2_with fail
  refine SR.out.mono ?_
  rintro r w1 ⟨rfl, e1⟩
  obtain rfl := e1.symm
  go_wp2_with fail
  go_ret2
  exact ⟨rfl, rfl⟩
end Ce
end Go.Proofs.Ytekdcfdjohlfcaa
/- Package clock, what writes: the memory of a clock, its frame, and own(), over this seat's program. -/
namespace Go.Proofs.Ytekdcfdjohlfcaa
open Go.ChangeShapes Go.WideShapes Go.ChangeAt Go.RowKit
namespace Ck

/-- nothing has turned from w to w' but blocks of X, and new ones -/
structure Fr (X : Nat → Prop) (w w' : World) : Prop where
  os : w'.os = w.os
  tape : w'.tape = w.tape
  output : w'.output = w.output
  size : w.heap.size ≤ w'.heap.size
  block : ∀ k, k < w.heap.size → ¬ X k → w'.heap[k]? = w.heap[k]?

theorem Fr.refl (X : Nat → Prop) (w : World) : Fr X w w := ⟨rfl, rfl, rfl, Nat.le_refl _, fun _ _ _ => rfl⟩
theorem Fr.trans {X Y : Nat → Prop} {a b c : World} (h : Fr X a b) (k : Fr Y b c) (hY : ∀ j, j < a.heap.size → Y j → X j) : Fr X a c :=
  ⟨k.os.trans h.os, k.tape.trans h.tape, k.output.trans h.output, Nat.le_trans h.size k.size, fun j hj hx => (k.block j (Nat.lt_of_lt_of_le hj h.size) (fun y => hx (hY j hj y))).trans (h.block j hj hx)⟩
theorem Fr.below {X : Nat → Prop} {w w' : World} (h : Fr X w w') {B : Nat} (hB : B ≤ w.heap.size) (hX : ∀ k, X k → B ≤ k) : Below B w w' :=
  ⟨h.os, h.tape, h.output, h.size, fun k hk => h.block k (Nat.lt_of_lt_of_le hk hB) (fun x => by have := hX k x; omega)⟩
theorem Fr.alloc {X : Nat → Prop} {a w : World} (h : Fr X a w) (o : Obj) : Fr X a (w.alloc o) :=
  ⟨h.os, h.tape, h.output, Nat.le_trans h.size (by simp), fun k hk hx => (Below.heap_alloc w o k (Nat.lt_of_lt_of_le hk h.size)).trans (h.block k hk hx)⟩
theorem Fr.drew {X : Nat → Prop} {a w : World} (h : Fr X a w) : Fr X a w.drew := ⟨h.os, h.tape, h.output, h.size, h.block⟩
theorem Fr.setCell {X : Nat → Prop} {a w : World} (h : Fr X a w) {p : Addr} (hp : X p.block ∨ a.heap.size ≤ p.block) (u : Value) : Fr X a (w.setCell p u) := by
  have hb : Below 0 w (w.setCell p u) := (Below.refl 0 w).setCell (Nat.zero_le _) u
  refine ⟨hb.os.trans h.os, hb.tape.trans h.tape, hb.output.trans h.output, Nat.le_trans h.size hb.size, fun k hk hx => ?_⟩
  rw [Below.heap_setCell w p u k (fun e => by subst e; rcases hp with hp | hp; exact hx hp; omega)]
  exact h.block k hk hx
theorem Fr.setRow {X : Nat → Prop} {a w : World} (h : Fr X a w) {g : Nat} (hp : X g) (cs : Array Value) : Fr X a (w.setRow g cs) :=
  ⟨h.os, h.tape, h.output, by simpa using h.size, fun k hk hx => (setRow_other w g k cs (fun e => hx (e ▸ hp))).trans (h.block k hk hx)⟩

/-- the clock in block b: its numbers l, whether it is shared, the block of its numbers, how many fit there -/
structure Rep (w : World) (b : Nat) (l : List Int) (s : Bool) (g : Option Nat) (cap : Nat) : Prop where
  head : w.heap[b]? = some (.cells #[.slice (g.map fun g => ⟨g, 0, none⟩) l.length cap, .bool s] 103 (0, 0))
  len : l.length ≤ 256
  le : l.length ≤ cap
  mx : cap ≤ maxLen
  sh : s = true → cap = l.length
  nil : g = none → cap = 0
  data : ∀ x, g = some x → x ≠ b ∧ ∃ cur, w.heap[x]? = some (.cells cur 3 (0, 0)) ∧ cap ≤ cur.size ∧ ∀ k, k < l.length → cur[k]? = some (.int .i64 (nth l k))

theorem frozen_of {w : World} {b : Nat} {cur : Array Value} {t : TypeId} (h : w.heap[b]? = some (.cells cur t (0, 0))) (k : Nat) : w.frozen? ⟨b, k, none⟩ = false := by
  simp [World.frozen?, h]

theorem Rep.at_ {w : World} {b : Nat} {l : List Int} {s : Bool} {g : Option Nat} {cap : Nat} (h : Rep w b l s g cap) : At w (g.map fun g => ⟨g, 0, none⟩) l := by
  intro k hk
  cases hg : g with
  | none => have := h.nil hg; have := h.le; omega
  | some x =>
    obtain ⟨_, cur, hc, _, hd⟩ := h.data x hg
    refine ⟨x, 0, rfl, ?_⟩
    rw [Nat.zero_add, cell_of hc k]
    exact hd k hk
theorem Rep.ck {w : World} {b : Nat} {l : List Int} {s : Bool} {g : Option Nat} {cap : Nat} (h : Rep w b l s g cap) : CK w b l :=
  ⟨_, cap, s, cell_of h.head 0, cell_of h.head 1, h.at_, h.len⟩
theorem Rep.lt {w : World} {b : Nat} {l : List Int} {s : Bool} {g : Option Nat} {cap : Nat} (h : Rep w b l s g cap) : b < w.heap.size := (Array.getElem?_eq_some_iff.1 h.head).1
theorem Rep.glt {w : World} {b : Nat} {l : List Int} {s : Bool} {g : Option Nat} {cap : Nat} (h : Rep w b l s g cap) {x : Nat} (hx : g = some x) : x < w.heap.size := by
  obtain ⟨_, cur, hc, _⟩ := h.data x hx
  exact (Array.getElem?_eq_some_iff.1 hc).1
/-- whatever leaves both blocks alone leaves the clock alone -/
theorem Rep.keep {w w' : World} {b : Nat} {l : List Int} {s : Bool} {g : Option Nat} {cap : Nat} (h : Rep w b l s g cap) (h1 : w'.heap[b]? = w.heap[b]?) (h2 : ∀ x, g = some x → w'.heap[x]? = w.heap[x]?) : Rep w' b l s g cap :=
  ⟨h1.trans h.head, h.len, h.le, h.mx, h.sh, h.nil, fun x hx => by
    obtain ⟨hne, cur, hc, rest⟩ := h.data x hx
    exact ⟨hne, cur, (h2 x hx).trans hc, rest⟩⟩

/-- l, and noughts behind it up to n numbers -/
def pad (l : List Int) (n : Nat) : List Int := l ++ List.replicate (n - l.length) 0
theorem pad_length (l : List Int) (n : Nat) : (pad l n).length = max l.length n := by simp [pad]; omega
theorem nth_pad (l : List Int) (n k : Nat) : nth (pad l n) k = nth l k := by
  by_cases h : k < l.length
  · simp [nth, pad, List.getElem?_append_left h]
  · rw [nth_out l k (by omega)]
    by_cases h2 : k < max l.length n
    · rw [nth_lt _ _ (by rw [pad_length]; exact h2)]
      simp only [pad]
      rw [List.getElem_append_right (by omega)]
      simp
    · exact nth_out _ _ (by rw [pad_length]; omega)
theorem pad_same (l : List Int) (n : Nat) (h : n ≤ l.length) : pad l n = l := by
  have : n - l.length = 0 := by omega
  simp [pad, this]

/-- the blocks that a clock may write -/
def Mine (b : Nat) (s : Bool) (g : Option Nat) : Nat → Prop := fun k => k = b ∨ (s = false ∧ g = some k)
/-- what becomes of a clock that is changed from world w on: it has the same numbers' block, or a new one of its own -/
def Nx (w : World) (s : Bool) (g : Option Nat) (s' : Bool) (g' : Option Nat) : Prop := (s' = s ∧ g' = g) ∨ (s' = false ∧ ∃ x, g' = some x ∧ w.heap.size ≤ x)

theorem heap_setCell_same {w : World} {b i : Nat} {cur : Array Value} {t : TypeId} {fr : Nat × Nat} (h : w.heap[b]? = some (.cells cur t fr)) (v : Value) : (w.setCell ⟨b, i, none⟩ v).heap[b]? = some (.cells (cur.setIfInBounds i v) t fr) := by
  rw [setCell_eq_setRow w b i cur t fr v h]
  exact setRow_heap w b cur _ t fr h
end Ck
end Go.Proofs.Ytekdcfdjohlfcaa
/- Package clock: own(), over this seat's program. -/
namespace Go.Proofs.Ytekdcfdjohlfcaa
open Go.ChangeShapes Go.WideShapes Go.ChangeAt Go.RowKit
namespace Ck

theorem hide {p : Prop} (h : p) : Hid p := h
/-- k noughts -/
def zer (k : Nat) : List Value := List.replicate k (.int .i64 0)
theorem zer_at (k i : Nat) (h : i < k) : (zer k)[i]? = some (.int .i64 0) := by simp [zer, h]
theorem zeroCells_is (k : Nat) : Builtin.zeroCells #[Value.int .i64 0] k = (zer k).toArray := by
  apply Array.ext'
  simp only [Builtin.zeroCells, zer]
  apply List.ext_getElem
  · simp
  · intro i h1 h2
    simp [Nat.mod_one]

set_option maxRecDepth 100000 in
theorem run_grow (w : World) (oa : Option Addr) (l : List Int) (cap k : Nat) (ty : TypeId) (hA : At w oa l) (hk : 0 < k) (hg : cap < l.length + k) (hm : l.length + k ≤ 256) :
    ∃ cap', l.length + k ≤ cap' ∧ cap' ≤ maxLen ∧ (Builtin.append_ #[31, 3] ty #[.slice oa l.length cap, .int .i64 (k : Int)]).run Try.prog w = .ok (.slice (some ⟨w.heap.size, 0, none⟩) (l.length + k) cap') (w.drew.alloc (.cells (row l ++ (zer (cap' - l.length)).toArray) 3)) := by
  obtain ⟨i0, hi, hz0, hz1, hz2⟩ := info_parts info_int
  refine ⟨grownCap w (l.length + k) cap 3, grownCap_ge _ _ _ _, grownCap_le_maxLen _ _ _ _ (by unfold maxLen; omega), ?_⟩
  have hold : (Builtin.firstCells i0.size l.length (.slice oa l.length cap)).run Try.prog w.drew = .ok (row l) w.drew := by
    rcases hA.ways with h0 | ⟨b, off, rfl, hc⟩
    · subst h0
      cases oa with
      | none => rfl
      | some a =>
        have := run_loadCells_list (P := Try.prog) w.drew a [] (by simp)
        simpa [Builtin.firstCells, row] using this
    · have := run_loadCells_list (P := Try.prog) w.drew ⟨b, off, none⟩ (l.map (Value.int .i64)) (by
        intro j v hj
        have hjl : j < l.length := by
          have := (List.getElem?_eq_some_iff.1 hj).1
          simpa using this
        have hv : v = .int .i64 (nth l j) := by
          rw [nth_lt l j hjl]
          simp [hjl] at hj
          exact hj.symm
        rw [hv, ← hc j hjl, Addr.add_lit]
        rfl)
      simpa [Builtin.firstCells, hz1, row] using this
  have hncap : Builtin.nextslicecap (l.length + k) cap ≤ 1024 := by
    unfold Builtin.nextslicecap
    split
    · omega
    · split
      · omega
      · omega
  have := Lib.run_append_grow_zeros (P := Try.prog) w 31 3 ty 3 i0 (.int .i64 0) .i64 .i64 Try.underlying31 Try.underlying3 hi hz0 oa l.length cap (l.map (Value.int .i64)) hold k hk (by omega) hg (by omega) (by rw [hz2]; omega) (by rw [hz2]; omega)
  rw [this]
  have hge := grownCap_ge w (l.length + k) cap 3
  have e1 : (Value.int .i64 0).cells = #[Value.int .i64 0] := rfl
  rw [e1, zeroCells_is, zeroCells_is]
  congr 3
  apply Array.ext'
  simp [row, zer]
  omega

theorem run_room (w : World) (g n cap k : Nat) (cur : Array Value) (ty : TypeId) (hc : w.heap[g]? = some (.cells cur 3 (0, 0))) (hk : 0 < k) (hr : n + k ≤ cap) (hs : cap ≤ cur.size) (hm : k ≤ 256) :
    (Builtin.append_ #[31, 3] ty #[.slice (some ⟨g, 0, none⟩) n cap, .int .i64 (k : Int)]).run Try.prog w = .ok (.slice (some ⟨g, 0, none⟩) (n + k) cap) (w.setRow g (cur.toList.take n ++ zer k ++ cur.toList.drop (n + k)).toArray) := by
  obtain ⟨i0, hi, hz0, hz1, hz2⟩ := info_parts info_int
  have hk' : k ≠ 0 := by omega
  have hw : IntKind.i64.wrap (k : Int) = k := by rw [IntKind.wrap_i64]; omega
  have hneg : ¬ ((k : Int) < 0) := by omega
  have h48 : ¬ (281474976710656 < (k : Int) * 8) := by omega
  have hst := run_storeCells_at Try.prog g n 3 (zer k) 0 cur w hc (by simp [zer]; omega) (by intro v hv; simp [zer] at hv; rw [hv.2]; rfl)
  have e1 : (Value.int .i64 0).cells = #[Value.int .i64 0] := rfl
  simp [Builtin.append_, run_underlying Try.underlying31, run_underlying Try.underlying3, sizeOf, typeInfo, zeroValue, hi, hz0, hz1, hz2, asInt, asIntOf, hw, hneg, hk', h48, hr, e1, zeroCells_is, Addr.add_lit]
  simp at hst
  rw [hst]
  simp [Result.andThen, zer]

set_option maxHeartbeats 800000 in
theorem own_keep (b : Nat) (l : List Int) (g : Option Nat) (cap n : Nat) (w : World) (h : Rep w b l false g cap) (hn : n ≤ l.length) :
    Calls Try.prog 72 #[.pointer (some ⟨b, 0, none⟩), .int .i64 (n : Int)] w fun r w' => r = .returned (.tuple #[]) ∧ w' = w.setCell ⟨b, 1, none⟩ (.bool false) := by
  have c0 := cell_of h.head 0
  have c1 := cell_of h.head 1
  have f1 := frozen_of h.head 1
  have hl := h.len
  simp at c0 c1
  clear h
  go_enter Try.func72, Try.ntmps72
  go_wp2
  go_end0
  exact ⟨rfl, rfl⟩

set_option maxHeartbeats 800000 in
theorem own_dup (b : Nat) (l : List Int) (g : Option Nat) (cap n : Nat) (w : World) (h : Rep w b l true g cap) (hn : n ≤ l.length) :
    Calls Try.prog 72 #[.pointer (some ⟨b, 0, none⟩), .int .i64 (n : Int)] w fun r w' => r = .returned (.tuple #[]) ∧ w' = ((w.setCell ⟨b, 0, none⟩ (.slice (some ⟨w.heap.size, 0, none⟩) l.length l.length)).setCell ⟨b, 1, none⟩ (.bool false)).alloc (.cells (row l) 3) := by
  have c0 := cell_of h.head 0
  have c1 := cell_of h.head 1
  have f0 := frozen_of h.head 0
  have f1 := frozen_of h.head 1
  have hb := h.lt
  have hl := h.len
  have HA : Hid (At w (g.map fun g => ⟨g, 0, none⟩) l) := h.at_
  simp at c0 c1
  clear h
  go_enter Try.func72, Try.ntmps72
  go_wp2_with (go_at_call 34; refine (dup_any _ l _ _ HA.out hl).mono ?_; rintro r w' ⟨rfl, rfl⟩)
  go_end0
  exact ⟨rfl, rfl⟩

set_option maxHeartbeats 800000 in
theorem own_room (b : Nat) (l : List Int) (g cap n : Nat) (w W : World) (h : Rep w b l false (some g) cap) (hn : l.length < n) (hm : n ≤ 256)
    (hrun : (Builtin.append_ #[31, 3] 31 #[.slice (some ⟨g, 0, none⟩) l.length cap, .int .i64 ((n : Int) - (l.length : Int))]).run Try.prog w = .ok (.slice (some ⟨g, 0, none⟩) n cap) W)
    (hh : W.heap[b]? = w.heap[b]?) :
    Calls Try.prog 72 #[.pointer (some ⟨b, 0, none⟩), .int .i64 (n : Int)] w fun r w' => r = .returned (.tuple #[]) ∧ w' = (W.setCell ⟨b, 0, none⟩ (.slice (some ⟨g, 0, none⟩) n cap)).setCell ⟨b, 1, none⟩ (.bool false) := by
  have c0 := cell_of h.head 0
  have hh2 := hh.trans h.head
  have d0 := cell_of hh2 0
  have d1 := cell_of hh2 1
  have f0 := frozen_of hh2 0
  have f1 := frozen_of hh2 1
  have hl := h.len
  simp at c0 d0 d1
  have HR := hide hrun
  clear h hh hh2 hrun
  go_enter Try.func72, Try.ntmps72
  go_wp2_with (at_builtin; refine Lib.wpList_append_run _ rfl _ _ 31 3 rfl _ _ rfl rfl _ _ HR.out ?_)
  go_end0
  exact ⟨rfl, rfl⟩

set_option maxHeartbeats 800000 in
theorem own_grow (b : Nat) (l : List Int) (s : Bool) (g : Option Nat) (cap cap' n : Nat) (w : World) (O : Array Value) (h : Rep w b l s g cap) (hn : l.length < n) (hm : n ≤ 256)
    (hrun : (Builtin.append_ #[31, 3] 31 #[.slice (g.map fun g => ⟨g, 0, none⟩) l.length cap, .int .i64 ((n : Int) - (l.length : Int))]).run Try.prog w = .ok (.slice (some ⟨w.heap.size, 0, none⟩) n cap') (w.drew.alloc (.cells O 3))) :
    Calls Try.prog 72 #[.pointer (some ⟨b, 0, none⟩), .int .i64 (n : Int)] w fun r w' => r = .returned (.tuple #[]) ∧ w' = (((w.setCell ⟨b, 0, none⟩ (.slice (some ⟨w.heap.size, 0, none⟩) n cap')).setCell ⟨b, 1, none⟩ (.bool false)).alloc (.cells O 3)).drew := by
  have c0 := cell_of h.head 0
  have c1 := cell_of h.head 1
  have f0 := frozen_of h.head 0
  have f1 := frozen_of h.head 1
  have hb := h.lt
  have hl := h.len
  simp at c0 c1
  have HR := hide hrun
  clear h hrun
  go_enter Try.func72, Try.ntmps72
  go_wp2_with (at_builtin; refine Lib.wpList_append_run _ rfl _ _ 31 3 rfl _ _ rfl rfl _ _ HR.out ?_)
  go_end0
  exact ⟨rfl, rfl⟩

/-- both cells of a clock's block, written -/
theorem head2 {W : World} {b : Nat} {v0 u0 : Value} {t : TypeId} (h : W.heap[b]? = some (.cells #[v0, u0] t (0, 0))) (v u : Value) :
    ((W.setCell ⟨b, 0, none⟩ v).setCell ⟨b, 1, none⟩ u).heap[b]? = some (.cells #[v, u] t (0, 0)) :=
  heap_setCell_same (heap_setCell_same h v) u
theorem other2 (W : World) (b : Nat) (v u : Value) (x : Nat) (h : x ≠ b) : ((W.setCell ⟨b, 0, none⟩ v).setCell ⟨b, 1, none⟩ u).heap[x]? = W.heap[x]? :=
  (Below.heap_setCell _ _ _ _ h).trans (Below.heap_setCell _ _ _ _ h)
theorem size2 (W : World) (b : Nat) (v u : Value) : ((W.setCell ⟨b, 0, none⟩ v).setCell ⟨b, 1, none⟩ u).heap.size = W.heap.size := by simp [World.setCell]

/-- what own leaves -/
def Owned (w : World) (b : Nat) (l : List Int) (s : Bool) (g : Option Nat) (n : Nat) (w' : World) : Prop :=
  ∃ g' cap', Rep w' b (pad l n) false g' cap' ∧ ((s = false ∧ g' = g) ∨ ∃ x, g' = some x ∧ w.heap.size ≤ x) ∧ Fr (Mine b s g) w w'

theorem owned_keep {b : Nat} {l : List Int} {g : Option Nat} {cap n : Nat} {w : World} (h : Rep w b l false g cap) (hn : n ≤ l.length) :
    Owned w b l false g n (w.setCell ⟨b, 1, none⟩ (.bool false)) := by
  refine ⟨g, cap, ?_, .inl ⟨rfl, rfl⟩, (Fr.refl _ _).setCell (.inl (.inl rfl)) _⟩
  rw [pad_same l n hn]
  refine h.keep ?_ ?_
  · rw [heap_setCell_same h.head, h.head]
    rfl
  · intro x hx
    exact Below.heap_setCell _ _ _ _ (h.data x hx).1

theorem owned_new {b : Nat} {l : List Int} {s : Bool} {g : Option Nat} {cap cap' n m : Nat} {w : World} {O : Array Value} (h : Rep w b l s g cap) (hm : m ≤ 256) (hml : (pad l n).length = m) (hc : m ≤ cap') (hx : cap' ≤ maxLen) (hs : cap' ≤ O.size) (hd : ∀ k, k < m → O[k]? = some (.int .i64 (nth l k))) {W : World}
    (hW : W.heap = (((w.setCell ⟨b, 0, none⟩ (.slice (some ⟨w.heap.size, 0, none⟩) m cap')).setCell ⟨b, 1, none⟩ (.bool false)).alloc (.cells O 3)).heap) (hF : Fr (Mine b s g) w W) :
    Owned w b l s g n W := by
  have hb := h.lt
  have hsz := size2 w b (.slice (some ⟨w.heap.size, 0, none⟩) m cap') (.bool false)
  refine ⟨some w.heap.size, cap', ⟨?_, by omega, by omega, hx, fun e => by simp at e, fun e => by simp at e, ?_⟩, .inr ⟨_, rfl, Nat.le_refl _⟩, hF⟩
  · rw [hW, Below.heap_alloc _ _ _ (by omega), head2 h.head, hml]
    rfl
  · intro x hx
    simp at hx
    subst hx
    refine ⟨by omega, O, ?_, hs, fun k hk => ?_⟩
    · rw [hW]
      have := heap_new ((w.setCell ⟨b, 0, none⟩ (.slice (some ⟨w.heap.size, 0, none⟩) m cap')).setCell ⟨b, 1, none⟩ (.bool false)) (.cells O 3)
      rw [hsz] at this
      exact this
    · rw [nth_pad]
      exact hd k (by omega)

theorem own_any (b : Nat) (l : List Int) (s : Bool) (g : Option Nat) (cap n : Nat) (w : World) (h : Rep w b l s g cap) (hn : n ≤ 256) :
    Calls Try.prog 72 #[.pointer (some ⟨b, 0, none⟩), .int .i64 (n : Int)] w fun r w' => r = .returned (.tuple #[]) ∧ Owned w b l s g n w' := by
  by_cases hl : n ≤ l.length
  · cases s
    · refine (own_keep b l g cap n w h hl).mono ?_
      rintro r w' ⟨rfl, rfl⟩
      exact ⟨rfl, owned_keep h hl⟩
    · refine (own_dup b l g cap n w h hl).mono ?_
      rintro r w' ⟨rfl, rfl⟩
      refine ⟨rfl, owned_new h h.len (by rw [pad_same l n hl]) (Nat.le_refl _) (Nat.le_trans h.le h.mx) (Nat.le_of_eq (row_size l).symm) (fun k hk => row_at l k hk) rfl ?_⟩
      exact (((Fr.refl _ _).setCell (.inl (.inl rfl)) _).setCell (.inl (.inl rfl)) _).alloc _
  · obtain ⟨k, rfl⟩ : ∃ k, n = l.length + k := ⟨n - l.length, by omega⟩
    have hk : 0 < k := by omega
    have e : ((l.length + k : Nat) : Int) - (l.length : Int) = (k : Int) := by omega
    by_cases hr : l.length + k ≤ cap
    · have hs : s = false := by
        cases s
        · rfl
        · have := h.sh rfl; omega
      subst hs
      cases g with
      | none => have := h.nil rfl; omega
      | some x =>
        obtain ⟨hne, cur, hc, hcs, hcd⟩ := h.data x rfl
        have hrun := run_room w x l.length cap k cur 31 hc hk hr hcs (by omega)
        rw [← e] at hrun
        have hW : (w.setRow x (cur.toList.take l.length ++ zer k ++ cur.toList.drop (l.length + k)).toArray).heap[b]? = w.heap[b]? := setRow_other _ _ _ _ (fun q => hne q.symm)
        refine (own_room b l x cap (l.length + k) w _ h (by omega) hn hrun hW).mono ?_
        rintro r w' ⟨rfl, rfl⟩
        refine ⟨rfl, some x, cap, ⟨?_, by rw [pad_length]; omega, by rw [pad_length]; omega, h.mx, fun q => by simp at q, fun q => by simp at q, ?_⟩, .inl ⟨rfl, rfl⟩, ?_⟩
        · rw [head2 (hW.trans h.head), pad_length]
          have : max l.length (l.length + k) = l.length + k := by omega
          rw [this]
          rfl
        · intro y hy
          simp at hy
          subst hy
          refine ⟨hne, _, (other2 _ _ _ _ _ hne).trans (setRow_heap _ _ _ _ _ _ hc), ?_, fun j hj => ?_⟩
          · simp [zer]; omega
          · rw [pad_length] at hj
            rw [nth_pad]
            by_cases hjl : j < l.length
            · have := hcd j hjl
              rw [← this]
              have hj2 : j < cur.size := by omega
              simp [List.getElem?_append, hjl, hj2]
              omega
            · rw [nth_out l j (by omega)]
              have h1 : (cur.toList.take l.length).length = l.length := by simp; omega
              have h2 : j - l.length < (zer k).length := by simp [zer]; omega
              simp only [List.getElem?_toArray]
              rw [List.append_assoc, List.getElem?_append_right (by omega), h1, List.getElem?_append_left h2]
              exact zer_at k _ (by omega)
        · exact (((Fr.refl _ _).setRow (.inr ⟨rfl, rfl⟩) _).setCell (.inl (.inl rfl)) _).setCell (.inl (.inl rfl)) _
    · obtain ⟨cap', h1, h2, hrun⟩ := run_grow w _ l cap k 31 h.at_ hk (by omega) hn
      rw [← e] at hrun
      refine (own_grow b l s g cap cap' (l.length + k) w _ h (by omega) hn hrun).mono ?_
      rintro r w' ⟨rfl, rfl⟩
      refine ⟨rfl, owned_new h hn (by rw [pad_length]; omega) h1 h2 (by simp [row_size, zer]; omega) (fun j hj => ?_) rfl ?_⟩
      · by_cases hjl : j < l.length
        · rw [Array.getElem?_append_left (by rw [row_size]; exact hjl)]
          exact row_at l j hjl
        · rw [nth_out l j (by omega), Array.getElem?_append_right (by rw [row_size]; omega), row_size, List.getElem?_toArray]
          exact zer_at _ _ (by omega)
      · exact ((((Fr.refl _ _).setCell (.inl (.inl rfl)) _).setCell (.inl (.inl rfl)) _).alloc _).drew
end Ck
end Go.Proofs.Ytekdcfdjohlfcaa
/- Package clock: Join, over this seat's program. -/
namespace Go.Proofs.Ytekdcfdjohlfcaa
open Go.ChangeShapes Go.WideShapes Go.ChangeAt Go.RowKit
namespace Ck

/-- the clock (b, s, g) writes nothing of what the clock (b2, g2) lies in -/
def Apart (b : Nat) (s : Bool) (g : Option Nat) (b2 : Nat) (g2 : Option Nat) : Prop :=
  b2 ≠ b ∧ g2 ≠ some b ∧ (s = false → ∀ x, g = some x → x ≠ b2 ∧ g2 ≠ some x)

theorem Apart.next {w : World} {b b2 : Nat} {s s' : Bool} {g g' g2 : Option Nat} (h : Apart b s g b2 g2) (hn : Nx w s g s' g') (h1 : b2 < w.heap.size) (h2 : ∀ x, g2 = some x → x < w.heap.size) : Apart b s' g' b2 g2 := by
  refine ⟨h.1, h.2.1, fun hs x hx => ?_⟩
  rcases hn with ⟨rfl, rfl⟩ | ⟨_, y, hy, hle⟩
  · exact h.2.2 hs x hx
  · rw [hx] at hy
    simp at hy
    subst hy
    exact ⟨by omega, fun e => by have := h2 x e; omega⟩

theorem Rep.fr {w w' : World} {b b2 : Nat} {s s2 : Bool} {g g2 : Option Nat} {m : List Int} {c2 : Nat} (h : Rep w b2 m s2 g2 c2) (hF : Fr (Mine b s g) w w') (ha : Apart b s g b2 g2) : Rep w' b2 m s2 g2 c2 := by
  refine h.keep (hF.block b2 h.lt ?_) fun x hx => hF.block x (h.glt hx) ?_
  · rintro (e | ⟨hs, hg⟩)
    · exact ha.1 e
    · exact (ha.2.2 hs b2 hg).1 rfl
  · rintro (e | ⟨hs, hg⟩)
    · subst e; exact ha.2.1 hx
    · exact (ha.2.2 hs x hg).2 hx

theorem Nx.refl (w : World) (s : Bool) (g : Option Nat) : Nx w s g s g := .inl ⟨rfl, rfl⟩
theorem Nx.trans {w w1 : World} {s s1 s2 : Bool} {g g1 g2 : Option Nat} (h : Nx w s g s1 g1) (k : Nx w1 s1 g1 s2 g2) (hs : w.heap.size ≤ w1.heap.size) : Nx w s g s2 g2 := by
  rcases k with ⟨rfl, rfl⟩ | ⟨e, x, hx, hle⟩
  · exact h
  · exact .inr ⟨e, x, hx, Nat.le_trans hs hle⟩
theorem Fr.next {w w1 w2 : World} {b : Nat} {s s1 : Bool} {g g1 : Option Nat} (h : Fr (Mine b s g) w w1) (hn : Nx w s g s1 g1) (k : Fr (Mine b s1 g1) w1 w2) : Fr (Mine b s g) w w2 := by
  refine h.trans k fun j hj hm => ?_
  rcases hm with e | ⟨hs, hg⟩
  · exact .inl e
  · rcases hn with ⟨rfl, rfl⟩ | ⟨_, x, hx, hle⟩
    · exact .inr ⟨hs, hg⟩
    · rw [hx] at hg
      simp at hg
      omega

theorem nth_set (l : List Int) (k j : Nat) (v : Int) (hk : k < l.length) : nth (l.set k v) j = if j = k then v else nth l j := by
  by_cases h : j = k
  · subst h; simp [nth, hk]
  · simp [nth, h, Ne.symm h]

theorem Rep.setNum {w : World} {b g cap k : Nat} {l : List Int} (h : Rep w b l false (some g) cap) (hk : k < l.length) (v : Int) : Rep (w.setCell ⟨g, k, none⟩ (.int .i64 v)) b (l.set k v) false (some g) cap := by
  obtain ⟨hne, cur, hc, hcs, hcd⟩ := h.data g rfl
  refine ⟨?_, by simpa using h.len, by simpa using h.le, h.mx, fun q => by simp at q, fun q => by simp at q, fun x hx => ?_⟩
  · rw [Below.heap_setCell _ _ _ _ (Ne.symm hne), h.head]
    simp
  · simp at hx
    subst hx
    have hle := h.le
    refine ⟨hne, _, heap_setCell_same hc _, by simpa using hcs, fun j hj => ?_⟩
    rw [nth_set l k j v hk]
    simp at hj
    by_cases e : j = k
    · subst e
      have : j < cur.size := by omega
      simp [this]
    · rw [if_neg e, Array.getElem?_setIfInBounds_ne (Ne.symm e)]
      exact hcd j hj

theorem Owned.nx {w : World} {s : Bool} {g g' : Option Nat} (h : (s = false ∧ g' = g) ∨ ∃ x, g' = some x ∧ w.heap.size ≤ x) : Nx w s g false g' := by
  rcases h with ⟨rfl, rfl⟩ | ⟨x, hx, hle⟩
  · exact .inl ⟨rfl, rfl⟩
  · exact .inr ⟨rfl, x, hx, hle⟩

/-- of each tid the greater number -/
def jn (l m : List Int) : List Int := (List.range (max l.length m.length)).map fun k => max (nth l k) (nth m k)
theorem jn_length (l m : List Int) : (jn l m).length = max l.length m.length := by simp [jn]
theorem nth_jn (l m : List Int) (k : Nat) : nth (jn l m) k = max (nth l k) (nth m k) := by
  by_cases h : k < max l.length m.length
  · rw [nth_lt _ _ (by rw [jn_length]; exact h)]; simp [jn]
  · rw [nth_out _ _ (by rw [jn_length]; omega), nth_out l k (by omega), nth_out m k (by omega)]; rfl

/-- what a Join has done when k numbers have been looked at: the relation of its loop -/
def Jr (w : World) (b : Nat) (l : List Int) (s : Bool) (g : Option Nat) (b2 : Nat) (m : List Int) (s2 : Bool) (g2 : Option Nat) (c2 k : Nat) (x : Bool) (wr : World) : Prop :=
  ∃ l' s' g' cap', Rep wr b l' s' g' cap' ∧ Rep wr b2 m s2 g2 c2 ∧ (∀ j, nth l' j = if j < k then max (nth l j) (nth m j) else nth l j) ∧
    ((x = true ∧ l'.length = max l.length m.length ∧ ∃ j, nth l j < nth m j) ∨ (x = false ∧ l' = l ∧ ∀ j, j < k → nth m j ≤ nth l j)) ∧ Nx w s g s' g' ∧ Fr (Mine b s g) w wr

theorem Jr.start {w : World} {b : Nat} {l : List Int} {s : Bool} {g : Option Nat} {cap b2 : Nat} {m : List Int} {s2 : Bool} {g2 : Option Nat} {c2 : Nat} (h : Rep w b l s g cap) (h2 : Rep w b2 m s2 g2 c2) : Jr w b l s g b2 m s2 g2 c2 0 false w :=
  ⟨l, s, g, cap, h, h2, fun j => by simp, .inr ⟨rfl, rfl, fun j hj => absurd hj (Nat.not_lt_zero _)⟩, Nx.refl _ _ _, Fr.refl _ _⟩

theorem Jr.skip {w wr : World} {b : Nat} {l : List Int} {s : Bool} {g : Option Nat} {b2 : Nat} {m : List Int} {s2 : Bool} {g2 : Option Nat} {c2 k : Nat} {x : Bool} (h : Jr w b l s g b2 m s2 g2 c2 k x wr) (hk : nth m k ≤ nth l k) : Jr w b l s g b2 m s2 g2 c2 (k + 1) x wr := by
  obtain ⟨l', s', g', cap', r1, r2, hn, hx, h3⟩ := h
  refine ⟨l', s', g', cap', r1, r2, fun j => ?_, ?_, h3⟩
  · rw [hn j]
    by_cases e : j = k
    · subst e
      rw [if_neg (Nat.lt_irrefl _), if_pos (Nat.lt_succ_self _)]
      omega
    · by_cases hj : j < k
      · rw [if_pos hj, if_pos (by omega)]
      · rw [if_neg hj, if_neg (by omega)]
  · rcases hx with hx | ⟨e1, e2, e3⟩
    · exact .inl hx
    · refine .inr ⟨e1, e2, fun j hj => ?_⟩
      by_cases e : j = k
      · subst e; exact hk
      · exact e3 j (by omega)

theorem Jr.take {w wr w1 : World} {b : Nat} {l : List Int} {s : Bool} {g : Option Nat} {b2 : Nat} {m : List Int} {s2 : Bool} {g2 : Option Nat} {c2 k : Nat} {x : Bool}
    {l' : List Int} {s' : Bool} {g' : Option Nat} {y cap'' : Nat} (ha : Apart b s g b2 g2)
    (r2 : Rep wr b2 m s2 g2 c2) (hn : ∀ j, nth l' j = if j < k then max (nth l j) (nth m j) else nth l j)
    (hx : (x = true ∧ l'.length = max l.length m.length ∧ ∃ j, nth l j < nth m j) ∨ (x = false ∧ l' = l ∧ ∀ j, j < k → nth m j ≤ nth l j))
    (nx : Nx w s g s' g') (fr : Fr (Mine b s g) w wr) (h2 : b2 < w.heap.size) (h3 : ∀ z, g2 = some z → z < w.heap.size)
    (o1 : Rep w1 b (pad l' m.length) false (some y) cap'') (o2 : (s' = false ∧ some y = g') ∨ ∃ z, some y = some z ∧ wr.heap.size ≤ z) (o3 : Fr (Mine b s' g') wr w1)
    (hkm : k < m.length) (hk : nth l k < nth m k) :
    Jr w b l s g b2 m s2 g2 c2 (k + 1) true (w1.setCell ⟨y, k, none⟩ (.int .i64 (nth m k))) := by
  have hpl : k < (pad l' m.length).length := by rw [pad_length]; omega
  have nx1 : Nx wr s' g' false (some y) := Owned.nx o2
  have nx2 : Nx w s g false (some y) := nx.trans nx1 fr.size
  have fr1 : Fr (Mine b s g) w w1 := fr.next nx o3
  have r2' : Rep w1 b2 m s2 g2 c2 := r2.fr o3 (ha.next nx h2 h3)
  have fr2 : Fr (Mine b false (some y)) w1 (w1.setCell ⟨y, k, none⟩ (.int .i64 (nth m k))) := (Fr.refl _ _).setCell (.inl (.inr ⟨rfl, rfl⟩)) _
  refine ⟨(pad l' m.length).set k (nth m k), false, some y, cap'', o1.setNum hpl _, r2'.fr fr2 (ha.next nx2 h2 h3), fun j => ?_, .inl ⟨rfl, ?_, k, hk⟩, nx2, fr1.next nx2 fr2⟩
  · rw [nth_set _ _ _ _ hpl, nth_pad, hn j]
    by_cases e : j = k
    · subst e
      rw [if_pos rfl, if_pos (Nat.lt_succ_self _)]
      omega
    · rw [if_neg e]
      by_cases hj : j < k
      · rw [if_pos hj, if_pos (by omega)]
      · rw [if_neg hj, if_neg (by omega)]
  · rw [List.length_set, pad_length]
    rcases hx with ⟨_, e, _⟩ | ⟨_, e, _⟩
    · rw [e]; omega
    · rw [e]

end Ck
end Go.Proofs.Ytekdcfdjohlfcaa
/- Package clock: put, Set, Tick, Copy, New, Of and Epoch as what they leave in memory, over this seat's program. -/
namespace Go.Proofs.Ytekdcfdjohlfcaa
open Go.ChangeShapes Go.WideShapes Go.ChangeAt Go.RowKit
namespace Ck

/-- no nought at the end -/
def Canon (l : List Int) : Prop := tlen l = l.length
theorem canon_trm (l : List Int) : Canon (trm l) := by
  have h : IsT (trm l) (trm l).length := by
    refine ⟨Nat.le_refl _, fun j hj => nth_out _ _ hj, ?_⟩
    rw [trm_length, nth_trm]
    exact (tlen_is l).2.2
  exact h.uniq.symm
theorem canon_eq {l m : List Int} (hl : Canon l) (hm : Canon m) (h : ∀ j, nth l j = nth m j) : l = m := by
  have e : IsT l (tlen m) := by
    obtain ⟨a, b, c⟩ := tlen_is m
    refine ⟨?_, fun j hj => (h j).trans (b j hj), ?_⟩
    · by_cases q : tlen m ≤ l.length
      · exact q
      · rcases c with c | c
        · omega
        · rw [← h, nth_out l _ (by omega)] at c
          exact absurd rfl c
    · rcases c with c | c
      · exact .inl c
      · right; rw [h]; exact c
  have e2 := e.uniq
  unfold Canon at hl hm
  exact eq_of_nth (by omega) fun j _ => h j

theorem Rep.trim {w : World} {b y cap : Nat} {l : List Int} (h : Rep w b l false (some y) cap) : Rep (w.setCell ⟨b, 0, none⟩ (.slice (some ⟨y, 0, none⟩) (tlen l) cap)) b (trm l) false (some y) cap := by
  have ht := tlen_le l
  have h1 := h.len
  have h2 := h.le
  refine ⟨?_, by rw [trm_length]; omega, by rw [trm_length]; omega, h.mx, fun q => by simp at q, fun q => by simp at q, fun x hx => ?_⟩
  · rw [heap_setCell_same h.head, trm_length]
    rfl
  · obtain ⟨hne, cur, hc, hcs, hcd⟩ := h.data x hx
    refine ⟨hne, cur, (Below.heap_setCell _ _ _ _ hne).trans hc, hcs, fun k hk => ?_⟩
    rw [trm_length] at hk
    rw [nth_trm]
    exact hcd k (by omega)

/-- what a change of tid t's number to n leaves -/
def Putted (w : World) (b : Nat) (l : List Int) (s : Bool) (g : Option Nat) (t : Nat) (n : Int) (w' : World) : Prop :=
  ∃ l' s' g' cap', Rep w' b l' s' g' cap' ∧ Canon l' ∧ (∀ j, nth l' j = if j = t then n else nth l j) ∧ Nx w s g s' g' ∧ Fr (Mine b s g) w w'

theorem putted_same {w : World} {b : Nat} {l : List Int} {s : Bool} {g : Option Nat} {cap t : Nat} {n : Int} (h : Rep w b l s g cap) (hc : Canon l) (hn : nth l t = n) : Putted w b l s g t n w :=
  ⟨l, s, g, cap, h, hc, fun j => by
    split
    · subst j; exact hn
    · rfl, Nx.refl _ _ _, Fr.refl _ _⟩

theorem putted_new {w w1 : World} {b : Nat} {l : List Int} {s : Bool} {g : Option Nat} {t y cap1 : Nat} {n : Int}
    (o1 : Rep w1 b (pad l (t + 1)) false (some y) cap1) (o2 : (s = false ∧ some y = g) ∨ ∃ z, some y = some z ∧ w.heap.size ≤ z) (o3 : Fr (Mine b s g) w w1) :
    Putted w b l s g t n ((w1.setCell ⟨y, t, none⟩ (.int .i64 n)).setCell ⟨b, 0, none⟩ (.slice (some ⟨y, 0, none⟩) (tlen ((pad l (t + 1)).set t n)) cap1)) := by
  have hp : t < (pad l (t + 1)).length := by rw [pad_length]; omega
  have nx := Owned.nx o2
  refine ⟨_, false, some y, cap1, (o1.setNum hp n).trim, canon_trm _, fun j => ?_, nx, ?_⟩
  · rw [nth_trm, nth_set _ _ _ _ hp, nth_pad]
  · exact o3.next nx (((Fr.refl _ _).setCell (.inl (.inr ⟨rfl, rfl⟩)) _).setCell (.inl (.inl rfl)) _)

theorem trim_n (oa : Option Addr) (l : List Int) (n c : Nat) (hn : l.length = n) (w : World) (hA : At w oa l) (hl : n ≤ c) (hc : c ≤ maxLen) :
    Calls Try.prog 35 #[.slice oa n c] w fun r w' => r = .returned (.slice oa (tlen l) c) ∧ w' = w := by
  subst hn
  exact trim_any oa l c w hA hl hc

set_option maxHeartbeats 800000 in
theorem put_any (b : Nat) (l : List Int) (s : Bool) (g : Option Nat) (cap t : Nat) (n : Int) (w : World) (h : Rep w b l s g cap) (hc : Canon l) (ht : t < 256) :
    Calls Try.prog 62 #[.pointer (some ⟨b, 0, none⟩), .int .i64 (t : Int), .int .i64 n] w fun r w' => r = .returned (.tuple #[]) ∧ Putted w b l s g t n w' := by
  have H := hide h
  have HC := hide hc
  have G : Hid (gt l (t : Int) = nth l t) := gt_nat l t
  clear h hc
  by_cases he : nth l t = n
  · have he' : (nth l t == n) = true := by simpa using he
    have HE := hide he
    clear he
    go_enter Try.func62, Try.ntmps62
    go_wp2_with (go_at_call 71; refine (get_any b l _ _ H.out.ck).mono ?_; rw [G.out]; rintro r w' ⟨rfl, rfl⟩)
    refine bodyPost_ret (results_none rfl _ _ _) rfl ?_
    exact ⟨rfl, putted_same H.out HC.out HE.out⟩
  · have he' : (nth l t == n) = false := by simpa using he
    clear he
    go_enter Try.func62, Try.ntmps62
    go_wp2_with (go_at_call 71; refine (get_any b l _ _ H.out.ck).mono ?_; rw [G.out]; rintro r w' ⟨rfl, rfl⟩)
    rw [show ((t : Int) + 1) = ((t + 1 : Nat) : Int) from by omega]
    refine (own_any b l s g cap (t + 1) _ H.out (by omega)).mono ?_
    rintro r w1 ⟨rfl, g1, cap1, o1, o2, o3⟩
    obtain ⟨y, rfl⟩ : ∃ y, g1 = some y := by
      cases g1 with
      | none => have e1 := o1.nil rfl; have e2 := o1.le; rw [pad_length] at e2; omega
      | some y => exact ⟨y, rfl⟩
    obtain ⟨hne, cur, hcur, hcs, hcd⟩ := o1.data y rfl
    have hpl : t < (pad l (t + 1)).length := by rw [pad_length]; omega
    have hpl' : (t : Int) < ((pad l (t + 1)).length : Int) := by omega
    have hpm := o1.len
    have q0 := cell_of o1.head 0
    have q4 := frozen_of o1.head 0
    simp at q0
    have q1 := (cell_of hcur t).trans (hcd t hpl)
    have q2 := frozen_of hcur t
    have O1 := hide o1
    have O2 := hide o2
    have O3 := hide o3
    have AT := hide (o1.setNum hpl n).at_
    have LE := hide o1.le
    have MX := hide o1.mx
    clear o1 o2 o3 hcur hcs hcd
    go_wp2_with (go_at_call 35; refine (trim_n _ ((pad l (t + 1)).set t n) _ _ (by simp) _ AT.out LE.out MX.out).mono ?_; rintro r w' ⟨rfl, rfl⟩)
    go_end0
    exact ⟨rfl, putted_new O1.out O2.out O3.out⟩

set_option maxHeartbeats 400000 in
theorem isTid_any (n : Int) (w : World) :
    Calls Try.prog 61 #[.int .i64 n] w fun r w' => r = .returned (.bool (decide (0 ≤ n) && decide (n < 256))) ∧ w' = w := by
  by_cases h1 : 0 ≤ n <;> by_cases h2 : n < 256
  all_goals
    go_enter Try.func61, Try.ntmps61
    go_wp2
    go_ret
    simp [h1, h2]
def okT (n : Int) : Bool := decide (0 ≤ n) && decide (n < 256)
theorem okT_iff (n : Int) : okT n = true ↔ 0 ≤ n ∧ n < 256 := by simp [okT]
theorem isTid_is (n : Int) (x : Bool) (h : okT n = x) (w : World) :
    Calls Try.prog 61 #[.int .i64 n] w fun r w' => r = .returned (.bool x) ∧ w' = w := by
  have := isTid_any n w
  unfold okT at h
  rw [h] at this
  exact this

set_option maxHeartbeats 400000 in
theorem set_arg (p : Option Addr) (t n : Int) (w : World) (h : okT t = false ∨ okN n = false) :
    Calls Try.prog 43 #[.pointer p, .int .i64 t, .int .i64 n] w fun r w' => r = .returned (.int .i64 1) ∧ w' = w := by
  cases h1 : okT t
  · have H1 := hide h1
    clear h h1
    go_enter Try.func43, Try.ntmps43
    go_wp2_with (go_at_call 61; refine (isTid_is _ false H1.out _).mono ?_; rintro r w' ⟨rfl, rfl⟩)
    go_ret
    exact ⟨rfl, rfl⟩
  · have h2 : okN n = false := by
      rcases h with h | h
      · rw [h1] at h; cases h
      · exact h
    have H1 := hide h1
    have H2 := hide h2
    clear h h1 h2
    go_enter Try.func43, Try.ntmps43
    go_wp2_with (first | (go_at_call 61; refine (isTid_is _ true H1.out _).mono ?_; rintro r w' ⟨rfl, rfl⟩) | (go_at_call 33; refine (isNumber_is _ false H2.out _).mono ?_; rintro r w' ⟨rfl, rfl⟩))
    go_ret
    exact ⟨rfl, rfl⟩

set_option maxHeartbeats 400000 in
theorem set_nil (t n : Int) (w : World) (h1 : okT t = true) (h2 : okN n = true) :
    Calls Try.prog 43 #[.pointer none, .int .i64 t, .int .i64 n] w fun r w' => r = .returned (.int .i64 7) ∧ w' = w := by
  have H1 := hide h1
  have H2 := hide h2
  clear h1 h2
  go_enter Try.func43, Try.ntmps43
  go_wp2_with (first | (go_at_call 61; refine (isTid_is _ true H1.out _).mono ?_; rintro r w' ⟨rfl, rfl⟩) | (go_at_call 33; refine (isNumber_is _ true H2.out _).mono ?_; rintro r w' ⟨rfl, rfl⟩))
  go_ret
  exact ⟨rfl, rfl⟩

set_option maxHeartbeats 400000 in
theorem set_ok (b : Nat) (l : List Int) (s : Bool) (g : Option Nat) (cap t : Nat) (n : Int) (w : World) (h : Rep w b l s g cap) (hc : Canon l) (ht : t < 256) (h2 : okN n = true) :
    Calls Try.prog 43 #[.pointer (some ⟨b, 0, none⟩), .int .i64 (t : Int), .int .i64 n] w fun r w' => r = .returned (.int .i64 0) ∧ Putted w b l s g t n w' := by
  have H := hide h
  have HC := hide hc
  have H1 : Hid (okT (t : Int) = true) := by show _ = _; rw [okT_iff]; omega
  have H2 := hide h2
  clear h hc h2
  go_enter Try.func43, Try.ntmps43
  go_wp2_with (first | (go_at_call 61; refine (isTid_is _ true H1.out _).mono ?_; rintro r w' ⟨rfl, rfl⟩) | (go_at_call 33; refine (isNumber_is _ true H2.out _).mono ?_; rintro r w' ⟨rfl, rfl⟩) | (go_at_call 62; refine (put_any b l s g cap t n _ H.out HC.out ht).mono ?_))
  rintro r w1 ⟨rfl, hp⟩
  have HP := hide hp
  clear hp
  go_wp2
  go_ret
  exact ⟨rfl, HP.out⟩

def okM (n : Int) : Bool := decide (1 ≤ n) && decide (n ≤ 1048576)
theorem okM_iff (n : Int) : okM n = true ↔ 1 ≤ n ∧ n ≤ 1048576 := by simp [okM]
theorem okM_okN (n : Int) (h : okM n = true) : okN n = true := by rw [okM_iff] at h; rw [okN_iff]; omega

set_option maxHeartbeats 400000 in
theorem new_any (w : World) :
    Calls Try.prog 52 #[] w fun r w' => r = .returned (.pointer (some ⟨w.heap.size, 0, none⟩)) ∧ w' = w.alloc (.cells #[.slice none 0 0, .bool false] 103) := by
  go_enter Try.func52, Try.ntmps52
  go_wp2
  go_ret
  exact ⟨rfl, rfl⟩
theorem new_rep (w : World) : Rep (w.alloc (.cells #[.slice none 0 0, .bool false] 103)) w.heap.size [] false none 0 :=
  ⟨heap_new _ _, by simp, Nat.le_refl _, Nat.zero_le _, fun q => by simp at q, fun _ => rfl, fun x hx => by simp at hx⟩

set_option maxHeartbeats 400000 in
theorem copy_nil (w : World) :
    Calls Try.prog 39 #[.pointer none] w fun r w' => r = .returned (.pointer (some ⟨w.heap.size, 0, none⟩)) ∧ w' = w.alloc (.cells #[.slice none 0 0, .bool false] 103) := by
  go_enter Try.func39, Try.ntmps39
  go_wp2_with (go_at_call 52; refine (new_any _).mono ?_; rintro r w' ⟨rfl, rfl⟩)
  go_ret
  exact ⟨rfl, rfl⟩

set_option maxHeartbeats 800000 in
theorem copy_any (b : Nat) (l : List Int) (s : Bool) (g : Option Nat) (cap : Nat) (w : World) (h : Rep w b l s g cap) :
    Calls Try.prog 39 #[.pointer (some ⟨b, 0, none⟩)] w fun r w' => r = .returned (.pointer (some ⟨w.heap.size, 0, none⟩)) ∧
      w' = ((w.setCell ⟨b, 0, none⟩ (.slice (g.map fun g => ⟨g, 0, none⟩) l.length l.length)).setCell ⟨b, 1, none⟩ (.bool true)).alloc (.cells #[.slice (g.map fun g => ⟨g, 0, none⟩) l.length l.length, .bool true] 103) := by
  have c0 := cell_of h.head 0
  have c1 := cell_of h.head 1
  have f0 := frozen_of h.head 0
  have f1 := frozen_of h.head 1
  have hb := h.lt
  have hl := h.len
  have hle := h.le
  have hmx := h.mx
  unfold maxLen at hmx
  simp at c0 c1
  clear h
  cases g with
  | none =>
    simp only [Option.map_none] at c0 ⊢
    go_enter Try.func39, Try.ntmps39
    go_wp2
    go_ret
    exact ⟨rfl, rfl⟩
  | some x =>
    simp only [Option.map_some] at c0 ⊢
    go_enter Try.func39, Try.ntmps39
    go_wp2
    go_ret
    exact ⟨rfl, rfl⟩

/-- what a copy leaves: both clocks share the numbers, and neither has room beyond them -/
theorem copy_reps {b : Nat} {l : List Int} {s : Bool} {g : Option Nat} {cap : Nat} {w : World} (h : Rep w b l s g cap) {W : World}
    (hW : W = ((w.setCell ⟨b, 0, none⟩ (.slice (g.map fun g => ⟨g, 0, none⟩) l.length l.length)).setCell ⟨b, 1, none⟩ (.bool true)).alloc (.cells #[.slice (g.map fun g => ⟨g, 0, none⟩) l.length l.length, .bool true] 103)) :
    Rep W b l true g l.length ∧ Rep W w.heap.size l true g l.length ∧ Fr (fun k => k = b) w W ∧ W.heap.size = w.heap.size + 1 := by
  subst hW
  have hb := h.lt
  have hsz := size2 w b (.slice (g.map fun g => ⟨g, 0, none⟩) l.length l.length) (.bool true)
  have hle := h.le
  have hmx := h.mx
  have hold : ∀ x, g = some x → x ≠ b ∧ ∃ cur, (((w.setCell ⟨b, 0, none⟩ (.slice (g.map fun g => ⟨g, 0, none⟩) l.length l.length)).setCell ⟨b, 1, none⟩ (.bool true)).alloc (.cells #[.slice (g.map fun g => ⟨g, 0, none⟩) l.length l.length, .bool true] 103)).heap[x]? = some (.cells cur 3 (0, 0)) ∧ l.length ≤ cur.size ∧ ∀ k, k < l.length → cur[k]? = some (.int .i64 (nth l k)) := by
    intro x hx
    obtain ⟨hne, cur, hc, hcs, hcd⟩ := h.data x hx
    have hxl := h.glt hx
    exact ⟨hne, cur, (Below.heap_alloc _ _ _ (by omega)).trans ((other2 _ _ _ _ _ hne).trans hc), by omega, hcd⟩
  refine ⟨⟨?_, h.len, Nat.le_refl _, by omega, fun _ => rfl, fun q => ?_, hold⟩, ⟨?_, h.len, Nat.le_refl _, by omega, fun _ => rfl, fun q => ?_, fun x hx => ⟨?_, (hold x hx).2⟩⟩, ?_, ?_⟩
  · rw [Below.heap_alloc _ _ _ (by omega), head2 h.head]
  · have := h.nil q; omega
  · have := heap_new ((w.setCell ⟨b, 0, none⟩ (.slice (g.map fun g => ⟨g, 0, none⟩) l.length l.length)).setCell ⟨b, 1, none⟩ (.bool true)) (.cells #[.slice (g.map fun g => ⟨g, 0, none⟩) l.length l.length, .bool true] 103)
    rw [hsz] at this
    exact this
  · have := h.nil q; omega
  · have := h.glt hx; omega
  · have f0 : Fr (fun k => k = b) w w := Fr.refl _ _
    have f1 := f0.setCell (p := ⟨b, 0, none⟩) (.inl rfl) (.slice (g.map fun g => ⟨g, 0, none⟩) l.length l.length)
    have f2 := f1.setCell (p := ⟨b, 1, none⟩) (.inl rfl) (.bool true)
    exact f2.alloc _
  · simp [hsz]

theorem of_rep (oa : Option Addr) (l : List Int) (c : Nat) (w : World) (hA : At w oa l) (hl : l.length ≤ 256) (hlc : l.length ≤ c) (hc : c ≤ maxLen) (hv : Valid l) :
    Calls Try.prog 8 #[.slice oa l.length c] w fun r w' => r = .returned (.tuple #[.pointer (some ⟨w.heap.size + 1, 0, none⟩), .int .i64 0]) ∧
      Rep w' (w.heap.size + 1) (trm l) false (some w.heap.size) (tlen l) ∧ Below w.heap.size w w' ∧ w'.heap.size = w.heap.size + 2 := by
  refine (of_ok oa l c w hA hl hlc hc hv).mono ?_
  rintro r w' ⟨rfl, rfl⟩
  have ht := tlen_le l
  refine ⟨rfl, ⟨?_, by rw [trm_length]; omega, by rw [trm_length]; exact Nat.le_refl _, by omega, fun q => by simp at q, fun q => by simp at q, fun x hx => ?_⟩, ((Below.refl _ _).alloc (Nat.le_refl _) _).alloc (by simp) _, by simp⟩
  · rw [trm_length]
    have := heap_new (w.alloc (.cells (row (trm l)) 3)) (.cells #[.slice (some ⟨w.heap.size, 0, none⟩) (tlen l) (tlen l), .bool false] 103)
    rw [show (w.alloc (.cells (row (trm l)) 3)).heap.size = w.heap.size + 1 from by simp] at this
    exact this
  · simp at hx
    subst hx
    refine ⟨by omega, row (trm l), ?_, by rw [row_size, trm_length]; exact Nat.le_refl _, fun k hk => row_at _ k hk⟩
    rw [Below.heap_alloc _ _ _ (by simp), heap_new]
end Ck
end Go.Proofs.Ytekdcfdjohlfcaa
/- Package clock: Of of any list in one contract; and the laws' own joins(), over this seat's program. -/
namespace Go.Proofs.Ytekdcfdjohlfcaa
open Go.ChangeShapes Go.WideShapes Go.ChangeAt Go.RowKit
namespace Ck

theorem Rep.below {w w' : World} {b : Nat} {l : List Int} {s : Bool} {g : Option Nat} {cap : Nat} (h : Rep w b l s g cap) (hb : Below w.heap.size w w') : Rep w' b l s g cap :=
  h.keep (hb.block b h.lt) fun x hx => hb.block x (h.glt hx)

/-- a clock of the numbers l of its own, at A, its numbers at G -/
def Fresh (w w' : World) (l : List Int) (A : Nat) : Prop := ∃ G cap, Rep w' A l false (some G) cap ∧ w.heap.size ≤ A ∧ w.heap.size ≤ G ∧ A < w'.heap.size ∧ G < w'.heap.size ∧ Below w.heap.size w w'

theorem CK.len {w : World} {b : Nat} {l : List Int} (h : CK w b l) : l.length ≤ 256 := by
  obtain ⟨_, _, _, _, _, _, h⟩ := h
  exact h

theorem of_fresh (oa : Option Addr) (l : List Int) (n c : Nat) (hn : l.length = n) (w : World) (hA : At w oa l) (hl : n ≤ 256) (hlc : n ≤ c) (hc : c ≤ maxLen) (hv : Valid l) :
    Calls Try.prog 8 #[.slice oa n c] w fun r w' => ∃ A, r = .returned (.tuple #[.pointer (some ⟨A, 0, none⟩), .int .i64 0]) ∧ Fresh w w' (trm l) A := by
  subst hn
  refine (of_rep oa l c w hA hl hlc hc hv).mono ?_
  rintro r w' ⟨rfl, h1, h2, h3⟩
  exact ⟨_, rfl, _, _, h1, by omega, Nat.le_refl _, by omega, by omega, h2⟩

/-- what Of answers: p and e, of l -/
def OfIs (w w' : World) (l : List Int) (p : Option Addr) (e : Int) : Prop :=
  (w' = w ∧ p = none ∧ (e == 0) = false ∧ (e != 0) = true ∧ ¬ (l.length ≤ 256 ∧ Valid l)) ∨ (e = 0 ∧ l.length ≤ 256 ∧ Valid l ∧ ∃ A, p = some ⟨A, 0, none⟩ ∧ Fresh w w' (trm l) A)

theorem of_any (oa : Option Addr) (l : List Int) (n c : Nat) (hn : l.length = n) (w : World) (hA : At w oa l) (hlc : n ≤ c) (hc : c ≤ maxLen) :
    Calls Try.prog 8 #[.slice oa n c] w fun r w' => ∃ p e, r = .returned (.tuple #[.pointer p, .int .i64 e]) ∧ OfIs w w' l p e := by
  subst hn
  by_cases h1 : l.length ≤ 256
  · by_cases hv : Valid l
    · refine (of_fresh oa l _ c rfl w hA h1 hlc hc hv).mono ?_
      rintro r w' ⟨A, rfl, hf⟩
      exact ⟨_, _, rfl, .inr ⟨rfl, h1, hv, A, rfl, hf⟩⟩
    · refine (of_bad oa l c w hA h1 hv).mono ?_
      rintro r w' ⟨rfl, rfl⟩
      exact ⟨_, _, rfl, .inl ⟨rfl, rfl, by decide, by decide, fun q => hv q.2⟩⟩
  · refine (of_long oa l.length c w (by omega) (by omega)).mono ?_
    rintro r w' ⟨rfl, rfl⟩
    exact ⟨_, _, rfl, .inl ⟨rfl, rfl, by decide, by decide, fun q => h1 q.1⟩⟩

theorem OfIs.below {w w' : World} {l : List Int} {p : Option Addr} {e : Int} (h : OfIs w w' l p e) : Below w.heap.size w w' := by
  rcases h with ⟨rfl, _⟩ | ⟨_, _, _, A, _, G, cap, _, _, _, _, _, hb⟩
  · exact Below.refl _ _
  · exact hb

theorem btr {a b c : World} (h : Below a.heap.size a b) (k : Below b.heap.size b c) : Below a.heap.size a c := h.trans (k.mono h.size)
theorem below_alloc (w : World) (o : Obj) : Below w.heap.size w (w.alloc o) := (Below.refl _ _).alloc (Nat.le_refl _) _
theorem bdrew (w : World) (q : Nat) : Below w.heap.size w (w.drewN q) := ⟨rfl, rfl, rfl, Nat.le_refl _, fun _ _ => rfl⟩

theorem At.lit (w : World) (l : List Int) (t : TypeId) (c : Array Value) (h : c = row l) : At (w.alloc (.cells c t)) (some ⟨w.heap.size, 0, none⟩) l := by
  subst h
  exact At.new w l t

theorem jr_lit (l' : List Int) (x : Bool) (hn : ∀ j, nth l' j = if j < 2 then max (nth [3, 0, 2] j) (nth [1, 4] j) else nth [3, 0, 2] j)
    (hx : (x = true ∧ l'.length = max [(3 : Int), 0, 2].length [(1 : Int), 4].length ∧ ∃ j, nth [3, 0, 2] j < nth [1, 4] j) ∨ (x = false ∧ l' = [3, 0, 2] ∧ ∀ j, j < 2 → nth [1, 4] j ≤ nth [3, 0, 2] j)) : x = true ∧ l' = [3, 4, 2] := by
  rcases hx with ⟨rfl, hl, _⟩ | ⟨_, _, h⟩
  · refine ⟨rfl, eq_of_nth hl fun j hj => ?_⟩
    rw [hn j]
    rw [hl] at hj
    match j, hj with
    | 0, _ => decide
    | 1, _ => decide
    | 2, _ => decide
  · exact absurd (h 1 (by decide)) (by decide)

theorem ints_is (oa ob : Option Addr) (l m : List Int) (n k c d : Nat) (x : Bool) (hx : decide (l = m) = x) (hn : l.length = n) (hk : m.length = k) (w : World) (hA : At w oa l) (hB : At w ob m) (hl : n ≤ 256) (hm : k ≤ 256) :
    Calls Try.prog 30 #[.slice oa n c, .slice ob k d] w fun r w' => r = .returned (.bool x) ∧ ∃ q, w' = w.drewN q := by
  subst hn hk hx
  exact ints_any oa ob l m c d w hA hB hl hm
end Ck
end Go.Proofs.Ytekdcfdjohlfcaa
/- Many clocks in one memory: what each call does to one of them, the others left alone, over this seat's program. -/
namespace Go.Proofs.Ytekdcfdjohlfcaa
open Go.ChangeShapes Go.WideShapes Go.ChangeAt Go.RowKit
namespace Ck

/-- a clock: its block, its numbers, whether they are shared, where they lie -/
structure C where
  b : Nat
  l : List Int
  s : Bool
  g : Option Nat

/-- all clocks f lie in w, from block B on, none writes what another lies in -/
structure St (B : Nat) (w : World) (f : Nat → Option C) : Prop where
  rep : ∀ i c, f i = some c → ∃ cap, Rep w c.b c.l c.s c.g cap
  ok : ∀ i c, f i = some c → Canon c.l ∧ Valid c.l ∧ B ≤ c.b ∧ ∀ x, c.g = some x → B ≤ x
  apart : ∀ i j c d, i ≠ j → f i = some c → f j = some d → Apart c.b c.s c.g d.b d.g
  base : B ≤ w.heap.size

def upd {α : Type} (f : Nat → Option α) (i : Nat) (c : α) : Nat → Option α := fun j => if j = i then some c else f j
theorem upd_same {α : Type} (f : Nat → Option α) (i : Nat) (c : α) : upd f i c i = some c := by simp [upd]
theorem upd_other {α : Type} (f : Nat → Option α) (i j : Nat) (c : α) (h : j ≠ i) : upd f i c j = f j := by simp [upd, h]

theorem St.below {B : Nat} {w w' : World} {f : Nat → Option C} (h : St B w f) (hb : Below w.heap.size w w') : St B w' f :=
  ⟨fun i c hc => by obtain ⟨cap, r⟩ := h.rep i c hc; exact ⟨cap, r.below hb⟩, h.ok, h.apart, Nat.le_trans h.base hb.size⟩

/-- one clock is changed, by itself -/
theorem St.change {B : Nat} {w w' : World} {f : Nat → Option C} (h : St B w f) {i : Nat} {c : C} (hi : f i = some c) {l' : List Int} {s' : Bool} {g' : Option Nat} {cap' : Nat}
    (r : Rep w' c.b l' s' g' cap') (hc : Canon l') (hv : Valid l') (nx : Nx w c.s c.g s' g') (fr : Fr (Mine c.b c.s c.g) w w') : St B w' (upd f i ⟨c.b, l', s', g'⟩) ∧ Below B w w' := by
  have hok := h.ok i c hi
  have hbl : Below B w w' := fr.below h.base (fun k hk => by
    rcases hk with rfl | ⟨_, hk⟩
    · exact hok.2.2.1
    · exact hok.2.2.2 k hk)
  refine ⟨⟨fun j d hd => ?_, fun j d hd => ?_, fun j k d e hjk hd he => ?_, Nat.le_trans h.base fr.size⟩, hbl⟩
  · by_cases e : j = i
    · subst e; rw [upd_same] at hd; simp at hd; subst hd; exact ⟨cap', r⟩
    · rw [upd_other _ _ _ _ e] at hd
      obtain ⟨cap, rd⟩ := h.rep j d hd
      exact ⟨cap, rd.fr fr (h.apart i j c d (Ne.symm e) hi hd)⟩
  · by_cases e : j = i
    · subst e; rw [upd_same] at hd; simp at hd; subst hd
      refine ⟨hc, hv, hok.2.2.1, fun x hx => ?_⟩
      rcases nx with ⟨_, e⟩ | ⟨_, y, hy, hle⟩
      · exact hok.2.2.2 x (e ▸ hx)
      · have hx' : g' = some x := hx
        rw [hy] at hx'; simp at hx'; have := h.base; omega
    · rw [upd_other _ _ _ _ e] at hd
      exact h.ok j d hd
  · by_cases ej : j = i
    · subst ej
      rw [upd_same] at hd; simp at hd; subst hd
      rw [upd_other _ _ _ _ (Ne.symm hjk)] at he
      obtain ⟨cap, re⟩ := h.rep k e he
      exact (h.apart j k c e hjk hi he).next nx re.lt (fun x hx => re.glt hx)
    · rw [upd_other _ _ _ _ ej] at hd
      by_cases ek : k = i
      · subst ek
        rw [upd_same] at he; simp at he; subst he
        have ap := h.apart j k d c hjk hd hi
        obtain ⟨cap, rd⟩ := h.rep j d hd
        refine ⟨ap.1, fun q => ?_, fun hs x hx => ⟨(ap.2.2 hs x hx).1, fun q => ?_⟩⟩
        · rcases nx with ⟨_, e⟩ | ⟨_, y, hy, hle⟩
          · exact ap.2.1 (e ▸ q)
          · have q' : g' = some d.b := q
            rw [hy] at q'; simp at q'; have := rd.lt; omega
        · rcases nx with ⟨_, e⟩ | ⟨_, y, hy, hle⟩
          · exact (ap.2.2 hs x hx).2 (e ▸ q)
          · have q' : g' = some x := q
            rw [hy] at q'; simp at q'; have := rd.glt hx; omega
      · rw [upd_other _ _ _ _ ek] at he
        exact h.apart j k d e hjk hd he

/-- the clocks as the laws see them: blocks and numbers -/
def Cs (B : Nat) (w : World) (h : Nat → Option (Nat × List Int)) : Prop := ∃ f, St B w f ∧ ∀ i, h i = (f i).map fun c => (c.b, c.l)

theorem Cs.empty (B : Nat) (w : World) (hB : B ≤ w.heap.size) : Cs B w (fun _ => none) :=
  ⟨fun _ => none, ⟨fun _ _ q => by simp at q, fun _ _ q => by simp at q, fun _ _ _ _ _ q => by simp at q, hB⟩, fun _ => rfl⟩
theorem Cs.below {B : Nat} {w w' : World} {h : Nat → Option (Nat × List Int)} (hs : Cs B w h) (hb : Below w.heap.size w w') : Cs B w' h := by
  obtain ⟨f, st, hf⟩ := hs
  exact ⟨f, st.below hb, hf⟩
theorem Cs.get {B : Nat} {w : World} {h : Nat → Option (Nat × List Int)} (hs : Cs B w h) {i b : Nat} {l : List Int} (hi : h i = some (b, l)) : CK w b l ∧ Canon l ∧ Valid l := by
  obtain ⟨f, st, hf⟩ := hs
  rw [hf i] at hi
  cases hc : f i with
  | none => rw [hc] at hi; simp at hi
  | some c =>
    rw [hc] at hi; simp at hi
    obtain ⟨rfl, rfl⟩ := hi
    obtain ⟨cap, r⟩ := st.rep i c hc
    exact ⟨r.ck, (st.ok i c hc).1, (st.ok i c hc).2.1⟩
theorem Cs.base {B : Nat} {w : World} {h : Nat → Option (Nat × List Int)} (hs : Cs B w h) : B ≤ w.heap.size := by
  obtain ⟨f, st, hf⟩ := hs
  exact st.base

theorem map_upd (f : Nat → Option C) (h : Nat → Option (Nat × List Int)) (hf : ∀ i, h i = (f i).map fun c => (c.b, c.l)) (i : Nat) (c : C) : ∀ j, upd h i (c.b, c.l) j = (upd f i c j).map fun c => (c.b, c.l) := by
  intro j
  by_cases e : j = i
  · subst e; rw [upd_same, upd_same]; rfl
  · rw [upd_other _ _ _ _ e, upd_other _ _ _ _ e]; exact hf j

/-- a new clock, of its own -/
theorem Cs.fresh {B : Nat} {w w' : World} {h : Nat → Option (Nat × List Int)} (hs : Cs B w h) {l : List Int} {A : Nat} {g : Option Nat} {cap : Nat} (r : Rep w' A l false g cap) (hA : w.heap.size ≤ A) (hg : ∀ x, g = some x → w.heap.size ≤ x) (hb : Below w.heap.size w w') (hc : Canon l) (hv : Valid l) (i : Nat) : Cs B w' (upd h i (A, l)) := by
  obtain ⟨f, st, hf⟩ := hs
  have st' := st.below hb
  have hbase := st.base
  refine ⟨upd f i ⟨A, l, false, g⟩, ⟨fun j d hd => ?_, fun j d hd => ?_, fun j k d e hjk hd he => ?_, st'.base⟩, map_upd f h hf i ⟨A, l, false, g⟩⟩
  · by_cases e : j = i
    · subst e; rw [upd_same] at hd; simp at hd; subst hd; exact ⟨cap, r⟩
    · rw [upd_other _ _ _ _ e] at hd; exact st'.rep j d hd
  · by_cases e : j = i
    · subst e; rw [upd_same] at hd; simp at hd; subst hd; exact ⟨hc, hv, by show B ≤ A; omega, fun x hx => by have := hg x hx; omega⟩
    · rw [upd_other _ _ _ _ e] at hd; exact st.ok j d hd
  · by_cases ej : j = i
    · subst ej
      rw [upd_same] at hd; simp at hd; subst hd
      rw [upd_other _ _ _ _ (Ne.symm hjk)] at he
      obtain ⟨c1, re⟩ := st.rep k e he
      have := re.lt
      refine ⟨by show e.b ≠ A; omega, fun q => ?_, fun _ x hx => ⟨by have := hg x hx; omega, fun q => ?_⟩⟩
      · have := re.glt q; have : A < w.heap.size := this; omega
      · have := re.glt q; have := hg x hx; omega
    · rw [upd_other _ _ _ _ ej] at hd
      by_cases ek : k = i
      · subst ek
        rw [upd_same] at he; simp at he; subst he
        obtain ⟨c1, rd⟩ := st.rep j d hd
        have := rd.lt
        refine ⟨by show A ≠ d.b; omega, fun q => by have := hg _ q; omega, fun _ x hx => ⟨by have := rd.glt hx; show x ≠ A; omega, fun q => by have := rd.glt hx; have := hg _ q; omega⟩⟩
      · rw [upd_other _ _ _ _ ek] at he
        exact st.apart j k d e hjk hd he

theorem within_refl (l : List Int) : within l l = true := within_yes l l fun _ _ => Int.le_refl _
theorem nth_nonneg {m : List Int} (hm : Valid m) (k : Nat) : 0 ≤ nth m k := by
  by_cases hk2 : k < m.length
  · have := (okN_iff _).1 (hm k hk2)
    omega
  · rw [nth_out m k (by omega)]; exact Int.le_refl _
theorem within_all {l m : List Int} (hm : Valid m) (h : within l m = true) : ∀ k, nth l k ≤ nth m k := by
  intro k
  by_cases hk : k < l.length
  · exact of_decide_eq_true h k hk
  · rw [nth_out l k (by omega)]
    exact nth_nonneg hm k
theorem within_iff {l m : List Int} (hm : Valid m) : within l m = true ↔ ∀ k, nth l k ≤ nth m k :=
  ⟨within_all hm, fun h => within_yes l m fun k _ => h k⟩
theorem canon_last {l : List Int} (hc : Canon l) (h0 : 0 < l.length) : nth l (l.length - 1) ≠ 0 := by
  have := (tlen_is l).2.2
  unfold Canon at hc
  rw [hc] at this
  rcases this with h | h
  · omega
  · exact h
theorem valid_jn {l m : List Int} (hl : Valid l) (hm : Valid m) : Valid (jn l m) := by
  intro k hk
  rw [nth_jn, okN_iff]
  have h1 := nth_nonneg hl k
  have h2 := nth_nonneg hm k
  have h3 : nth l k ≤ 1048576 := by
    by_cases q : k < l.length
    · exact ((okN_iff _).1 (hl k q)).2
    · rw [nth_out l k (by omega)]; decide
  have h4 : nth m k ≤ 1048576 := by
    by_cases q : k < m.length
    · exact ((okN_iff _).1 (hm k q)).2
    · rw [nth_out m k (by omega)]; decide
  omega
theorem canon_jn {l m : List Int} (hl : Valid l) (hm : Valid m) (cl : Canon l) (cm : Canon m) : Canon (jn l m) := by
  have h : IsT (jn l m) (jn l m).length := by
    refine ⟨Nat.le_refl _, fun j hj => nth_out _ _ hj, ?_⟩
    rw [jn_length, nth_jn]
    by_cases h0 : max l.length m.length = 0
    · exact .inl h0
    · right
      have h1 := nth_nonneg hl (max l.length m.length - 1)
      have h2 := nth_nonneg hm (max l.length m.length - 1)
      by_cases q : l.length ≤ m.length
      · have e : max l.length m.length = m.length := by omega
        rw [e] at h1 h2 ⊢
        have := canon_last cm (by omega)
        omega
      · have e : max l.length m.length = l.length := by omega
        rw [e] at h1 h2 ⊢
        have := canon_last cl (by omega)
        omega
  exact h.uniq.symm
theorem jn_within {l m : List Int} (hl : Valid l) (hm : Valid m) (cl : Canon l) (cm : Canon m) (h : within m l = true) : jn l m = l :=
  canon_eq (canon_jn hl hm cl cm) cl fun j => by
    rw [nth_jn]
    have := within_all hl h j
    omega

theorem Jr.done {w w' : World} {b : Nat} {l : List Int} {s : Bool} {g : Option Nat} {b2 : Nat} {m : List Int} {s2 : Bool} {g2 : Option Nat} {c2 : Nat} {x : Bool} (h : Jr w b l s g b2 m s2 g2 c2 m.length x w')
    (hl : Valid l) (hm : Valid m) (cl : Canon l) (cm : Canon m) : x = !within m l ∧ ∃ s' g' cap', Rep w' b (jn l m) s' g' cap' ∧ Nx w s g s' g' ∧ Fr (Mine b s g) w w' := by
  obtain ⟨l', s', g', cap', r1, r2, hn, hx, nx, fr⟩ := h
  rcases hx with ⟨rfl, hlen, j, hj⟩ | ⟨rfl, rfl, hall⟩
  · have e : l' = jn l m := by
      refine eq_of_nth (by rw [hlen, jn_length]) fun k _ => ?_
      rw [hn k, nth_jn]
      by_cases q : k < m.length
      · rw [if_pos q]
      · rw [if_neg q, nth_out m k (by omega)]
        have := nth_nonneg hl k
        omega
    subst e
    refine ⟨?_, s', g', cap', r1, nx, fr⟩
    have : within m l = false := by
      refine within_no m l j ?_ hj
      by_cases q : j < m.length
      · exact q
      · rw [nth_out m j (by omega)] at hj
        have := nth_nonneg hl j
        omega
    rw [this]; rfl
  · have hw : within m l' = true := within_yes m l' hall
    refine ⟨by rw [hw]; rfl, s', g', cap', ?_, nx, fr⟩
    rw [jn_within hl hm cl cm hw]
    exact r1

theorem upd_id {h : Nat → Option (Nat × List Int)} {i : Nat} {c : Nat × List Int} (hi : h i = some c) : upd h i c = h := by
  funext j
  by_cases e : j = i
  · subst e; rw [upd_same, hi]
  · rw [upd_other _ _ _ _ e]

/-- a change of one number of one of them -/
theorem cs_putted {B : Nat} {w w' : World} {f : Nat → Option C} {h : Nat → Option (Nat × List Int)} (st : St B w f) (hf : ∀ i, h i = (f i).map fun c => (c.b, c.l)) {i : Nat} {c : C} (hc : f i = some c) {t : Nat} {n : Int} (hn : okN n = true)
    (hp : Putted w c.b c.l c.s c.g t n w') : ∃ l', Canon l' ∧ Valid l' ∧ (∀ j, nth l' j = if j = t then n else nth c.l j) ∧ Cs B w' (upd h i (c.b, l')) ∧ Below B w w' := by
  obtain ⟨l', s', g', cap', r', hcn, hnth, nx, fr⟩ := hp
  have hv : Valid l' := by
    intro k hk
    rw [hnth k]
    split
    · exact hn
    · by_cases q : k < c.l.length
      · exact (st.ok i c hc).2.1 k q
      · rw [nth_out _ _ (by omega)]; decide
  obtain ⟨st', hb⟩ := st.change hc r' hcn hv nx fr
  exact ⟨l', hcn, hv, hnth, ⟨_, st', map_upd f h hf i ⟨c.b, l', s', g'⟩⟩, hb⟩

theorem cs_set {B : Nat} {w : World} {h : Nat → Option (Nat × List Int)} (hs : Cs B w h) {i b : Nat} {l : List Int} (hi : h i = some (b, l)) (t : Nat) (n : Int) (ht : t < 256) (hn : okN n = true) :
    Calls Try.prog 43 #[.pointer (some ⟨b, 0, none⟩), .int .i64 (t : Int), .int .i64 n] w fun r w' => r = .returned (.int .i64 0) ∧ ∃ l', Canon l' ∧ Valid l' ∧ (∀ j, nth l' j = if j = t then n else nth l j) ∧ Cs B w' (upd h i (b, l')) ∧ Below B w w' := by
  have ki := hs.get hi
  obtain ⟨f, st, hf⟩ := hs
  rw [hf i] at hi
  cases hc : f i with
  | none => rw [hc] at hi; simp at hi
  | some c =>
    rw [hc] at hi; simp at hi
    obtain ⟨rfl, rfl⟩ := hi
    obtain ⟨cap, r1⟩ := st.rep i c hc
    refine (set_ok c.b c.l c.s c.g cap t n w r1 ki.2.1 ht hn).mono ?_
    rintro r w' ⟨rfl, hp⟩
    exact ⟨rfl, cs_putted st hf hc hn hp⟩

/-- Copy of the k'th of them, at the i'th place from now on -/
theorem cs_copy {B : Nat} {w : World} {h : Nat → Option (Nat × List Int)} (hs : Cs B w h) {k b : Nat} {l : List Int} (hk : h k = some (b, l)) :
    Calls Try.prog 39 #[.pointer (some ⟨b, 0, none⟩)] w fun r w' => ∃ A, r = .returned (.pointer (some ⟨A, 0, none⟩)) ∧ (∀ i, Cs B w' (upd h i (A, l))) ∧ Below B w w' := by
  obtain ⟨f, st, hf⟩ := hs
  rw [hf k] at hk
  cases hc : f k with
  | none => rw [hc] at hk; simp at hk
  | some c =>
    rw [hc] at hk; simp at hk
    obtain ⟨rfl, rfl⟩ := hk
    obtain ⟨cap, r1⟩ := st.rep k c hc
    have hok := st.ok k c hc
    refine (copy_any c.b c.l c.s c.g cap w r1).mono ?_
    rintro r w' ⟨rfl, hw'⟩
    obtain ⟨r2, r3, fr, hsz⟩ := copy_reps r1 hw'
    clear hw'
    have fr' : Fr (Mine c.b c.s c.g) w w' := fr.trans (Fr.refl (fun _ => False) _) (fun _ _ q => q.elim) |> fun q => ⟨q.os, q.tape, q.output, q.size, fun j hj hx => q.block j hj (fun e => hx (.inl e))⟩
    have hbl : Below B w w' := fr.below st.base (fun j e => by subst e; exact hok.2.2.1)
    -- the copied clock is shared from now on: all others are apart from it as before
    have st1 : St B w' (upd f k ⟨c.b, c.l, true, c.g⟩) := by
      refine ⟨fun j d hd => ?_, fun j d hd => ?_, fun j m d e hjm hd he => ?_, Nat.le_trans st.base fr.size⟩
      · by_cases e : j = k
        · subst e; rw [upd_same] at hd; simp at hd; subst hd; exact ⟨_, r2⟩
        · rw [upd_other _ _ _ _ e] at hd
          obtain ⟨cd, rd⟩ := st.rep j d hd
          exact ⟨cd, rd.fr fr' (st.apart k j c d (Ne.symm e) hc hd)⟩
      · by_cases e : j = k
        · subst e; rw [upd_same] at hd; simp at hd; subst hd; exact hok
        · rw [upd_other _ _ _ _ e] at hd; exact st.ok j d hd
      · by_cases ej : j = k
        · subst ej
          rw [upd_same] at hd; simp at hd; subst hd
          rw [upd_other _ _ _ _ (Ne.symm hjm)] at he
          have ap := st.apart j m c e hjm hc he
          exact ⟨ap.1, ap.2.1, fun q => by simp at q⟩
        · rw [upd_other _ _ _ _ ej] at hd
          by_cases ek : m = k
          · subst ek
            rw [upd_same] at he; simp at he; subst he
            have ap := st.apart j m d c hjm hd hc
            exact ⟨ap.1, ap.2.1, ap.2.2⟩
          · rw [upd_other _ _ _ _ ek] at he
            exact st.apart j m d e hjm hd he
    refine ⟨_, rfl, fun i => ?_, hbl⟩
    refine ⟨upd (upd f k ⟨c.b, c.l, true, c.g⟩) i ⟨w.heap.size, c.l, true, c.g⟩, ⟨fun j d hd => ?_, fun j d hd => ?_, fun j m d e hjm hd he => ?_, st1.base⟩, fun j => ?_⟩
    · by_cases e : j = i
      · subst e; rw [upd_same] at hd; simp at hd; subst hd; exact ⟨_, r3⟩
      · rw [upd_other _ _ _ _ e] at hd; exact st1.rep j d hd
    · by_cases e : j = i
      · subst e; rw [upd_same] at hd; simp at hd; subst hd; exact ⟨hok.1, hok.2.1, st.base, hok.2.2.2⟩
      · rw [upd_other _ _ _ _ e] at hd; exact st1.ok j d hd
    · -- every other clock lies below the new one's block, and is apart from the numbers that both share
      have lts : ∀ j d, j ≠ i → upd f k ⟨c.b, c.l, true, c.g⟩ j = some d → d.b < w.heap.size ∧ (∀ x, d.g = some x → x < w.heap.size) := by
        intro j d _ hd
        by_cases e : j = k
        · subst e; rw [upd_same] at hd; simp at hd; subst hd; exact ⟨r1.lt, fun x hx => r1.glt hx⟩
        · rw [upd_other _ _ _ _ e] at hd
          obtain ⟨cd, rd⟩ := st.rep j d hd
          exact ⟨rd.lt, fun x hx => rd.glt hx⟩
      by_cases ej : j = i
      · subst ej
        rw [upd_same] at hd; simp at hd; subst hd
        rw [upd_other _ _ _ _ (Ne.symm hjm)] at he
        obtain ⟨l1, l2⟩ := lts m e (Ne.symm hjm) he
        exact ⟨by show e.b ≠ w.heap.size; omega, fun q => by have := l2 _ q; have : w.heap.size < w.heap.size := this; omega, fun q => by simp at q⟩
      · rw [upd_other _ _ _ _ ej] at hd
        by_cases ek : m = i
        · subst ek
          rw [upd_same] at he; simp at he; subst he
          obtain ⟨l1, l2⟩ := lts j d ej hd
          have hself : d.s = false → ∀ x, d.g = some x → c.g ≠ some x := by
            intro hs x hx
            by_cases e : j = k
            · subst e; rw [upd_same] at hd; simp at hd; subst hd; simp at hs
            · rw [upd_other _ _ _ _ e] at hd
              exact ((st.apart j k d c e hd hc).2.2 hs x hx).2
          have hb2 : c.g ≠ some d.b := by
            by_cases e : j = k
            · subst e; rw [upd_same] at hd; simp at hd; subst hd
              intro q
              exact (r1.data _ q).1 rfl
            · rw [upd_other _ _ _ _ e] at hd
              exact (st.apart j k d c e hd hc).2.1
          exact ⟨by show w.heap.size ≠ d.b; omega, hb2, fun hs x hx => ⟨by have := l2 x hx; show x ≠ w.heap.size; omega, hself hs x hx⟩⟩
        · rw [upd_other _ _ _ _ ek] at he
          exact st1.apart j m d e hjm hd he
    · by_cases e : j = i
      · subst e; rw [upd_same, upd_same]; rfl
      · rw [upd_other _ _ _ _ e, upd_other _ _ _ _ e]
        by_cases e2 : j = k
        · subst e2; rw [upd_same, hf j, hc]; rfl
        · rw [upd_other _ _ _ _ e2]; exact hf j
end Ck
end Go.Proofs.Ytekdcfdjohlfcaa
/- The reference's clock (an array of 256 numbers) in memory: Get, Set, Tick, over this seat's program. -/
namespace Go.Proofs.Ytekdcfdjohlfcaa
open Go.ChangeShapes Go.WideShapes Go.ChangeAt Go.RowKit
namespace Ck

/-- the 256 numbers F lie in block b from off on, and may be written -/
def RA (w : World) (b off : Nat) (F : Nat → Int) : Prop := ∀ k, k < 256 → w.cell? ⟨b, off + k, none⟩ = some (.int .i64 (F k)) ∧ w.frozen? ⟨b, off + k, none⟩ = false

/-- a tid's number -/
def rg (F : Nat → Int) (t : Int) : Int := if 0 ≤ t ∧ t < 256 then F t.toNat else 0
theorem rg_out (F : Nat → Int) (t : Int) (h : t < 0 ∨ 256 ≤ t) : rg F t = 0 := by
  have : ¬ (0 ≤ t ∧ t < 256) := by omega
  simp [rg, this]
theorem rg_nat (F : Nat → Int) (k : Nat) (h : k < 256) : rg F (k : Int) = F k := by
  have : 0 ≤ (k : Int) ∧ (k : Int) < 256 := by omega
  simp only [rg, if_pos this, Int.toNat_natCast]

set_option maxHeartbeats 400000 in
theorem rget_any (b off : Nat) (F : Nat → Int) (t : Int) (w : World) (h : RA w b off F) :
    Calls Try.prog 94 #[.pointer (some ⟨b, off, none⟩), .int .i64 t] w fun r w' => r = .returned (.int .i64 (rg F t)) ∧ w' = w := by
  by_cases h0 : t < 0
  · rw [rg_out F t (.inl h0)]
    clear h
    go_enter Try.func94, Try.ntmps94
    go_wp2
    go_ret
    exact ⟨rfl, rfl⟩
  by_cases h1 : 256 ≤ t
  · rw [rg_out F t (.inr h1)]
    clear h
    go_enter Try.func94, Try.ntmps94
    go_wp2
    go_ret
    exact ⟨rfl, rfl⟩
  obtain ⟨k, rfl⟩ := Int.eq_ofNat_of_zero_le (by omega : 0 ≤ t)
  have hk : k < 256 := by omega
  rw [rg_nat F k hk]
  have hc := (h k hk).1
  clear h h0 h1
  go_enter Try.func94, Try.ntmps94
  go_wp2
  go_ret
  exact ⟨rfl, rfl⟩

set_option maxHeartbeats 400000 in
theorem rset_no (p : Option Addr) (t n : Int) (w : World) (h : okT t = false ∨ okN n = false) :
    Calls Try.prog 44 #[.pointer p, .int .i64 t, .int .i64 n] w fun r w' => r = .returned (.int .i64 1) ∧ w' = w := by
  have h' : t < 0 ∨ 256 ≤ t ∨ n < 0 ∨ 1048576 < n := by
    rcases h with h | h
    · have : ¬ (okT t = true) := by rw [h]; simp
      rw [okT_iff] at this; omega
    · have : ¬ (okN n = true) := by rw [h]; simp
      rw [okN_iff] at this; omega
  clear h
  by_cases h0 : t < 0
  · clear h'
    go_enter Try.func44, Try.ntmps44
    go_wp2
    go_ret
    exact ⟨rfl, rfl⟩
  by_cases h1 : 256 ≤ t
  · clear h'
    go_enter Try.func44, Try.ntmps44
    go_wp2
    go_ret
    exact ⟨rfl, rfl⟩
  by_cases h2 : n < 0
  · clear h'
    go_enter Try.func44, Try.ntmps44
    go_wp2
    go_ret
    exact ⟨rfl, rfl⟩
  have h3 : 1048576 < n := by omega
  clear h'
  go_enter Try.func44, Try.ntmps44
  go_wp2
  go_ret
  exact ⟨rfl, rfl⟩

set_option maxRecDepth 100000 in
set_option maxHeartbeats 800000 in
theorem rset_ok (b off : Nat) (F : Nat → Int) (t : Nat) (n : Int) (w : World) (h : RA w b off F) (ht : t < 256) (hn : okN n = true) :
    Calls Try.prog 44 #[.pointer (some ⟨b, off, none⟩), .int .i64 (t : Int), .int .i64 n] w fun r w' => r = .returned (.int .i64 0) ∧ w' = w.setCell ⟨b, off + t, none⟩ (.int .i64 n) := by
  obtain ⟨hc, hf⟩ := h t ht
  obtain ⟨n0, n1⟩ := (okN_iff n).1 hn
  clear h hn
  go_enter Try.func44, Try.ntmps44
  go_wp2
  go_ret
  exact ⟨rfl, rfl⟩

end Ck
end Go.Proofs.Ytekdcfdjohlfcaa
/- The reference's clocks by value: Within and Join, over this seat's program. -/
namespace Go.Proofs.Ytekdcfdjohlfcaa
open Go.ChangeShapes Go.WideShapes Go.ChangeAt Go.RowKit
namespace Ck

/-- 256 numbers as cells -/
def ra (F : Nat → Int) : Array Value := ((List.range 256).map fun k => Value.int .i64 (F k)).toArray
theorem ra_size (F : Nat → Int) : (ra F).size = 256 := by simp [ra]
theorem ra_at (F : Nat → Int) (k : Nat) (h : k < 256) : (ra F)[k]? = some (.int .i64 (F k)) := by simp [ra, h]
theorem RA.new (w : World) (F : Nat → Int) (t : TypeId) : RA (w.alloc (.cells (ra F) t)) w.heap.size 0 F := by
  intro k hk
  rw [Nat.zero_add]
  exact ⟨(cell_of (heap_new _ _) k).trans (ra_at F k hk), frozen_of (heap_new _ _) k⟩
theorem RA.of {w : World} {b : Nat} {F : Nat → Int} {t : TypeId} (h : w.heap[b]? = some (.cells (ra F) t (0, 0))) : RA w b 0 F := by
  intro k hk
  rw [Nat.zero_add]
  exact ⟨(cell_of h k).trans (ra_at F k hk), frozen_of h k⟩
theorem RA.below {w w' : World} {b off : Nat} {F : Nat → Int} (h : RA w b off F) (hb : Below w.heap.size w w') : RA w' b off F := by
  intro k hk
  obtain ⟨h1, h2⟩ := h k hk
  have := World.block_lt_of_cell? w _ h1
  exact ⟨(hb.cell this).trans h1, (hb.frozen this).trans h2⟩

def rwithin (F G : Nat → Int) : Bool := (List.range 256).all fun k => decide (F k ≤ G k)
theorem rwithin_iff (F G : Nat → Int) : rwithin F G = true ↔ ∀ k, k < 256 → F k ≤ G k := by simp [rwithin]
theorem rwithin_no (F G : Nat → Int) (k : Nat) (hk : k < 256) (h : G k < F k) : rwithin F G = false := by
  have : ¬ (rwithin F G = true) := by
    rw [rwithin_iff]
    intro hh
    have := hh k hk
    omega
  simpa using this

/-- the numbers G where they are greater, up to k -/
def jf (F G : Nat → Int) (k : Nat) : Nat → Int := fun j => if j < k then max (F j) (G j) else F j
theorem jf_zero (F G : Nat → Int) : jf F G 0 = F := by funext j; simp [jf]
theorem jf_same (F G : Nat → Int) (k : Nat) (h : G k ≤ F k) : jf F G (k + 1) = jf F G k := by
  funext j
  by_cases e : j = k
  · subst e; simp [jf]; omega
  · have : (j < k + 1) = (j < k) := by simp; omega
    simp only [jf, this]

/-- what the reference's Join leaves in the cells from off on of block b: the numbers H; all other cells as they were in W -/
def RJ (W : World) (b off : Nat) (H : Nat → Int) (wr : World) : Prop :=
  RA wr b off H ∧ wr.os = W.os ∧ wr.tape = W.tape ∧ wr.output = W.output ∧ wr.heap.size = W.heap.size ∧ (∀ k, k ≠ b → wr.heap[k]? = W.heap[k]?) ∧ (∀ o, o < off ∨ off + 256 ≤ o → wr.cell? ⟨b, o, none⟩ = W.cell? ⟨b, o, none⟩) ∧ (∀ o, wr.frozen? ⟨b, o, none⟩ = W.frozen? ⟨b, o, none⟩)

theorem RJ.refl {W : World} {b off : Nat} {F : Nat → Int} (h : RA W b off F) : RJ W b off F W := ⟨h, rfl, rfl, rfl, rfl, fun _ _ => rfl, fun _ _ => rfl, fun _ => rfl⟩
theorem RJ.drewN {W wr : World} {b off : Nat} {F : Nat → Int} (h : RJ W b off F wr) (q : Nat) : RJ W b off F (wr.drewN q) := h
theorem RJ.set {W wr : World} {b off : Nat} {F H : Nat → Int} (h : RJ W b off F wr) {k : Nat} (hk : k < 256) (v : Int) (hH : ∀ j, H j = if j = k then v else F j) : RJ W b off H (wr.setCell ⟨b, off + k, none⟩ (.int .i64 v)) := by
  obtain ⟨ra, h1, h2, h3, h4, h5, h6, h7⟩ := h
  have hb : Below 0 wr (wr.setCell ⟨b, off + k, none⟩ (.int .i64 v)) := (Below.refl 0 wr).setCell (Nat.zero_le _) _
  have hfz : ∀ o, (wr.setCell ⟨b, off + k, none⟩ (.int .i64 v)).frozen? ⟨b, o, none⟩ = wr.frozen? ⟨b, o, none⟩ := fun o => World.frozen?_setCell _ _ _ _
  refine ⟨fun j hj => ⟨?_, (hfz _).trans (ra j hj).2⟩, hb.os.trans h1, hb.tape.trans h2, hb.output.trans h3, by rw [← h4]; simp [World.setCell], fun x hx => (Below.heap_setCell _ _ _ _ hx).trans (h5 x hx), fun o ho => ?_, fun o => (hfz o).trans (h7 o)⟩
  · rw [hH j]
    by_cases e : j = k
    · subst e
      rw [if_pos rfl]
      exact World.cell?_setCell_same' _ _ _ (by rw [(ra j hj).1]; rfl)
    · rw [if_neg e, World.cell?_setCell_other wr ⟨b, off + k, none⟩ ⟨b, off + j, none⟩ (.int .i64 v) (fun q => by injection q; omega)]
      exact (ra j hj).1
  · rw [World.cell?_setCell_other wr ⟨b, off + k, none⟩ ⟨b, o, none⟩ (.int .i64 v) (fun q => by injection q; omega)]
    exact h6 o ho

theorem jf_step (F G : Nat → Int) (k : Nat) (h : F k < G k) : ∀ j, jf F G (k + 1) j = if j = k then G k else jf F G k j := by
  intro j
  by_cases e : j = k
  · subst e; simp [jf]; omega
  · have : (j < k + 1) = (j < k) := by simp; omega
    simp only [jf, this, if_neg e]
theorem jf_at (F G : Nat → Int) (k : Nat) : jf F G k k = F k := by simp [jf]

theorem RJ.alloc_base {w W wr : World} {b off : Nat} {F : Nat → Int} (h : RJ W b off F wr) {o : Obj} (hW : W = w.alloc o) : Fr (fun k => k = b) w wr := by
  subst hW
  obtain ⟨_, h1, h2, h3, h4, h5, _⟩ := h
  exact ⟨h1, h2, h3, by rw [h4]; simp, fun k hk hx => (h5 k hx).trans (Below.heap_alloc _ _ _ hk)⟩

end Ck
end Go.Proofs.Ytekdcfdjohlfcaa
/- The reference's List, over this seat's program. -/
namespace Go.Proofs.Ytekdcfdjohlfcaa
open Go.ChangeShapes Go.WideShapes Go.ChangeAt Go.RowKit
namespace Ck

/-- n: how many numbers there are up to the last one that is not nought -/
def IsL (F : Nat → Int) (n : Nat) : Prop := n ≤ 256 ∧ (∀ j, n ≤ j → j < 256 → F j = 0) ∧ (n = 0 ∨ F (n - 1) ≠ 0)
/-- the first k numbers -/
def pre (F : Nat → Int) (k : Nat) : List Int := (List.range k).map F
theorem pre_length (F : Nat → Int) (k : Nat) : (pre F k).length = k := by simp [pre]
theorem nth_pre (F : Nat → Int) (k j : Nat) (h : j < k) : nth (pre F k) j = F j := by simp [nth, pre, h]
theorem pre_succ (F : Nat → Int) (k : Nat) : pre F (k + 1) = pre F k ++ [F k] := by simp [pre, List.range_succ]
theorem canon_pre (F : Nat → Int) (n : Nat) (h : IsL F n) : Canon (pre F n) := by
  have : IsT (pre F n) (pre F n).length := by
    refine ⟨Nat.le_refl _, fun j hj => nth_out _ _ hj, ?_⟩
    rw [pre_length]
    rcases h.2.2 with h | h
    · exact .inl h
    · by_cases e : n = 0
      · exact .inl e
      · right; rw [nth_pre F n _ (by omega)]; exact h
  exact this.uniq.symm
theorem nth_pre_all (F : Nat → Int) (n : Nat) (h : IsL F n) (k : Nat) (hk : k < 256) : nth (pre F n) k = F k := by
  by_cases q : k < n
  · exact nth_pre F n k q
  · rw [nth_out _ _ (by rw [pre_length]; omega), h.2.1 k (by omega) hk]

theorem owns_at {w : World} {base : Nat} {e : TypeId} {v : Value} {l : List Int} (h : w.ownsRow base e 1 v l.length (l.map (Value.int .i64))) : ∃ oa c, v = .slice oa l.length c ∧ At w oa l := by
  rcases h.2 with ⟨rfl, h0⟩ | ⟨g, cap, cur, rfl, _, hg, _, _, hcs, htk⟩
  · refine ⟨none, 0, by rw [h0], fun k hk => by omega⟩
  · refine ⟨_, cap, rfl, fun k hk => ⟨g, 0, rfl, ?_⟩⟩
    rw [Nat.zero_add, cell_of hg k]
    have : (cur.toList.take (l.length * 1))[k]? = (l.map (Value.int .i64))[k]? := by rw [htk]
    rw [List.getElem?_take] at this
    simp [hk] at this
    rw [nth_lt l k hk]
    rw [← this]

set_option maxRecDepth 100000 in
set_option maxHeartbeats 1600000 in
theorem rlist_any (b off : Nat) (F : Nat → Int) (w : World) (h : RA w b off F) (hF : ∀ k, k < 256 → 0 ≤ F k) :
    Calls Try.prog 41 #[.pointer (some ⟨b, off, none⟩)] w fun r w' => ∃ L oa c, r = .returned (.slice oa L.length c) ∧ At w' oa L ∧ L.length ≤ 256 ∧ Canon L ∧ (∀ k, k < 256 → nth L k = F k) ∧ Below w.heap.size w w' := by
  have H := hide h
  have HF := hide hF
  have hlt : b < w.heap.size := World.block_lt_of_cell? w _ (h 0 (by decide)).1
  clear h hF
  obtain ⟨i0, hi, hz0, hz1, hz2⟩ := info_parts info_int
  have INF := hide (And.intro hi (And.intro hz0 (And.intro hz1 hz2)))
  clear hi hz0 hz1 hz2
  go_enter Try.func41, Try.ntmps41
  go_wp2_with fail
  go_loop [3, 4] (fun la i => ∃ k n : Nat, k ≤ 256 ∧ i = .int .i64 k ∧ la = .int .i64 n ∧ n ≤ k ∧ (∀ j, n ≤ j → j < k → F j = 0) ∧ (n = 0 ∨ F (n - 1) ≠ 0)) (fun _ i => 256 - (intOf i).toNat)
  case atStart => exact ⟨0, 0, by decide, rfl, rfl, Nat.le_refl _, fun j _ hj => absurd hj (Nat.not_lt_zero _), .inl rfl⟩
  case round =>
    obtain ⟨k, n, hk, rfl, rfl, hnk, hz, hl⟩ := hrel
    have HZ := hide hz
    have HL := hide hl
    clear hz hl
    by_cases hk2 : k < 256
    · have c1 := (H.out k hk2).1
      have hk' : (k : Int) < 256 := by omega
      have h0 := HF.out k hk2
      by_cases hp : 0 < F k
      · have hp' : decide (0 < F k) = true := by simpa using hp
        go_wp2
        go_round
        case rel => exact ⟨k + 1, k + 1, by omega, by go_num, by go_num, Nat.le_refl _, fun j h1 h2 => by omega, .inr (by simp; omega)⟩
        case measure => simp [intOf]; omega
      · have hp' : decide (0 < F k) = false := by simpa using hp
        go_wp2
        go_round
        case rel => exact ⟨k + 1, n, by omega, by go_num, rfl, by omega, fun j h1 h2 => by
          by_cases e : j = k
          · subst e; omega
          · exact HZ.out j h1 (by omega), HL.out⟩
        case measure => simp [intOf]; omega
    · have e : k = 256 := by omega
      subst e
      have IS : Hid (IsL F n) := ⟨hnk, HZ.out, HL.out⟩
      clear HZ HL
      go_wp2_with fail
      go_loopw [5, 6] (fun v i wr => ∃ k : Nat, k ≤ n ∧ i = .int .i64 k ∧ wr.ownsRow w.heap.size 3 1 v k ((pre F k).map (Value.int .i64)) ∧ Below w.heap.size w wr) (fun _ i _ => n - (intOf i).toNat)
      case atStart => exact ⟨0, Nat.zero_le _, rfl, World.ownsRow_nil _ _ _ _, Below.refl _ _⟩
      case round =>
        obtain ⟨k, hk3, rfl, hown, hbl⟩ := hrel
        by_cases hkn : k < n
        · have hk4 : k < 256 := by omega
          have c1 := ((hbl.cell (p := ⟨b, off + k, none⟩) hlt).trans (H.out k hk4).1)
          have OW := hide hown
          have BL := hide hbl
          clear hown hbl
          have hk' : (k : Int) < 256 := by omega
          go_wp2_with (at_builtin; refine wpList_append_own _ rfl _ _ 31 rfl w.heap.size 3 i0 (.int .i64 0) 1 8 Try.underlying31 INF.out.1 INF.out.2.1 INF.out.2.2.1 INF.out.2.2.2 rfl (by decide) _ _ _ rfl (OW.out.alloc _) ⟨wr.heap.size, 0, none⟩ 1 1 [.int .i64 (F k)] rfl rfl ?c1 ?c2 ?c3 ?c4 ?c5 ?_)
          case c1 =>
            intro j u hj
            match j, hj with
            | 0, hj => simp at hj; subst hj; simp [Addr.add]
          case c2 => intro u hu; simp at hu; subst hu; rfl
          case c3 => unfold maxLen; omega
          case c4 => omega
          case c5 => have := BL.out.size; simp; omega
          · intro v' w1 hown' hgrow _
            have BL2 : Hid (Below w.heap.size w w1) := (BL.out.alloc BL.out.size _).grown hgrow (by have := BL.out.size; simp; omega) (fun x hx => (OW.out.lt x hx).1)
            have OW2 : Hid (w1.ownsRow w.heap.size 3 1 v' (k + 1) ((pre F (k + 1)).map (Value.int .i64))) := by
              show World.ownsRow _ _ _ _ _ _ _
              rw [pre_succ, List.map_append]
              exact hown'
            clear hown' hgrow
            go_wp2
            go_roundw
            case rel => exact ⟨k + 1, by omega, by go_num, OW2.out, BL2.out⟩
            case measure => simp [intOf]; omega
        · have e : k = n := by omega
          subst e
          have OW := hide hown
          have BL := hide hbl
          obtain ⟨oa, c, hv, hat⟩ := owns_at (l := pre F k) (by rw [pre_length]; exact hown)
          rw [hv]
          have AT := hide hat
          clear hown hbl hv hat OW
          go_wp2
          go_ret
          exact ⟨pre F k, oa, c, rfl, AT.out, by rw [pre_length]; omega, canon_pre F k IS.out, nth_pre_all F k IS.out, BL.out⟩
end Ck
end Go.Proofs.Ytekdcfdjohlfcaa
/- The reference's clock as a whole: zero, load and store of 256 numbers, over this seat's program. -/
namespace Go.Proofs.Ytekdcfdjohlfcaa
open Go.ChangeShapes Go.WideShapes Go.ChangeAt Go.RowKit
namespace Ck

/-- noughts -/
def nf : Nat → Int := fun _ => 0
theorem info_ref : (Try.prog.info? 39).map (fun i => (i.zero, i.size)) = some (some (.agg (ra nf)), 256) := by kernel_rfl
theorem zero_ref : ∀ w, (zeroValue 39).run Try.prog w = .ok (.agg (ra nf)) w := (zero_of_info info_ref).1
theorem size_ref : (Try.prog.info? 39).map (·.size) = some 256 := (zero_of_info info_ref).2
theorem built_ref : Try.prog.built 39 [] = some (ra nf) := by kernel_rfl
theorem build_ref (w : World) : (Instr.build 39 #[]).run Try.prog w = .ok (.agg (ra nf)) w := run_build w _ #[] _ built_ref
theorem ra_one (F : Nat → Int) : (ra F).all (·.oneCell') = true := by
  apply all_oneCell_toArray
  intro v hv
  simp at hv
  obtain ⟨k, _, rfl⟩ := hv
  rfl
theorem agg_ref (w : World) : (isAgg 39).run Try.prog w = .ok true w := by
  unfold isAgg
  rw [Sem.run_bind, run_underlying Try.underlying39 w]
  rfl
theorem sz_ref (w : World) : (sizeOf 39).run Try.prog w = .ok 256 w := by
  have := size_ref
  cases hq : Try.prog.info? 39 with
  | none => rw [hq] at this; simp at this
  | some i =>
    rw [hq] at this
    simp at this
    simp [sizeOf, typeInfo, hq, this]
/-- 256 cells, read one behind the other -/
theorem ld_ref {w : World} {b off : Nat} {F : Nat → Int} (h : RA w b off F) : (loadCellsFrom ⟨b, off, none⟩ 0 256 #[]).run Try.prog w = .ok (ra F) w := by
  have := run_loadCells_list (P := Try.prog) w ⟨b, off, none⟩ ((List.range 256).map fun k => Value.int .i64 (F k)) (fun j v hv => by
    have hj : j < 256 := by
      have := (List.getElem?_eq_some_iff.1 hv).1
      simpa using this
    rw [Addr.add_lit, (h j hj).1]
    simpa [hj] using hv)
  simpa [loadCells, ra] using this
/-- 256 cells, written one behind the other, over a whole block -/
theorem st_ref {w : World} {b : Nat} {old : Array Value} {t : TypeId} (F : Nat → Int) (h : w.heap[b]? = some (.cells old t (0, 0))) (ho : old.size = 256) : (storeCells ⟨b, 0, none⟩ (ra F).toList).run Try.prog w = .ok () (w.setRow b (ra F)) := by
  have := run_storeCells_from (P := Try.prog) b t (ra F).toList 0 old w h (by simp [ra_size, ho]) (fun v hv => (Array.all_eq_true_iff_forall_mem.1 (ra_one F)) v (by simpa using hv))
  simpa using this

theorem loadVar_ref {w : World} {b : Nat} {F : Nat → Int} {t : TypeId} (h : w.heap[b]? = some (.cells (ra F) t (0, 0))) : (loadVar 39 ⟨b, 0, none⟩).run Try.prog w = .ok (.agg (ra F)) w :=
  run_loadVar_row w b t _ _ _ _ h Try.underlying39 rfl (by rw [size_ref, ra_size])
theorem results_row2 {fn : Func} {p u : Tmp} {ty : TypeId} (h : fn.results = #[.cell p ty, .tmp u]) (tmps : Array Value) (w : World) (g : Nat) (cs : Array Value) (v : Value)
    (hp : tmps.getD p undef = .pointer (some ⟨g, 0, none⟩)) (hv : tmps.getD u undef = v) (hl : (loadVar ty ⟨g, 0, none⟩).run Try.prog w = .ok (.agg cs) w) :
    (results fn tmps).run Try.prog w = .ok (.tuple #[.agg cs, v]) w := by
  subst hv
  have hp' : tmps[p]?.getD undef = .pointer (some ⟨g, 0, none⟩) := by simpa using hp
  simp [results, h, hp', asAddr, hl]

def gk (l : List Int) (k : Nat) : Nat → Int := fun j => if j < k then nth l j else 0
theorem gk_zero (l : List Int) : gk l 0 = nf := by funext j; simp [gk, nf]
theorem gk_all (l : List Int) : gk l l.length = nth l := by
  funext j
  by_cases h : j < l.length
  · simp [gk, h]
  · simp [gk, h, nth_out l j (by omega)]
theorem ra_set (F G : Nat → Int) (k : Nat) (v : Int) (hk : k < 256) (h : ∀ j, G j = if j = k then v else F j) : (ra F).setIfInBounds k (.int .i64 v) = ra G := by
  apply Array.ext_getElem?
  intro i
  by_cases hi : i < 256
  · rw [ra_at G i hi, h i]
    by_cases e : i = k
    · subst e
      rw [if_pos rfl, Array.getElem?_setIfInBounds_self_of_lt (by rw [ra_size]; exact hi)]
    · rw [if_neg e, Array.getElem?_setIfInBounds_ne (Ne.symm e), ra_at F i hi]
  · rw [Array.getElem?_eq_none (by rw [Array.size_setIfInBounds, ra_size]; omega), Array.getElem?_eq_none (by rw [ra_size]; omega)]

end Ck
end Go.Proofs.Ytekdcfdjohlfcaa
