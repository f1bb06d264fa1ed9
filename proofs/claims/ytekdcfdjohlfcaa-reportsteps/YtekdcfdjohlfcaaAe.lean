/- Package cell, over this seat's program: rows of epochs: Insert of one. -/
import Derived.Test.YtekdcfdjohlfcaaAd
namespace Go.Proofs.Ytekdcfdjohlfcaa
open Go.ChangeShapes Go.WideShapes Go.ChangeAt Go.RowKit
namespace Ce
open Ck
open Ba (KF Bd Nw hide)

/-- what Insert gives -/
def InsR (w : World) (v : Value) (m : List Int) (r : Ending) (w' : World) : Prop :=
  ∃ v', r = .returned v' ∧ w'.ownsRow 0 61 1 v' m.length (us m) ∧ (v'.ownBlock = v.ownBlock ∨ ∃ N, v'.ownBlock = some N ∧ w.heap.size ≤ N) ∧ w.grownBy w' v.ownBlock

theorem ob (oa : Option Addr) (n c n2 c2 : Nat) : (Value.slice oa n c).ownBlock = (Value.slice oa n2 c2).ownBlock := by cases oa <;> rfl
theorem ins_end (l : List Int) (e : Int) : insL l l.length e = l ++ [e] := by simp [insL]
theorem us_app (a b : List Int) : us (a ++ b) = us a ++ us b := by simp [us]
theorem cell_one {w : World} {vb : Nat} {e : Int} (h : w.heap[vb]? = some (.cells #[.int .u64 e] 61 (0, 0))) : ∀ j u, [Value.int .u64 e][j]? = some u → w.cell? ((⟨vb, 0, none⟩ : Addr).add j) = some u := by
  intro j u hj
  rw [Addr.add_lit, Nat.zero_add, cell_of h]
  cases j with
  | zero => simpa using hj
  | succ j => simp at hj

set_option maxRecDepth 100000 in
set_option maxHeartbeats 3200000 in
/-- at the end -/
theorem insert_end (v : Value) (l : List Int) (e : Int) (vb : Nat) (w : World) (ho : w.ownsRow 0 61 1 v l.length (us l)) (hl : l.length ≤ 100000) (hv : w.heap[vb]? = some (.cells #[.int .u64 e] 61 (0, 0))) :
    Calls Try.prog 78 #[v, .int .i64 (l.length : Int), .slice (some ⟨vb, 0, none⟩) 1 1] w (InsR w v (insL l l.length e)) := by
  unfold InsR
  obtain ⟨i0, hi, hx0, hx1, hx2⟩ := info_parts info_e
  have INF := hide (And.intro hi (And.intro hx0 (And.intro hx1 hx2)))
  have HO := hide ho
  have HC := hide (cell_one hv)
  obtain ⟨oa, cap, rfl⟩ := own_sl ho
  have hcap := own_cap ho
  have hm2 : cap ≤ 9223372036854775807 := by have := hcap.2; simp only [maxLen] at this; omega
  have hcl : (l.length : Int) ≤ (cap : Int) := by have := hcap.1; omega
  have hml : l.length + 1 ≤ maxLen := by simp only [maxLen]; omega
  have hbb : (l.length + 1) * 8 ≤ 140737488355328 := by omega
  have ON : Hid (∀ u ∈ [Value.int .u64 e], u.oneCell' = true) := by intro u hu; rw [List.mem_singleton] at hu; rw [hu]; rfl
  have LEN := hide (show (insL l l.length e).length = l.length + 1 from by rw [ins_end]; simp)
  have US := hide (show us (insL l l.length e) = us l ++ [.int .u64 e] from by rw [ins_end, us_app]; rfl)
  clear ho hv hi hx0 hx1 hx2 hcap
  go_enter Try.func78, Try.ntmps78
  go_wp2_with (at_builtin; refine wpList_append_own_at _ rfl _ _ 86 rfl 0 61 i0 (.int .u64 0) 1 8 Try.underlying86 INF.out.1 INF.out.2.1 INF.out.2.2.1 INF.out.2.2.2 rfl (by decide) _ _ _ rfl HO.out ⟨vb, 0, none⟩ 1 1 [.int .u64 e] rfl rfl HC.out ON.out hml hbb (Nat.zero_le _) ?_)
  all_goals
    intro v' w' o1 g1 x1 b1
    clear x1
    obtain ⟨oa', c', rfl⟩ := own_sl o1
    have O1 := hide o1
    rw [ob oa _ _ 0 0] at g1 b1
    have G1 := hide g1
    have B1 := hide b1
    clear o1 g1 b1
    go_wp2_with fail
    go_ret
    refine ⟨_, rfl, by rw [LEN.out, US.out]; exact O1.out, ?_, by rw [ob oa _ _ 0 0]; exact G1.out⟩
    rw [ob oa _ _ 0 0]
    rcases B1.out with q | q
    · exact .inl q
    · exact .inr ⟨_, q, Nat.le_refl _⟩

set_option maxRecDepth 100000 in
set_option maxHeartbeats 3200000 in
/-- inside, where there is room -/
theorem insert_room (g cap : Nat) (l : List Int) (i : Nat) (e : Int) (vb : Nat) (w : World) (ho : w.ownsRow 0 61 1 (.slice (some ⟨g, 0, none⟩) l.length cap) l.length (us l)) (hil : i < l.length) (hrm : l.length + 1 ≤ cap) (hv : w.heap[vb]? = some (.cells #[.int .u64 e] 61 (0, 0))) (hne : vb ≠ g) :
    Calls Try.prog 78 #[.slice (some ⟨g, 0, none⟩) l.length cap, .int .i64 (i : Int), .slice (some ⟨vb, 0, none⟩) 1 1] w (InsR w (.slice (some ⟨g, 0, none⟩) l.length cap) (insL l i e)) := by
  unfold InsR
  obtain ⟨cur, hg, hsz, hlc, hcm, hcell⟩ := own_cur ho
  have hm2 : cap ≤ 9223372036854775807 := by simp only [maxLen] at hcm; omega
  have hov : ∀ lb cb, (callFunc 90 #[.slice (some ⟨vb, 0, none⟩) 1 1, .slice (some ⟨g, i + 1, none⟩) lb cb]).run Try.prog w = .ok (.value (.bool false)) w := fun lb cb => by
    rw [run_callFunc_extern Try.func90 (by kernel_rfl) (by kernel_rfl) (by kernel_rfl) (e := Extern.SlicesOverlaps.overlaps #[86, 86] #[4]) (by kernel_rfl),
      Lib.run_overlaps_apart w 86 4 61 Try.underlying86 1 Try.sizeOf61 ⟨vb, 0, none⟩ ⟨g, i + 1, none⟩ 1 1 lb cb hne 61 61 1 cap (by simp [World.shape?, hv]) (by simp [World.shape?, hg, hsz]) (by omega) (Ba.frozen_of hv 0) (Ba.frozen_of hv 1)]
    rfl
  have hdl : (us (l.drop i)).length = l.length - i := by rw [us_len, List.length_drop]; omega
  have hg' : w.drew.heap[g]? = some (.cells cur 61 (0, 0)) := hg
  have hcp1 : ∀ ty dc sc, (Builtin.copy_ #[86, 86] ty #[.slice (some ⟨g, i + 1, none⟩) (l.length - i) dc, .slice (some ⟨g, i, none⟩) (l.length + 1 - i) sc]).run Try.prog w.drew = .ok (goInt (us (l.drop i)).length) (w.drew.setCells g (i + 1) (us (l.drop i))) := fun ty dc sc =>
    run_copy_cells w.drew _ _ ty 61 g (i + 1) (l.length - i) dc ⟨g, i, none⟩ (l.length + 1 - i) sc (us (l.drop i)) Try.underlying86 info_e1 (by rw [hdl]; simp only [Nat.min_def]; split <;> omega)
      (fun j v hj => by
        rw [Addr.add_lit, cell_of hg']
        rw [us_drop, List.getElem?_drop] at hj
        have hlt : i + j < l.length := by
          have := (List.getElem?_eq_some_iff.1 hj).1
          simpa [us] using this
        rw [us_at l _ hlt] at hj
        rw [hcell _ hlt, hj])
      (fun j hj => by rw [cell_of hg', Array.getElem?_eq_getElem (by omega)]; rfl) (fun j hj => Ba.frozen_of hg' _) (us_one _)
  obtain ⟨cur1, k1, k2, k3, k4, -⟩ := row_cells g 61 (0, 0) (us (l.drop i)) (i + 1) cur w.drew hg'
  obtain ⟨W1, hW1⟩ : ∃ W1, W1 = w.drew.setCells g (i + 1) (us (l.drop i)) := ⟨_, rfl⟩
  have hv1 : W1.heap[vb]? = some (.cells #[.int .u64 e] 61 (0, 0)) := by rw [hW1, heap_cells g _ _ _ _ hne]; exact hv
  rw [← hW1] at hcp1 k1
  have hcp2 : ∀ ty dc, (Builtin.copy_ #[86, 86] ty #[.slice (some ⟨g, i, none⟩) (l.length + 1 - i) dc, .slice (some ⟨vb, 0, none⟩) 1 1]).run Try.prog W1 = .ok (goInt [Value.int .u64 e].length) (W1.setCells g i [.int .u64 e]) := fun ty dc =>
    run_copy_cells W1 _ _ ty 61 g i (l.length + 1 - i) dc ⟨vb, 0, none⟩ 1 1 [.int .u64 e] Try.underlying86 info_e1 (by simp only [Nat.min_def, List.length_singleton]; split <;> omega) (cell_one hv1)
      (fun j hj => by rw [cell_of k1, Array.getElem?_eq_getElem (by simp at hj; omega)]; rfl) (fun j hj => Ba.frozen_of k1 _) (by intro u hu; rw [List.mem_singleton] at hu; rw [hu]; rfl)
  obtain ⟨cur2, m1, m2, m3, m4, m5⟩ := row_cells g 61 (0, 0) [Value.int .u64 e] i cur1 W1 k1
  have FIN : Hid ((W1.setCells g i [.int .u64 e]).ownsRow 0 61 1 (.slice (some ⟨g, 0, none⟩) (l.length + 1) cap) (insL l i e).length (us (insL l i e)) ∧ w.grownBy (W1.setCells g i [.int .u64 e]) (some g)) := by
    refine ⟨?_, ?_⟩
    · have := own_mk (m := insL l i e) m1 (by rw [m2, k2, hsz]) (by rw [ins_len l i e (by omega)]; omega) hcm (fun k hk => by
        rw [ins_len l i e (by omega)] at hk
        rcases Nat.lt_trichotomy k i with q | q | q
        · rw [m3 k q, k3 k (by omega), nth_ins_lt l i k e (by omega) q]; exact hcell k (by omega)
        · rw [q, nth_ins_at l i e (by omega)]
          have := m4 0 (by simp) (by omega)
          simpa using this
        · rw [m5 k (by simp; omega), nth_ins_gt l i k e (by omega) q]
          have := k4 (k - (i + 1)) (by rw [hdl]; omega) (by omega)
          rw [show i + 1 + (k - (i + 1)) = k by omega] at this
          rw [this, us_drop, List.getElem?_drop, us_at l _ (by omega)]
          congr 3
          omega)
      rw [ins_len l i e (by omega)] at this ⊢
      exact this
    · have t1 := tape_cells g (us (l.drop i)) (i + 1) w.drew
      rw [← hW1] at t1
      have t2 := tape_cells g [Value.int .u64 e] i W1
      refine ⟨t2.2.2.1.trans t1.2.2.1, t2.1.trans t1.1, t2.2.2.2.trans t1.2.2.2, by rw [t2.2.1, t1.2.1]; exact Nat.le_refl _, fun k hk hnk => ?_⟩
      have hkg : k ≠ g := fun e => hnk (by rw [e])
      rw [heap_cells g _ _ _ _ hkg, hW1, heap_cells g _ _ _ _ hkg]
      rfl
  have C1 := hide hcp1
  have C2 := hide hcp2
  have e01 : (i : Int) ≤ (l.length : Int) := by omega
  have e02 : ¬ ((i : Int) = (l.length : Int)) := by omega
  have e03 : ¬ ((cap : Int) < (l.length : Int) + 1) := by omega
  have e04 : (l.length : Int) + 1 ≤ (cap : Int) := by omega
  have e05 : (0 : Int) ≤ (i : Int) + 1 := by omega
  have e06 : (i : Int) + 1 ≤ (l.length : Int) + 1 := by omega
  have e07 : ¬ (cap = i + 1) := by omega
  have e08 : ¬ (cap = i) := by omega
  have e09 : (i : Int) ≤ (l.length : Int) + 1 := by omega
  have e10 : IntKind.i64.wrap ((i : Int) + 1) = (i : Int) + 1 := by rw [IntKind.wrap_i64]; omega
  have e11 : ((i : Int) + 1).toNat = i + 1 := by omega
  clear hW1 hv1 k1 k2 k3 k4 m1 m2 m3 m4 m5 hg hg' hsz hcell hv ho hdl
  generalize hL : l.length = L at *
  generalize us (l.drop i) = Ud at *
  generalize hF : W1.setCells g i [.int .u64 e] = WF at *
  clear hF
  go_enter Try.func78, Try.ntmps78
  go_wp2_with (simp only [hov])
  go_region
  clear hcp1
  go_wp2_with fail
  go_ret
  exact ⟨_, rfl, FIN.out.1, .inl rfl, FIN.out.2⟩
set_option maxRecDepth 100000 in
set_option maxHeartbeats 3200000 in
/-- inside, where there is no room -/
theorem insert_grow (g cap : Nat) (l : List Int) (i : Nat) (e : Int) (vb : Nat) (w : World) (ho : w.ownsRow 0 61 1 (.slice (some ⟨g, 0, none⟩) l.length cap) l.length (us l)) (hil : i < l.length) (hl : l.length ≤ 100000) (hrm : cap < l.length + 1) (hv : w.heap[vb]? = some (.cells #[.int .u64 e] 61 (0, 0))) :
    Calls Try.prog 78 #[.slice (some ⟨g, 0, none⟩) l.length cap, .int .i64 (i : Int), .slice (some ⟨vb, 0, none⟩) 1 1] w (InsR w (.slice (some ⟨g, 0, none⟩) l.length cap) (insL l i e)) := by
  unfold InsR
  obtain ⟨cur, hg, hsz, hlc, hcm, hcell⟩ := own_cur ho
  obtain ⟨i0, hi0, hz0, hzs, hzb⟩ := info_parts info_e
  have hm2 : cap ≤ 9223372036854775807 := by simp only [maxLen] at hcm; omega
  have hgw : g < w.heap.size := (Array.getElem?_eq_some_iff.1 hg).1
  have hvw : vb < w.heap.size := (Array.getElem?_eq_some_iff.1 hv).1
  have hsrc : ∀ j v, ((us l).take i)[j]? = some v → w.cell? ⟨g, j, none⟩ = some v := by
    intro j v hj
    rw [List.getElem?_take] at hj
    split at hj
    · have hlt : j < l.length := by omega
      rw [us_at l _ hlt] at hj
      rw [cell_of hg, hcell _ hlt, hj]
    · cases hj
  have hold : (Builtin.firstCells i0.size i (.slice (some ⟨g, 0, none⟩) i cap)).run Try.prog w.drew = .ok ((us l).take i).toArray w.drew := by
    rw [hzs]
    exact run_firstCells_some w.drew 1 i ⟨g, 0, none⟩ i cap ((us l).take i) (by rw [List.length_take, us_len]; omega) (fun j v hj => by
      rw [Addr.add_lit, Nat.zero_add]
      exact hsrc j v hj)
  have hkk : (l.length : Int) + 1 - (i : Int) = ((l.length + 1 - i : Nat) : Int) := by omega
  have hik : i + (l.length + 1 - i) = l.length + 1 := by omega
  have hrz : ∀ ty, (Builtin.append_ #[86, 3] ty #[.slice (some ⟨g, 0, none⟩) i cap, .int .i64 ((l.length : Int) + 1 - (i : Int))]).run Try.prog w =
      .ok (.slice (some ⟨w.heap.size, 0, none⟩) (l.length + 1) (grownCap w (l.length + 1) cap 61)) (w.drew.alloc (.cells (((us l).take i).toArray ++ Builtin.zeroCells (Value.int .u64 0).cells (l.length + 1 - i) ++ Builtin.zeroCells (Value.int .u64 0).cells (grownCap w (l.length + 1) cap 61 - (l.length + 1))) 61)) := fun ty => by
    have h := Lib.run_append_grow_zeros w 86 3 ty 61 i0 _ .i64 .i64 Try.underlying86 Try.underlying3 hi0 hz0 (some ⟨g, 0, none⟩) i cap ((us l).take i) hold (l.length + 1 - i) (by omega) (by omega) (by omega) (by omega) (by rw [hzb]; omega) (by rw [hzb, hik]; exact growslice_fits hrm (by omega))
    rw [hik] at h
    rw [hkk]
    exact h
  have hGn : l.length + 1 ≤ grownCap w (l.length + 1) cap 61 := grownCap_ge w _ _ _
  have hGm : grownCap w (l.length + 1) cap 61 ≤ maxLen := grownCap_le_maxLen w (l.length + 1) cap 61 (by unfold maxLen; omega)
  generalize grownCap w (l.length + 1) cap 61 = G at hrz hGn hGm
  have hGm2 : G ≤ 9223372036854775807 := by simp only [maxLen] at hGm; omega
  obtain ⟨ROW, hROW⟩ : ∃ ROW : Array Value, ROW = ((us l).take i).toArray ++ Builtin.zeroCells (Value.int .u64 0).cells (l.length + 1 - i) ++ Builtin.zeroCells (Value.int .u64 0).cells (G - (l.length + 1)) := ⟨_, rfl⟩
  rw [← hROW] at hrz
  have hRl : ROW.size = G := by
    rw [hROW]
    simp [Builtin.zeroCells, Value.cells, us]
    omega
  have hRi : ∀ k, k < i → ROW[k]? = some (.int .u64 (nth l k)) := by
    intro k hk
    rw [hROW, Array.append_assoc, Array.getElem?_append_left (by simp [us]; omega), List.getElem?_toArray, List.getElem?_take, if_pos hk]
    exact us_at l k (by omega)
  obtain ⟨W1, hW1⟩ : ∃ W1, W1 = w.drew.alloc (.cells ROW 61) := ⟨_, rfl⟩
  have h1 : W1.heap[w.heap.size]? = some (.cells ROW 61 (0, 0)) := by rw [hW1]; exact heap_new w.drew _
  have hv1 : W1.heap[vb]? = some (.cells #[.int .u64 e] 61 (0, 0)) := by rw [hW1]; exact (Below.heap_alloc w.drew _ vb hvw).trans hv
  have hg1 : W1.heap[g]? = some (.cells cur 61 (0, 0)) := by rw [hW1]; exact (Below.heap_alloc w.drew _ g hgw).trans hg
  have hz1 : W1.heap.size = w.heap.size + 1 := by rw [hW1, World.size_alloc]; rfl
  have ho1 : W1.os = w.os ∧ W1.tape = w.tape ∧ W1.output = w.output ∧ ∀ k, k < w.heap.size → W1.heap[k]? = w.heap[k]? := by
    rw [hW1]; exact ⟨rfl, rfl, rfl, fun k hk => Below.heap_alloc w.drew _ k hk⟩
  rw [← hW1] at hrz
  generalize hN : w.heap.size = N at *
  have hcpA : ∀ ty dc, (Builtin.copy_ #[86, 86] ty #[.slice (some ⟨N, i, none⟩) (l.length + 1 - i) dc, .slice (some ⟨vb, 0, none⟩) 1 1]).run Try.prog W1 = .ok (goInt [Value.int .u64 e].length) (W1.setCells N i [.int .u64 e]) := fun ty dc =>
    run_copy_cells W1 _ _ ty 61 N i (l.length + 1 - i) dc ⟨vb, 0, none⟩ 1 1 [.int .u64 e] Try.underlying86 info_e1 (by simp only [Nat.min_def, List.length_singleton]; split <;> omega) (cell_one hv1)
      (fun j hj => by rw [cell_of h1, Array.getElem?_eq_getElem (by simp at hj; omega)]; rfl) (fun j hj => Ba.frozen_of h1 _) (by intro u hu; rw [List.mem_singleton] at hu; rw [hu]; rfl)
  obtain ⟨cur2, m1, m2, m3, m4, -⟩ := row_cells N 61 (0, 0) [Value.int .u64 e] i ROW W1 h1
  have hg2 : (W1.setCells N i [.int .u64 e]).heap[g]? = some (.cells cur 61 (0, 0)) := by rw [heap_cells N _ _ _ _ (by omega)]; exact hg1
  have t2 := tape_cells N [Value.int .u64 e] i W1
  have hb2 : ∀ k, k < N → (W1.setCells N i [.int .u64 e]).heap[k]? = w.heap[k]? := fun k hk => by rw [heap_cells N _ _ _ _ (by omega)]; exact ho1.2.2.2 k hk
  generalize hW2 : W1.setCells N i [.int .u64 e] = W2 at *
  have hdl : (us (l.drop i)).length = l.length - i := by rw [us_len, List.length_drop]; omega
  have hg3 : W2.drew.heap[g]? = some (.cells cur 61 (0, 0)) := hg2
  have m1' : W2.drew.heap[N]? = some (.cells cur2 61 (0, 0)) := m1
  have hcpB : ∀ ty dc sc, (Builtin.copy_ #[86, 86] ty #[.slice (some ⟨N, i + 1, none⟩) (l.length - i) dc, .slice (some ⟨g, i, none⟩) (l.length - i) sc]).run Try.prog W2.drew = .ok (goInt (us (l.drop i)).length) (W2.drew.setCells N (i + 1) (us (l.drop i))) := fun ty dc sc =>
    run_copy_cells W2.drew _ _ ty 61 N (i + 1) (l.length - i) dc ⟨g, i, none⟩ (l.length - i) sc (us (l.drop i)) Try.underlying86 info_e1 (by rw [hdl]; simp only [Nat.min_def]; split <;> omega)
      (fun j v hj => by
        rw [Addr.add_lit, cell_of hg3]
        rw [us_drop, List.getElem?_drop] at hj
        have hlt : i + j < l.length := by
          have := (List.getElem?_eq_some_iff.1 hj).1
          simpa [us] using this
        rw [us_at l _ hlt] at hj
        rw [hcell _ hlt, hj])
      (fun j hj => by rw [cell_of m1', Array.getElem?_eq_getElem (by omega)]; rfl) (fun j hj => Ba.frozen_of m1' _) (us_one _)
  obtain ⟨cur3, n1, n2, n3, n4, -⟩ := row_cells N 61 (0, 0) (us (l.drop i)) (i + 1) cur2 W2.drew m1'
  have t3 := tape_cells N (us (l.drop i)) (i + 1) W2.drew
  have hb3 : ∀ k, k < N → (W2.drew.setCells N (i + 1) (us (l.drop i))).heap[k]? = w.heap[k]? := fun k hk => by rw [heap_cells N _ _ _ _ (by omega)]; exact hb2 k hk
  generalize hW3 : W2.drew.setCells N (i + 1) (us (l.drop i)) = W3 at *
  have FIN : Hid (W3.ownsRow 0 61 1 (.slice (some ⟨N, 0, none⟩) (l.length + 1) G) (insL l i e).length (us (insL l i e)) ∧ w.grownBy W3 (some g)) := by
    refine ⟨?_, ?_⟩
    · have := own_mk (m := insL l i e) n1 (by rw [n2, m2, hRl]) (by rw [ins_len l i e (by omega)]; omega) hGm (fun k hk => by
        rw [ins_len l i e (by omega)] at hk
        rcases Nat.lt_trichotomy k i with q | q | q
        · rw [n3 k (by omega), m3 k q, nth_ins_lt l i k e (by omega) q]; exact hRi k q
        · rw [q, nth_ins_at l i e (by omega), n3 i (by omega)]
          have := m4 0 (by simp) (by omega)
          simpa using this
        · rw [nth_ins_gt l i k e (by omega) q]
          have := n4 (k - (i + 1)) (by rw [hdl]; omega) (by omega)
          rw [show i + 1 + (k - (i + 1)) = k by omega] at this
          rw [this, us_drop, List.getElem?_drop, us_at l _ (by omega)]
          congr 3
          omega)
      rw [ins_len l i e (by omega)] at this ⊢
      exact this
    · exact ⟨t3.2.2.1.trans (t2.2.2.1.trans ho1.1), t3.1.trans (t2.1.trans ho1.2.1), t3.2.2.2.trans (t2.2.2.2.trans ho1.2.2.1), by rw [t3.2.1]; show w.heap.size ≤ W2.heap.size; rw [t2.2.1, hz1, hN]; omega, fun k hk hnk => hb3 k (by omega)⟩
  have e01 : (i : Int) ≤ (l.length : Int) := by omega
  have e02 : ¬ ((i : Int) = (l.length : Int)) := by omega
  have e03 : (cap : Int) < (l.length : Int) + 1 := by omega
  have e04 : (i : Int) ≤ (cap : Int) := by omega
  have e05 : (0 : Int) ≤ (i : Int) + 1 := by omega
  have e06 : (i : Int) + 1 ≤ (l.length : Int) + 1 := by omega
  have e07 : ¬ (G = i + 1) := by omega
  have e08 : ¬ (G = i) := by omega
  have e09 : ¬ (cap = i) := by omega
  have e10 : IntKind.i64.wrap ((i : Int) + 1) = (i : Int) + 1 := by rw [IntKind.wrap_i64]; omega
  have e11 : ((i : Int) + 1).toNat = i + 1 := by omega
  have e12 : IntKind.i64.wrap ((l.length : Int) + 1 - (i : Int)) = (l.length : Int) + 1 - (i : Int) := by rw [IntKind.wrap_i64]; omega
  have e13 : (i : Int) ≤ (l.length : Int) + 1 := by omega
  clear hW1 hv1 h1 hg1 hz1 ho1 m1 m1' m2 m3 m4 n1 n2 n3 n4 hg2 hg3 t2 t3 hb2 hb3 hW2 hW3 hg hsz hcell hv ho hdl hold hkk hik hsrc hRl hRi hROW hi0 hz0 hzs hzb hN
  have HRZ := hide hrz
  clear hrz
  generalize hL : l.length = L at *
  generalize us (l.drop i) = Ud at *
  go_enter Try.func78, Try.ntmps78
  go_wp2_with (at_builtin; refine Lib.wpList_append_run _ rfl _ _ _ _ rfl _ _ rfl rfl _ _ (HRZ.out _) ?_)
  go_region
  go_wp2_with fail
  go_ret
  exact ⟨_, rfl, FIN.out.1, .inr ⟨_, rfl, Nat.le_refl _⟩, FIN.out.2⟩

theorem insert_any (v : Value) (l : List Int) (i : Nat) (e : Int) (vb : Nat) (w : World) (ho : w.ownsRow 0 61 1 v l.length (us l)) (hil : i ≤ l.length) (hl : l.length ≤ 100000) (hv : w.heap[vb]? = some (.cells #[.int .u64 e] 61 (0, 0))) (hne : v.ownBlock ≠ some vb) :
    Calls Try.prog 78 #[v, .int .i64 (i : Int), .slice (some ⟨vb, 0, none⟩) 1 1] w (InsR w v (insL l i e)) := by
  by_cases hi : i = l.length
  · subst hi; exact insert_end v l e vb w ho hl hv
  · obtain ⟨oa, cap, rfl⟩ := own_sl ho
    obtain ⟨g, rfl, -⟩ := own_cell ho (k := i) (by omega)
    have hng : vb ≠ g := fun q => hne (by rw [q]; rfl)
    by_cases hc : l.length + 1 ≤ cap
    · exact insert_room g cap l i e vb w ho (by omega) hc hv hng
    · exact insert_grow g cap l i e vb w ho (by omega) hl (by omega) hv
end Ce
end Go.Proofs.Ytekdcfdjohlfcaa
