/- Package remap, over this seat's program: rows of records: Insert of one. -/
import Derived.Test.YtledfepeoajgoaaUa4
import Derived.Lib.SliceRun
import Derived.Shelf.Spec.SlicesInsertGrow
namespace Go.Proofs.Ytledfepeoajgoaa
open Go.ChangeShapes Go.WideShapes Go.ChangeAt Go.RowKit
namespace Rk
open Ba

theorem heap_cells (b : Nat) : ∀ (vs : List Value) (o : Nat) (w : World) (k : Nat), k ≠ b → (w.setCells b o vs).heap[k]? = w.heap[k]?
  | [], _, _, _, _ => rfl
  | v :: r, o, w, k, h => by
    show ((w.setCell ⟨b, o, none⟩ v).setCells b (o + 1) r).heap[k]? = _
    rw [heap_cells b r _ _ k h]
    simp [World.setCell, Array.getElem?_modify, Ne.symm h]
theorem tape_cells (b : Nat) : ∀ (vs : List Value) (o : Nat) (w : World), (w.setCells b o vs).tape = w.tape ∧ (w.setCells b o vs).heap.size = w.heap.size ∧ (w.setCells b o vs).os = w.os ∧ (w.setCells b o vs).output = w.output
  | [], _, _ => ⟨rfl, rfl, rfl, rfl⟩
  | v :: r, o, w => by
    have ih := tape_cells b r (o + 1) (w.setCell ⟨b, o, none⟩ v)
    refine ⟨ih.1, ih.2.1.trans (by simp [World.setCell]), ih.2.2.1, ih.2.2.2⟩
/-- what the block holds behind a run of stores -/
theorem row_cells (b : Nat) (t : TypeId) (fr : Nat × Nat) : ∀ (vs : List Value) (o : Nat) (cur : Array Value) (w : World), w.heap[b]? = some (.cells cur t fr) →
    ∃ cur', (w.setCells b o vs).heap[b]? = some (.cells cur' t fr) ∧ cur'.size = cur.size ∧ (∀ k, k < o → cur'[k]? = cur[k]?) ∧ (∀ k, k < vs.length → o + k < cur.size → cur'[o + k]? = vs[k]?) ∧ ∀ k, o + vs.length ≤ k → cur'[k]? = cur[k]?
  | [], o, cur, w, h => ⟨cur, h, rfl, fun _ _ => rfl, fun k hk _ => absurd hk (Nat.not_lt_zero _), fun _ _ => rfl⟩
  | v :: r, o, cur, w, h => by
    obtain ⟨cur', h1, h2, h3, h4, h5⟩ := row_cells b t fr r (o + 1) (cur.setIfInBounds o v) (w.setCell ⟨b, o, none⟩ v) (Ba.heap_setCell_same h v)
    refine ⟨cur', h1, by rw [h2, Array.size_setIfInBounds], fun k hk => ?_, fun k hk hs => ?_, fun k hk => ?_⟩
    · rw [h3 k (by omega), Array.getElem?_setIfInBounds, if_neg (by omega)]
    · cases k with
      | zero =>
        rw [Nat.add_zero, h3 o (by omega), Array.getElem?_setIfInBounds, if_pos rfl, if_pos (by omega)]
        rfl
      | succ k =>
        have := h4 k (by simpa using hk) (by rw [Array.size_setIfInBounds]; omega)
        rw [show o + (k + 1) = o + 1 + k by omega, this, List.getElem?_cons_succ]
    · rw [h5 k (by simp at hk; omega), Array.getElem?_setIfInBounds, if_neg (by simp at hk; omega)]
theorem own_mk {W : World} {g cap : Nat} {cur : Array Value} {m : List Rd} (hg : W.heap[g]? = some (.cells cur 32 (0, 0))) (hs : cur.size = cap * 6) (hl : m.length ≤ cap) (hm : cap ≤ maxLen) (hc : ∀ k, k < m.length * 6 → cur[k]? = (rc m)[k]?) :
    W.ownsRow 0 32 6 (.slice (some ⟨g, 0, none⟩) m.length cap) m.length (rc m) := by
  refine ⟨rc_len m, .inr ⟨g, cap, cur, rfl, Nat.zero_le _, hg, hl, hm, by omega, ?_⟩⟩
  apply List.ext_getElem?
  intro k
  rw [List.getElem?_take]
  by_cases hk : k < m.length * 6
  · rw [if_pos (by omega), ← hc k hk]; simp
  · rw [if_neg (by omega), List.getElem?_eq_none (by rw [rc_len]; omega)]
theorem own_cur {W : World} {g cap : Nat} {m : List Rd} (h : W.ownsRow 0 32 6 (.slice (some ⟨g, 0, none⟩) m.length cap) m.length (rc m)) :
    ∃ cur, W.heap[g]? = some (.cells cur 32 (0, 0)) ∧ cur.size = cap * 6 ∧ m.length ≤ cap ∧ cap ≤ maxLen ∧ ∀ k, k < m.length * 6 → cur[k]? = (rc m)[k]? := by
  rcases h.2 with ⟨e, -⟩ | ⟨g', cap', cur, e, -, hg, h1, h2, h3, h4⟩
  · cases e
  · simp only [Value.slice.injEq, Option.some.injEq, Addr.mk.injEq, and_true, true_and] at e
    obtain ⟨rfl, rfl⟩ := e
    refine ⟨cur, hg, by omega, h1, h2, fun k hk => ?_⟩
    rw [← h4, List.getElem?_take, if_pos (by omega)]
    simp
theorem run_copyN {P : Program} (w : World) (dT sT ty elem : TypeId) (m b o dLen dCap : Nat) (a : Addr) (sLen sCap n : Nat) (cs : List Value)
    (hu : P.underlying dT = some (.slice elem)) (hs : (P.info? elem).map (·.size) = some m) (hmn : Nat.min sLen dLen = n) (hn : cs.length = n * m)
    (hsrc : ∀ j v, cs[j]? = some v → w.cell? (a.add j) = some v) (hc : ∀ j, j < cs.length → (w.cell? ⟨b, o + j, none⟩).isSome = true) (hf : ∀ j, j < cs.length → w.frozen? ⟨b, o + j, none⟩ = false) (h1 : ∀ v ∈ cs, v.oneCell' = true) :
    (Builtin.copy_ #[dT, sT] ty #[.slice (some ⟨b, o, none⟩) dLen dCap, .slice (some a) sLen sCap]).run P w = .ok (goInt n) (w.setCells b o cs) := by
  have hl := run_loadCells_list (P := P) w a cs hsrc
  have hst := run_storeCells_cells (P := P) b o cs 0 w (by simpa using hc) (by simpa using hf) h1
  rw [hn] at hl
  cases hq : P.info? elem with
  | none => simp [hq] at hs
  | some i =>
    have hi : i.size = m := by simpa [hq] using hs
    simp [Builtin.copy_, run_underlying hu, Builtin.lenOf, Builtin.firstCells, sizeOf, typeInfo, hq, hi, hmn, hl, hst]
theorem cl_len (e : Rd) : (cl e).length = 6 := rfl
theorem rc_ins (l : List Rd) (i : Nat) (e : Rd) : rc (insL l i e) = rc (l.take i) ++ (cl e ++ rc (l.drop i)) := by
  unfold insL
  rw [rc_app]
  rfl
theorem ri_lt (l : List Rd) (i k : Nat) (e : Rd) (h : i ≤ l.length) (hk : k < i * 6) : (rc (insL l i e))[k]? = (rc l)[k]? := by
  rw [rc_ins, List.getElem?_append_left (by rw [rc_len, List.length_take]; omega), ← rc_take, List.getElem?_take, if_pos hk]
theorem ri_at (l : List Rd) (i j : Nat) (e : Rd) (h : i ≤ l.length) (hj : j < 6) : (rc (insL l i e))[i * 6 + j]? = (cl e)[j]? := by
  have hl : (rc (l.take i)).length = i * 6 := by rw [rc_len, List.length_take]; omega
  rw [rc_ins, List.getElem?_append_right (by omega), hl, Nat.add_sub_cancel_left, List.getElem?_append_left (by rw [cl_len]; exact hj)]
theorem ri_gt (l : List Rd) (i j : Nat) (e : Rd) (h : i ≤ l.length) : (rc (insL l i e))[(i + 1) * 6 + j]? = (rc (l.drop i))[j]? := by
  have hl : (rc (l.take i)).length = i * 6 := by rw [rc_len, List.length_take]; omega
  rw [rc_ins, List.getElem?_append_right (by omega), hl, List.getElem?_append_right (by rw [cl_len]; omega), cl_len]
  congr 1
  omega

/-- what Insert gives -/
def InsR (w : World) (v : Value) (m : List Rd) (r : Ending) (w' : World) : Prop :=
  ∃ v', r = .returned v' ∧ w'.ownsRow 0 32 6 v' m.length (rc m) ∧ (v'.ownBlock = v.ownBlock ∨ ∃ N, v'.ownBlock = some N ∧ w.heap.size ≤ N) ∧ w.grownBy w' v.ownBlock

theorem ob (oa : Option Addr) (n c n2 c2 : Nat) : (Value.slice oa n c).ownBlock = (Value.slice oa n2 c2).ownBlock := by cases oa <;> rfl
theorem ins_end (l : List Rd) (e : Rd) : insL l l.length e = l ++ [e] := by simp [insL]
theorem cell_one {w : World} {vb : Nat} {e : Rd} (h : w.heap[vb]? = some (.cells (cl e).toArray 32 (0, 0))) : ∀ j u, (cl e)[j]? = some u → w.cell? ((⟨vb, 0, none⟩ : Addr).add j) = some u := by
  intro j u hj
  rw [Addr.add_lit, Nat.zero_add, cell_of h]
  simpa using hj
theorem cl_one (e : Rd) : ∀ u ∈ cl e, u.oneCell' = true := by
  intro u hu
  exact rc_one [e] u (by simpa [rc] using hu)
theorem own_sl {w : World} {e : TypeId} {v : Value} {n : Nat} {xs : List Value} (h : w.ownsRow 0 e 6 v n xs) : ∃ oa c, v = .slice oa n c := by
  rcases h.2 with ⟨rfl, rfl⟩ | ⟨g, cap, cr, rfl, -⟩
  · exact ⟨none, 0, rfl⟩
  · exact ⟨_, _, rfl⟩
theorem info_p {t : TypeId} {z : Value} {n b : Nat} (h : (Try.prog.info? t).map (fun i => (i.zero, i.size, i.bytes)) = some (some z, n, b)) : ∃ i0, Try.prog.info? t = some i0 ∧ i0.zero = some z ∧ i0.size = n ∧ i0.bytes = b := by
  cases hi : Try.prog.info? t with
  | none => rw [hi] at h; cases h
  | some i0 =>
    rw [hi] at h
    simp at h
    exact ⟨i0, rfl, h.1, h.2.1, h.2.2⟩

set_option maxRecDepth 100000 in
set_option maxHeartbeats 3200000 in
/-- at the end -/
theorem insert_end (v : Value) (l : List Rd) (e : Rd) (vb : Nat) (w : World) (ho : w.ownsRow 0 32 6 v l.length (rc l)) (hl : l.length ≤ 100000) (hv : w.heap[vb]? = some (.cells (cl e).toArray 32 (0, 0))) :
    Calls Try.prog 28 #[v, .int .i64 (l.length : Int), .slice (some ⟨vb, 0, none⟩) 1 1] w (InsR w v (insL l l.length e)) := by
  unfold InsR
  obtain ⟨i0, hi, hx0, hx1, hx2⟩ := info_p info_r
  have INF := hide (And.intro hi (And.intro hx0 (And.intro hx1 hx2)))
  have HO := hide ho
  have HC := hide (cell_one hv)
  obtain ⟨oa, cap, e0, -, hcap⟩ := owns_ra ho
  subst e0
  have hm2 : cap ≤ 9223372036854775807 := by have := hcap.2; simp only [maxLen] at this; omega
  have hcl : (l.length : Int) ≤ (cap : Int) := by have := hcap.1; omega
  have hml : l.length + 1 ≤ maxLen := by simp only [maxLen]; omega
  have hbb : (l.length + 1) * 48 ≤ 140737488355328 := by omega
  have ON := hide (cl_one e)
  have CL := hide (cl_len e)
  have LEN := hide (show (insL l l.length e).length = l.length + 1 from by rw [ins_end]; simp)
  have US := hide (show rc (insL l l.length e) = rc l ++ cl e from by rw [ins_end, rc_app]; simp [rc])
  clear ho hv hi hx0 hx1 hx2 hcap
  generalize cl e = ce at *
  go_enter Try.func28, Try.ntmps28
  go_wp2_with (at_builtin; refine wpList_append_own_at _ rfl _ _ 41 rfl 0 32 i0 (rv zr) 6 48 Try.underlying41 INF.out.1 INF.out.2.1 INF.out.2.2.1 INF.out.2.2.2 rfl (by decide) _ _ _ rfl HO.out ⟨vb, 0, none⟩ 1 1 ce rfl CL.out HC.out ON.out hml hbb (Nat.zero_le _) ?_)
  all_goals
    intro v' w' o1 g1 x1 b1
    clear x1
    obtain ⟨oa', c', rfl⟩ := own_sl o1
    have O1 := hide o1
    rw [ob oa _ _ 0 0] at g1 b1
    have G1 := hide g1
    have B1 := hide b1
    clear o1 g1 b1
    go_wp2_with fail
    go_ret
    refine ⟨_, rfl, by rw [LEN.out, US.out]; exact O1.out, ?_, by rw [ob oa _ _ 0 0]; exact G1.out⟩
    rw [ob oa _ _ 0 0]
    rcases B1.out with q | q
    · exact .inl q
    · exact .inr ⟨_, q, Nat.le_refl _⟩

set_option maxRecDepth 100000 in
set_option maxHeartbeats 3200000 in
/-- inside, where there is room -/
theorem insert_room (g cap : Nat) (l : List Rd) (i : Nat) (e : Rd) (vb : Nat) (w : World) (ho : w.ownsRow 0 32 6 (.slice (some ⟨g, 0, none⟩) l.length cap) l.length (rc l)) (hil : i < l.length) (hrm : l.length + 1 ≤ cap) (hv : w.heap[vb]? = some (.cells (cl e).toArray 32 (0, 0))) (hne : vb ≠ g) :
    Calls Try.prog 28 #[.slice (some ⟨g, 0, none⟩) l.length cap, .int .i64 (i : Int), .slice (some ⟨vb, 0, none⟩) 1 1] w (InsR w (.slice (some ⟨g, 0, none⟩) l.length cap) (insL l i e)) := by
  unfold InsR
  obtain ⟨cur, hg, hsz, hlc, hcm, hcell⟩ := own_cur ho
  have hm2 : cap ≤ 9223372036854775807 := by simp only [maxLen] at hcm; omega
  have hov : ∀ lb cb, (callFunc 35 #[.slice (some ⟨vb, 0, none⟩) 1 1, .slice (some ⟨g, (i + 1) * 6, none⟩) lb cb]).run Try.prog w = .ok (.value (.bool false)) w := fun lb cb => by
    rw [run_callFunc_extern Try.func35 (by kernel_rfl) (by kernel_rfl) (by kernel_rfl) (e := Extern.SlicesOverlaps.overlaps #[41, 41] #[4]) (by kernel_rfl),
      Lib.run_overlaps_apart w 41 4 32 Try.underlying41 6 Try.sizeOf32 ⟨vb, 0, none⟩ ⟨g, (i + 1) * 6, none⟩ 1 1 lb cb hne 32 32 6 (cap * 6) (by simp [World.shape?, hv, cl]) (by simp [World.shape?, hg, hsz]) (by omega) (Ba.frozen_of hv 0) (Ba.frozen_of hv 6)]
    rfl
  have hdl : (rc (l.drop i)).length = (l.length - i) * 6 := by rw [rc_len, List.length_drop]
  have hg' : w.drew.heap[g]? = some (.cells cur 32 (0, 0)) := hg
  have hcp1 : ∀ ty dc sc, (Builtin.copy_ #[41, 41] ty #[.slice (some ⟨g, (i + 1) * 6, none⟩) (l.length - i) dc, .slice (some ⟨g, i * 6, none⟩) (l.length + 1 - i) sc]).run Try.prog w.drew = .ok (goInt ((l.length - i : Nat) : Int)) (w.drew.setCells g ((i + 1) * 6) (rc (l.drop i))) := fun ty dc sc =>
    run_copyN w.drew _ _ ty 32 6 g ((i + 1) * 6) (l.length - i) dc ⟨g, i * 6, none⟩ (l.length + 1 - i) sc (l.length - i) (rc (l.drop i)) Try.underlying41 size_r (by simp only [Nat.min_def]; split <;> omega) hdl
      (fun j v hj => by
        rw [Addr.add_lit, cell_of hg']
        have hlt := (List.getElem?_eq_some_iff.1 hj).1
        rw [hdl] at hlt
        rw [← rc_drop, List.getElem?_drop] at hj
        rw [hcell _ (by omega), hj])
      (fun j hj => by rw [cell_of hg', Array.getElem?_eq_getElem (by omega)]; rfl) (fun j hj => Ba.frozen_of hg' _) (rc_one _)
  obtain ⟨cur1, k1, k2, k3, k4, -⟩ := row_cells g 32 (0, 0) (rc (l.drop i)) ((i + 1) * 6) cur w.drew hg'
  obtain ⟨W1, hW1⟩ : ∃ W1, W1 = w.drew.setCells g ((i + 1) * 6) (rc (l.drop i)) := ⟨_, rfl⟩
  have hv1 : W1.heap[vb]? = some (.cells (cl e).toArray 32 (0, 0)) := by rw [hW1, heap_cells g _ _ _ _ hne]; exact hv
  rw [← hW1] at hcp1 k1
  have hcp2 : ∀ ty dc, (Builtin.copy_ #[41, 41] ty #[.slice (some ⟨g, i * 6, none⟩) (l.length + 1 - i) dc, .slice (some ⟨vb, 0, none⟩) 1 1]).run Try.prog W1 = .ok (goInt 1) (W1.setCells g (i * 6) (cl e)) := fun ty dc =>
    run_copyN W1 _ _ ty 32 6 g (i * 6) (l.length + 1 - i) dc ⟨vb, 0, none⟩ 1 1 1 (cl e) Try.underlying41 size_r (by simp only [Nat.min_def]; split <;> omega) (cl_len e) (cell_one hv1)
      (fun j hj => by rw [cell_of k1, Array.getElem?_eq_getElem (by rw [cl_len] at hj; omega)]; rfl) (fun j hj => Ba.frozen_of k1 _) (cl_one e)
  obtain ⟨cur2, m1, m2, m3, m4, m5⟩ := row_cells g 32 (0, 0) (cl e) (i * 6) cur1 W1 k1
  have FIN : Hid ((W1.setCells g (i * 6) (cl e)).ownsRow 0 32 6 (.slice (some ⟨g, 0, none⟩) (l.length + 1) cap) (insL l i e).length (rc (insL l i e)) ∧ w.grownBy (W1.setCells g (i * 6) (cl e)) (some g)) := by
    refine ⟨?_, ?_⟩
    · have := own_mk (m := insL l i e) m1 (by rw [m2, k2, hsz]) (by rw [ins_len l i e (by omega)]; omega) hcm (fun k hk => by
        rw [ins_len l i e (by omega)] at hk
        by_cases q1 : k < i * 6
        · rw [m3 k q1, k3 k (by omega), ri_lt l i k e (by omega) q1]; exact hcell k (by omega)
        · by_cases q2 : k < (i + 1) * 6
          · obtain ⟨j, rfl⟩ : ∃ j, k = i * 6 + j := ⟨k - i * 6, by omega⟩
            rw [ri_at l i j e (by omega) (by omega)]
            exact m4 j (by rw [cl_len]; omega) (by omega)
          · obtain ⟨j, rfl⟩ : ∃ j, k = (i + 1) * 6 + j := ⟨k - (i + 1) * 6, by omega⟩
            rw [m5 _ (by rw [cl_len]; omega), ri_gt l i j e (by omega)]
            exact k4 j (by rw [hdl]; omega) (by omega))
      rw [ins_len l i e (by omega)] at this ⊢
      exact this
    · have t1 := tape_cells g (rc (l.drop i)) ((i + 1) * 6) w.drew
      rw [← hW1] at t1
      have t2 := tape_cells g (cl e) (i * 6) W1
      refine ⟨t2.2.2.1.trans t1.2.2.1, t2.1.trans t1.1, t2.2.2.2.trans t1.2.2.2, by rw [t2.2.1, t1.2.1]; exact Nat.le_refl _, fun k hk hnk => ?_⟩
      have hkg : k ≠ g := fun e => hnk (by rw [e])
      rw [heap_cells g _ _ _ _ hkg, hW1, heap_cells g _ _ _ _ hkg]
      rfl
  have C1 := hide hcp1
  have C2 := hide hcp2
  have e01 : (i : Int) ≤ (l.length : Int) := by omega
  have e02 : ¬ ((i : Int) = (l.length : Int)) := by omega
  have e03 : ¬ ((cap : Int) < (l.length : Int) + 1) := by omega
  have e04 : (l.length : Int) + 1 ≤ (cap : Int) := by omega
  have e05 : (0 : Int) ≤ (i : Int) + 1 := by omega
  have e06 : (i : Int) + 1 ≤ (l.length : Int) + 1 := by omega
  have e07 : ¬ (cap = i + 1) := by omega
  have e08 : ¬ (cap = i) := by omega
  have e09 : (i : Int) ≤ (l.length : Int) + 1 := by omega
  have e10 : IntKind.i64.wrap ((i : Int) + 1) = (i : Int) + 1 := by rw [IntKind.wrap_i64]; omega
  have e11 : ((i : Int) + 1).toNat = i + 1 := by omega
  clear hW1 hv1 k1 k2 k3 k4 m1 m2 m3 m4 m5 hg hg' hsz hcell hv ho hdl
  generalize hL : l.length = L at *
  generalize rc (l.drop i) = Ud at *
  generalize hF : W1.setCells g (i * 6) (cl e) = WF at *
  clear hF
  go_enter Try.func28, Try.ntmps28
  go_wp2_with (simp only [hov])
  go_region
  clear hcp1
  go_wp2_with fail
  go_ret
  exact ⟨_, rfl, FIN.out.1, .inl rfl, FIN.out.2⟩
set_option maxRecDepth 100000 in
set_option maxHeartbeats 3200000 in
/-- inside, where there is no room -/
theorem insert_grow (g cap : Nat) (l : List Rd) (i : Nat) (e : Rd) (vb : Nat) (w : World) (ho : w.ownsRow 0 32 6 (.slice (some ⟨g, 0, none⟩) l.length cap) l.length (rc l)) (hil : i < l.length) (hl : l.length ≤ 100000) (hrm : cap < l.length + 1) (hv : w.heap[vb]? = some (.cells (cl e).toArray 32 (0, 0))) :
    Calls Try.prog 28 #[.slice (some ⟨g, 0, none⟩) l.length cap, .int .i64 (i : Int), .slice (some ⟨vb, 0, none⟩) 1 1] w (InsR w (.slice (some ⟨g, 0, none⟩) l.length cap) (insL l i e)) := by
  unfold InsR
  obtain ⟨cur, hg, hsz, hlc, hcm, hcell⟩ := own_cur ho
  obtain ⟨i0, hi0, hz0, hzs, hzb⟩ := info_p info_r
  have hm2 : cap ≤ 9223372036854775807 := by simp only [maxLen] at hcm; omega
  have hgw : g < w.heap.size := (Array.getElem?_eq_some_iff.1 hg).1
  have hvw : vb < w.heap.size := (Array.getElem?_eq_some_iff.1 hv).1
  have hold : (Builtin.firstCells i0.size i (.slice (some ⟨g, 0, none⟩) i cap)).run Try.prog w.drew = .ok (rc (l.take i)).toArray w.drew := by
    rw [hzs]
    exact run_firstCells_some w.drew 6 i ⟨g, 0, none⟩ i cap (rc (l.take i)) (by rw [rc_len, List.length_take]; omega) (fun j v hj => by
      rw [Addr.add_lit, Nat.zero_add]
      rw [← rc_take, List.getElem?_take] at hj
      split at hj
      · show w.cell? _ = _
        rw [cell_of hg, hcell _ (by omega), hj]
      · cases hj)
  have hkk : (l.length : Int) + 1 - (i : Int) = ((l.length + 1 - i : Nat) : Int) := by omega
  have hik : i + (l.length + 1 - i) = l.length + 1 := by omega
  have hrz : ∀ ty, (Builtin.append_ #[41, 3] ty #[.slice (some ⟨g, 0, none⟩) i cap, .int .i64 ((l.length : Int) + 1 - (i : Int))]).run Try.prog w =
      .ok (.slice (some ⟨w.heap.size, 0, none⟩) (l.length + 1) (grownCap w (l.length + 1) cap 32)) (w.drew.alloc (.cells ((rc (l.take i)).toArray ++ Builtin.zeroCells (rv zr).cells (l.length + 1 - i) ++ Builtin.zeroCells (rv zr).cells (grownCap w (l.length + 1) cap 32 - (l.length + 1))) 32)) := fun ty => by
    have h := Lib.run_append_grow_zeros w 41 3 ty 32 i0 _ .i64 .i64 Try.underlying41 Try.underlying3 hi0 hz0 (some ⟨g, 0, none⟩) i cap (rc (l.take i)) hold (l.length + 1 - i) (by omega) (by omega) (by omega) (by omega) (by rw [hzb]; omega) (by rw [hzb, hik]; exact growslice_fits hrm (by omega))
    rw [hik] at h
    rw [hkk]
    exact h
  have hGn : l.length + 1 ≤ grownCap w (l.length + 1) cap 32 := grownCap_ge w _ _ _
  have hGm : grownCap w (l.length + 1) cap 32 ≤ maxLen := grownCap_le_maxLen w (l.length + 1) cap 32 (by unfold maxLen; omega)
  generalize grownCap w (l.length + 1) cap 32 = G at hrz hGn hGm
  have hGm2 : G ≤ 9223372036854775807 := by simp only [maxLen] at hGm; omega
  obtain ⟨ROW, hROW⟩ : ∃ ROW : Array Value, ROW = (rc (l.take i)).toArray ++ Builtin.zeroCells (rv zr).cells (l.length + 1 - i) ++ Builtin.zeroCells (rv zr).cells (G - (l.length + 1)) := ⟨_, rfl⟩
  rw [← hROW] at hrz
  have hti : (rc (l.take i)).length = i * 6 := by rw [rc_len, List.length_take]; omega
  have hRl : ROW.size = G * 6 := by
    have hz6 : (rv zr).cells.size = 6 := rfl
    rw [hROW]
    simp only [Array.size_append, List.size_toArray, hti, Builtin.zeroCells, Array.size_map, Array.size_range, hz6]
    omega
  have hRi : ∀ k, k < i * 6 → ROW[k]? = (rc l)[k]? := by
    intro k hk
    rw [hROW, Array.append_assoc, Array.getElem?_append_left (by rw [List.size_toArray, hti]; exact hk), List.getElem?_toArray, ← rc_take, List.getElem?_take, if_pos hk]
  obtain ⟨W1, hW1⟩ : ∃ W1, W1 = w.drew.alloc (.cells ROW 32) := ⟨_, rfl⟩
  have h1 : W1.heap[w.heap.size]? = some (.cells ROW 32 (0, 0)) := by rw [hW1]; exact heap_new w.drew _
  have hv1 : W1.heap[vb]? = some (.cells (cl e).toArray 32 (0, 0)) := by rw [hW1]; exact (Below.heap_alloc w.drew _ vb hvw).trans hv
  have hg1 : W1.heap[g]? = some (.cells cur 32 (0, 0)) := by rw [hW1]; exact (Below.heap_alloc w.drew _ g hgw).trans hg
  have hz1 : W1.heap.size = w.heap.size + 1 := by rw [hW1, World.size_alloc]; rfl
  have ho1 : W1.os = w.os ∧ W1.tape = w.tape ∧ W1.output = w.output ∧ ∀ k, k < w.heap.size → W1.heap[k]? = w.heap[k]? := by
    rw [hW1]; exact ⟨rfl, rfl, rfl, fun k hk => Below.heap_alloc w.drew _ k hk⟩
  rw [← hW1] at hrz
  generalize hN : w.heap.size = N at *
  have hcpA : ∀ ty dc, (Builtin.copy_ #[41, 41] ty #[.slice (some ⟨N, i * 6, none⟩) (l.length + 1 - i) dc, .slice (some ⟨vb, 0, none⟩) 1 1]).run Try.prog W1 = .ok (goInt 1) (W1.setCells N (i * 6) (cl e)) := fun ty dc =>
    run_copyN W1 _ _ ty 32 6 N (i * 6) (l.length + 1 - i) dc ⟨vb, 0, none⟩ 1 1 1 (cl e) Try.underlying41 size_r (by simp only [Nat.min_def]; split <;> omega) (cl_len e) (cell_one hv1)
      (fun j hj => by rw [cell_of h1, Array.getElem?_eq_getElem (by rw [cl_len] at hj; omega)]; rfl) (fun j hj => Ba.frozen_of h1 _) (cl_one e)
  obtain ⟨cur2, m1, m2, m3, m4, -⟩ := row_cells N 32 (0, 0) (cl e) (i * 6) ROW W1 h1
  have hg2 : (W1.setCells N (i * 6) (cl e)).heap[g]? = some (.cells cur 32 (0, 0)) := by rw [heap_cells N _ _ _ _ (by omega)]; exact hg1
  have t2 := tape_cells N (cl e) (i * 6) W1
  have hb2 : ∀ k, k < N → (W1.setCells N (i * 6) (cl e)).heap[k]? = w.heap[k]? := fun k hk => by rw [heap_cells N _ _ _ _ (by omega)]; exact ho1.2.2.2 k hk
  generalize hW2 : W1.setCells N (i * 6) (cl e) = W2 at *
  have hdl : (rc (l.drop i)).length = (l.length - i) * 6 := by rw [rc_len, List.length_drop]
  have hg3 : W2.drew.heap[g]? = some (.cells cur 32 (0, 0)) := hg2
  have m1' : W2.drew.heap[N]? = some (.cells cur2 32 (0, 0)) := m1
  have hcpB : ∀ ty dc sc, (Builtin.copy_ #[41, 41] ty #[.slice (some ⟨N, (i + 1) * 6, none⟩) (l.length - i) dc, .slice (some ⟨g, i * 6, none⟩) (l.length - i) sc]).run Try.prog W2.drew = .ok (goInt ((l.length - i : Nat) : Int)) (W2.drew.setCells N ((i + 1) * 6) (rc (l.drop i))) := fun ty dc sc =>
    run_copyN W2.drew _ _ ty 32 6 N ((i + 1) * 6) (l.length - i) dc ⟨g, i * 6, none⟩ (l.length - i) sc (l.length - i) (rc (l.drop i)) Try.underlying41 size_r (by simp only [Nat.min_def]; split <;> omega) hdl
      (fun j v hj => by
        rw [Addr.add_lit, cell_of hg3]
        have hlt := (List.getElem?_eq_some_iff.1 hj).1
        rw [hdl] at hlt
        rw [← rc_drop, List.getElem?_drop] at hj
        rw [hcell _ (by omega), hj])
      (fun j hj => by rw [cell_of m1', Array.getElem?_eq_getElem (by omega)]; rfl) (fun j hj => Ba.frozen_of m1' _) (rc_one _)
  obtain ⟨cur3, n1, n2, n3, n4, -⟩ := row_cells N 32 (0, 0) (rc (l.drop i)) ((i + 1) * 6) cur2 W2.drew m1'
  have t3 := tape_cells N (rc (l.drop i)) ((i + 1) * 6) W2.drew
  have hb3 : ∀ k, k < N → (W2.drew.setCells N ((i + 1) * 6) (rc (l.drop i))).heap[k]? = w.heap[k]? := fun k hk => by rw [heap_cells N _ _ _ _ (by omega)]; exact hb2 k hk
  generalize hW3 : W2.drew.setCells N ((i + 1) * 6) (rc (l.drop i)) = W3 at *
  have FIN : Hid (W3.ownsRow 0 32 6 (.slice (some ⟨N, 0, none⟩) (l.length + 1) G) (insL l i e).length (rc (insL l i e)) ∧ w.grownBy W3 (some g)) := by
    refine ⟨?_, ?_⟩
    · have := own_mk (m := insL l i e) n1 (by rw [n2, m2, hRl]) (by rw [ins_len l i e (by omega)]; omega) hGm (fun k hk => by
        rw [ins_len l i e (by omega)] at hk
        by_cases q1 : k < i * 6
        · rw [n3 k (by omega), m3 k q1, ri_lt l i k e (by omega) q1]; exact hRi k q1
        · by_cases q2 : k < (i + 1) * 6
          · obtain ⟨j, rfl⟩ : ∃ j, k = i * 6 + j := ⟨k - i * 6, by omega⟩
            rw [ri_at l i j e (by omega) (by omega), n3 _ (by omega)]
            exact m4 j (by rw [cl_len]; omega) (by omega)
          · obtain ⟨j, rfl⟩ : ∃ j, k = (i + 1) * 6 + j := ⟨k - (i + 1) * 6, by omega⟩
            rw [ri_gt l i j e (by omega)]
            exact n4 j (by rw [hdl]; omega) (by omega))
      rw [ins_len l i e (by omega)] at this ⊢
      exact this
    · exact ⟨t3.2.2.1.trans (t2.2.2.1.trans ho1.1), t3.1.trans (t2.1.trans ho1.2.1), t3.2.2.2.trans (t2.2.2.2.trans ho1.2.2.1), by rw [t3.2.1]; show w.heap.size ≤ W2.heap.size; rw [t2.2.1, hz1, hN]; omega, fun k hk hnk => hb3 k (by omega)⟩
  have e01 : (i : Int) ≤ (l.length : Int) := by omega
  have e02 : ¬ ((i : Int) = (l.length : Int)) := by omega
  have e03 : (cap : Int) < (l.length : Int) + 1 := by omega
  have e04 : (i : Int) ≤ (cap : Int) := by omega
  have e05 : (0 : Int) ≤ (i : Int) + 1 := by omega
  have e06 : (i : Int) + 1 ≤ (l.length : Int) + 1 := by omega
  have e07 : ¬ (G = i + 1) := by omega
  have e08 : ¬ (G = i) := by omega
  have e09 : ¬ (cap = i) := by omega
  have e10 : IntKind.i64.wrap ((i : Int) + 1) = (i : Int) + 1 := by rw [IntKind.wrap_i64]; omega
  have e11 : ((i : Int) + 1).toNat = i + 1 := by omega
  have e12 : IntKind.i64.wrap ((l.length : Int) + 1 - (i : Int)) = (l.length : Int) + 1 - (i : Int) := by rw [IntKind.wrap_i64]; omega
  have e13 : (i : Int) ≤ (l.length : Int) + 1 := by omega
  clear hW1 hv1 h1 hg1 hz1 ho1 m1 m1' m2 m3 m4 n1 n2 n3 n4 hg2 hg3 t2 t3 hb2 hb3 hW2 hW3 hg hsz hcell hv ho hdl hold hkk hik hRl hRi hROW hti hi0 hz0 hzs hzb hN
  have HRZ := hide hrz
  clear hrz
  generalize hL : l.length = L at *
  generalize rc (l.drop i) = Ud at *
  go_enter Try.func28, Try.ntmps28
  go_wp2_with (at_builtin; refine Lib.wpList_append_run _ rfl _ _ _ _ rfl _ _ rfl rfl _ _ (HRZ.out _) ?_)
  go_region
  go_wp2_with fail
  go_ret
  exact ⟨_, rfl, FIN.out.1, .inr ⟨_, rfl, Nat.le_refl _⟩, FIN.out.2⟩

theorem insert_any (v : Value) (l : List Rd) (i : Nat) (e : Rd) (vb : Nat) (w : World) (ho : w.ownsRow 0 32 6 v l.length (rc l)) (hil : i ≤ l.length) (hl : l.length ≤ 100000) (hv : w.heap[vb]? = some (.cells (cl e).toArray 32 (0, 0))) (hne : v.ownBlock ≠ some vb) :
    Calls Try.prog 28 #[v, .int .i64 (i : Int), .slice (some ⟨vb, 0, none⟩) 1 1] w (InsR w v (insL l i e)) := by
  by_cases hi : i = l.length
  · subst hi; exact insert_end v l e vb w ho hl hv
  · obtain ⟨x, hx⟩ : ∃ x, l[i]? = some x := ⟨_, List.getElem?_eq_getElem (by omega)⟩
    obtain ⟨oa, cap, rfl, hA, -⟩ := owns_ra ho
    obtain ⟨g, rfl, -⟩ := hA i x hx
    have hng : vb ≠ g := fun q => hne (by rw [q]; rfl)
    by_cases hc : l.length + 1 ≤ cap
    · exact insert_room g cap l i e vb w ho (by omega) hc hv hng
    · exact insert_grow g cap l i e vb w ho (by omega) hl (by omega) hv
end Rk
end Go.Proofs.Ytledfepeoajgoaa
