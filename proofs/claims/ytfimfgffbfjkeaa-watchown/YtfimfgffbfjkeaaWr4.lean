/- Layer 16's reference, over this seat's program: a record's clock is written; New. -/
import Derived.Test.YtfimfgffbfjkeaaWr3
import Derived.Laws.IdiomCopy
import Derived.Deep.MidRow
namespace Go.Proofs.Ytfimfgffbfjkeaa
open Go.ChangeShapes Go.WideShapes Go.ChangeAt Go.RowKit
namespace Wq
open Ck
open Ba (KF Bd Nw)

theorem take_set_one (l : List Value) (o : Nat) (v : Value) (h : o < l.length) : (l.set o v).take (o + 1) = l.take o ++ [v] := by
  rw [List.set_eq_take_append_cons_drop, if_pos h]
  have e : (List.take o l ++ v :: List.drop (o + 1) l) = (List.take o l ++ [v]) ++ List.drop (o + 1) l := by simp
  rw [e]
  exact List.take_left' (by simp; omega)
theorem setCells_heap (b : Nat) (t : TypeId) (fr : Nat × Nat) : ∀ (vs : List Value) (o : Nat) (cur : Array Value) (w : World), w.heap[b]? = some (.cells cur t fr) → o + vs.length ≤ cur.size → (w.setCells b o vs).heap[b]? = some (.cells (cur.toList.take o ++ vs ++ cur.toList.drop (o + vs.length)).toArray t fr)
  | [], o, cur, w, h, _ => by simp [World.setCells, h]
  | v :: r, o, cur, w, h, hl => by
    have hl' : o + (r.length + 1) ≤ cur.size := hl
    have ih := setCells_heap b t fr r (o + 1) (cur.setIfInBounds o v) (w.setCell ⟨b, o, none⟩ v) (Ba.heap_setCell_same h v) (by rw [Array.size_setIfInBounds]; omega)
    show ((w.setCell ⟨b, o, none⟩ v).setCells b (o + 1) r).heap[b]? = _
    rw [ih, Array.toList_setIfInBounds, take_set_one _ _ _ (by rw [Array.length_toList]; omega), List.drop_set_of_lt (by omega)]
    have e : o + 1 + r.length = o + (v :: r).length := by rw [List.length_cons]; omega
    rw [e, List.append_assoc (List.take o cur.toList) [v] r]
    rfl
theorem tape_cells (b : Nat) : ∀ (vs : List Value) (o : Nat) (w : World), (w.setCells b o vs).tape = w.tape ∧ (w.setCells b o vs).heap.size = w.heap.size
  | [], _, _ => ⟨rfl, rfl⟩
  | v :: r, o, w => by
    have := tape_cells b r (o + 1) (w.setCell ⟨b, o, none⟩ v)
    refine ⟨this.1.trans rfl, this.2.trans ?_⟩
    simp [World.setCell]
theorem heap_cells (b : Nat) : ∀ (vs : List Value) (o : Nat) (w : World) (k : Nat), k ≠ b → (w.setCells b o vs).heap[k]? = w.heap[k]?
  | [], _, _, _, _ => rfl
  | v :: r, o, w, k, h => (heap_cells b r (o + 1) (w.setCell ⟨b, o, none⟩ v) k h).trans (Below.heap_setCell _ _ _ _ h)
theorem ra_len (F : Nat → Int) : (ra F).toList.length = 256 := by rw [Array.length_toList]; exact ra_size F
theorem kf_setCells {F : Nat → Prop} {a b : World} {z : Nat} (h : KF F a b) (hz : F z) (o : Nat) (vs : List Value) : KF F a (b.setCells z o vs) := by
  have kb := World.keptBut_setCells z (may := fun _ => True) vs o b (fun _ _ => trivial)
  exact ⟨kb.1.trans h.os, (tape_cells z vs o b).1.trans h.tape, kb.2.1.trans h.output, by rw [(tape_cells z vs o b).2]; exact h.size, fun x hx hr => (heap_cells z vs o b x (fun e => hr (by rw [e]; exact hz))).trans (h.block x hx hr)⟩
theorem stv_ra {w : World} {b o : Nat} {F0 : Nat → Int} (F : Nat → Int) (h : RA w b o F0) : (storeVar 59 ⟨b, o, none⟩ (.agg (ra F))).run Try.prog w = .ok () (w.setCells b o (ra F).toList) := by
  have := run_storeCells_cells (P := Try.prog) b o (ra F).toList 0 w (fun j hj => by have q := (h j (by rw [ra_len] at hj; exact hj)).1; simpa using (by rw [q]; rfl : (w.cell? ⟨b, o + j, none⟩).isSome = true)) (fun j hj => by simpa using (h j (by rw [ra_len] at hj; exact hj)).2) (fun v hv => (Array.all_eq_true_iff_forall_mem.1 (ra_one F)) v (by simpa using hv))
  rw [Nat.add_zero] at this
  unfold storeVar
  simp only [Sem.run_bind, Result.andThen_ok, sz_ref]
  rw [if_neg (fun q => q (ra_size F))]
  exact this
theorem ons_cons (o : On) (l : List On) : ons (o :: l) = (onA o).toList ++ ons l := rfl
theorem onA_list (o : On) : (onA o).toList = [Value.int .i64 o.g, Value.int .i64 (o.t : Int)] ++ (ra o.F).toList := by simp [onA]
theorem ons_set {l : List On} {k : Nat} {o : On} (hk : l[k]? = some o) (F' : Nat → Int) : (ons l).take (k * 258 + 2) ++ (ra F').toList ++ (ons l).drop (k * 258 + 2 + 256) = ons (l.set k ⟨o.g, o.t, F'⟩) := by
  obtain ⟨hkl, he⟩ := List.getElem?_eq_some_iff.1 hk
  have e : ons l = (ons (l.take k) ++ [Value.int .i64 o.g, Value.int .i64 (o.t : Int)]) ++ ((ra o.F).toList ++ ons (l.drop (k + 1))) := by
    have : ons l = ons (l.take k) ++ ((onA o).toList ++ ons (l.drop (k + 1))) := by
      rw [← ons_cons, ← ons_app, ← he, List.getElem_cons_drop, List.take_append_drop]
    rw [this, onA_list]
    simp
  have lt : (ons (l.take k) ++ [Value.int .i64 o.g, Value.int .i64 (o.t : Int)]).length = k * 258 + 2 := by
    rw [List.length_append, ons_len, List.length_take, Nat.min_eq_left (by omega)]
    rfl
  rw [List.set_eq_take_append_cons_drop, if_pos hkl, ons_app, ons_cons, onA_list]
  have e1 : (ons l).take (k * 258 + 2) = ons (l.take k) ++ [Value.int .i64 o.g, Value.int .i64 (o.t : Int)] := by rw [e]; exact List.take_left' lt
  have e2 : (ons l).drop (k * 258 + 2 + 256) = ons (l.drop (k + 1)) := by
    rw [e, ← List.append_assoc]
    exact List.drop_left' (by rw [List.length_append, lt, ra_len])
  rw [e1, e2]
  simp
set_option maxRecDepth 100000 in
theorem own_setF {w : World} {g k n c : Nat} {l : List On} {o : On} (F' : Nat → Int) (h : w.ownsRow 0 62 258 (.slice (some ⟨g, 0, none⟩) n c) n (ons l)) (hn : l.length = n) (hk : l[k]? = some o) : (w.setCells g (k * 258 + 2) (ra F').toList).ownsRow 0 62 258 (.slice (some ⟨g, 0, none⟩) n c) n (ons (l.set k ⟨o.g, o.t, F'⟩)) := by
  have hkn : k < n := by rw [← hn]; exact (List.getElem?_eq_some_iff.1 hk).1
  rcases h.2 with ⟨e, -⟩ | ⟨g', cap', cur, e, h0, hg, hle, hmx, hsz, htk⟩
  · cases e
  · cases e
    have hnc : n * 258 ≤ c * 258 := Nat.mul_le_mul_right _ hle
    have h9 := setCells_heap g 62 (0, 0) (ra F').toList (k * 258 + 2) cur w hg (by rw [ra_len, hsz]; omega)
    have hol : (ons l).length = n * 258 := by rw [ons_len, hn]
    have ec : cur.toList = ons l ++ cur.toList.drop (n * 258) := by rw [← htk, List.take_append_drop]
    have el : cur.toList.take (k * 258 + 2) ++ (ra F').toList ++ cur.toList.drop (k * 258 + 2 + (ra F').toList.length) = ons (l.set k ⟨o.g, o.t, F'⟩) ++ cur.toList.drop (n * 258) := by
      rw [ra_len, ← ons_set hk F', List.append_assoc _ _ (cur.toList.drop (n * 258))]
      have a1 : cur.toList.take (k * 258 + 2) = (ons l).take (k * 258 + 2) := by
        rw [← htk, List.take_take, Nat.min_eq_left (by omega)]
      have a2 : cur.toList.drop (k * 258 + 2 + 256) = (ons l).drop (k * 258 + 2 + 256) ++ cur.toList.drop (n * 258) := by
        conv => lhs; rw [ec]
        rw [List.drop_append_of_le_length (by omega)]
      rw [a1, a2]
    rw [el] at h9
    have sl : (ons (l.set k ⟨o.g, o.t, F'⟩)).length = n * 258 := by rw [ons_len, List.length_set, hn]
    refine ⟨sl, .inr ⟨g, c, _, rfl, h0, h9, hle, hmx, ?_, ?_⟩⟩
    · rw [List.size_toArray, List.length_append, sl, List.length_drop, Array.length_toList, hsz]
      omega
    · rw [List.toList_toArray]
      exact List.take_left' sl
theorem QX.setF {w : World} {G g k n c : Nat} {st : Qst} {o : On} (s : QX w G st (.slice (some ⟨g, 0, none⟩) n c)) (hn : st.L.length = n) (hk : st.L[k]? = some o) (F' : Nat → Int) : QX (w.setCells g (k * 258 + 2) (ra F').toList) G { st with L := st.L.set k ⟨o.g, o.t, F'⟩ } (.slice (some ⟨g, 0, none⟩) n c) := by
  have os := s.ow
  rw [hn] at os
  have hgG : g ≠ G := fun e => s.ne (by rw [e]; rfl)
  refine ⟨(heap_cells g _ _ w G (fun e => hgG e.symm)).trans s.hp, ?_, s.ne⟩
  show World.ownsRow _ 0 _ 258 _ (st.L.set k _).length _
  rw [List.length_set, hn]
  exact own_setF F' os hn hk
def upF (F : Nat → Int) (k : Nat) (v : Int) : Nat → Int := fun j => if j = k then v else F j
set_option maxRecDepth 100000 in
theorem rnew_bad (t m : Int) (w : World) (hn : (t < 1 ∨ 256 < t) ∨ m < 1 ∨ 1048576 < m) : Calls Try.prog 7 #[.int .i64 t, .int .i64 m] w fun r w' => r = .returned (.tuple #[.pointer none, .int .i64 1]) ∧ w' = w := by
  have key : ∀ (Gl : Prop), (decide (t < 1) = true → Gl) → (decide (t < 1) = false → decide (256 < t) = true → Gl) → (decide (t < 1) = false → decide (256 < t) = false → decide (m < 1) = true → Gl) → (decide (t < 1) = false → decide (256 < t) = false → decide (m < 1) = false → decide (1048576 < m) = true → Gl) → Gl := by
    intro Gl g1 g2 g3 g4
    by_cases q : t < 1
    · exact g1 (decide_eq_true q)
    · by_cases q2 : 256 < t
      · exact g2 (decide_eq_false q) (decide_eq_true q2)
      · by_cases q3 : m < 1
        · exact g3 (decide_eq_false q) (decide_eq_false q2) (decide_eq_true q3)
        · exact g4 (decide_eq_false q) (decide_eq_false q2) (decide_eq_false q3) (decide_eq_true (by omega))
  refine key _ (fun d1 => ?_) (fun d1 d2 => ?_) (fun d1 d2 d3 => ?_) (fun d1 d2 d3 d4 => ?_)
  all_goals
    clear key hn
    go_enter Try.func7, Try.ntmps7
    go_wp2_with fail
    go_ret2
    exact ⟨rfl, rfl⟩
def o1 : On := ⟨0, 0, upF nf 0 1⟩
set_option maxRecDepth 100000 in
set_option maxHeartbeats 1600000 in
theorem rnew_ok (t m : Nat) (w : World) (ht : 1 ≤ t ∧ t ≤ 256) (hm : 1 ≤ m ∧ m ≤ 1048576) :
    Calls Try.prog 7 #[.int .i64 (t : Int), .int .i64 (m : Int)] w fun r w' => ∃ G v, r = .returned (.tuple #[.pointer (some ⟨G, 0, none⟩), .int .i64 0]) ∧ QX w' G ⟨t, m, [o1]⟩ v ∧ (∀ x, QB G v x → w.heap.size ≤ x) ∧ Below w.heap.size w w' := by
  have d1 : decide ((t : Int) < 1) = false := decide_eq_false (by omega)
  have d2 : decide (256 < (t : Int)) = false := decide_eq_false (by omega)
  have d3 : decide ((m : Int) < 1) = false := decide_eq_false (by omega)
  have d4 : decide (1048576 < (m : Int)) = false := decide_eq_false (by omega)
  have BD := hide built_ref
  have zr := zero_ref
  have zs := ra_size nf
  have st1 := st_ref nf (heap_new w (.cells (ra nf) 59)) (ra_size nf)
  rw [setRow_new] at st1
  have SE : Hid (Calls Try.prog 22 #[.pointer (some ⟨w.heap.size, 0, none⟩), .int .i64 0, .int .i64 1] (w.alloc (.cells (ra nf) 59)) fun r w' => r = .returned (.int .i64 0) ∧ w' = (w.alloc (.cells (ra nf) 59)).setCell ⟨w.heap.size, 0 + 0, none⟩ (.int .i64 1)) := rset_ok w.heap.size 0 nf 0 1 _ (RA.of (heap_new w _)) (by decide) (by decide)
  have H1 : Hid (((w.alloc (.cells (ra nf) 59)).setCell ⟨w.heap.size, 0 + 0, none⟩ (.int .i64 1)).heap[w.heap.size]? = some (.cells (ra (upF nf 0 1)) 59 (0, 0))) := by
    show _ = _
    rw [Ba.heap_setCell_same (heap_new w _), ra_set nf (upF nf 0 1) (0 + 0) 1 (by decide) (fun j => rfl)]
  have B1 : Hid (Below w.heap.size w ((w.alloc (.cells (ra nf) 59)).setCell ⟨w.heap.size, 0 + 0, none⟩ (.int .i64 1))) := (below_alloc w _).setCell (Nat.le_refl _) _
  have BO := hide (built_on1 (upF nf 0 1))
  have BS := hide (fun u => bs_on o1 u)
  have BW := hide (fun a => built_w (t : Int) (m : Int) (some a) 1 1)
  have e1 : onA ⟨0, 0, upF nf 0 1⟩ = onA o1 := rfl
  rw [e1] at BO
  clear e1 ht hm
  have OS := hide (on_size o1)
  have OL : Hid ((onA o1).toList = ons [o1]) := (ons_one o1).symm
  obtain ⟨A1, hA1⟩ : ∃ A1, onA o1 = A1 := ⟨_, rfl⟩
  obtain ⟨V1, hV1⟩ : ∃ V1, ra (upF nf 0 1) = V1 := ⟨_, rfl⟩
  obtain ⟨Z, hZ⟩ : ∃ Z, ra nf = Z := ⟨_, rfl⟩
  rw [hA1] at BO BS OS OL
  rw [hV1] at BO
  rw [hZ] at BD zr zs st1 SE H1 B1
  have HV := hide hV1
  go_enter Try.func7, Try.ntmps7
  go_wp2_with (refine wpL_build rfl 59 _ rfl [] (by first | kernel_rfl | simp) Z BD.out ?_)
  refine SE.out.mono ?_
  rintro r w1 ⟨rfl, e1⟩
  rw [← e1] at H1 B1
  clear e1 st1 zr SE
  have LD := hide (ldv_ref (RA.of H1.out))
  rw [HV.out] at LD
  generalize hN0 : w.heap.size = N0 at *
  have HN := hide hN0
  clear hN0
  go_wp2_with (first
    | refine wpL_load rfl 59 _ rfl _ _ rfl LD.out ?_
    | refine wpL_build rfl 62 _ rfl [(2, .agg V1)] (by first | kernel_rfl | simp [Act.eval]) A1 BO.out ?_
    | refine wpL_bs rfl 37 1 _ rfl #[(0, .agg A1)] (by first | kernel_rfl | simp [Act.eval]) _ _ (BS.out _) ?_
    | refine wpL_build rfl 39 _ rfl [(0, .int .i64 (t : Int)), (1, .int .i64 (m : Int)), (2, .slice (some ⟨w1.heap.size, 0, none⟩) 1 1)] (by first | kernel_rfl | simp [Act.eval]) _ (BW.out _) ?_)
  go_ret2
  have hN := HN.out
  subst hN
  have hs := B1.out.size
  have b2 : Below w1.heap.size w1 ((w1.alloc (.cells A1 62)).alloc (.cells #[.int .i64 (t : Int), .int .i64 (m : Int), .slice (some ⟨w1.heap.size, 0, none⟩) 1 1] 39)) := btr (below_alloc _ _) (below_alloc _ _)
  refine ⟨w1.heap.size + 1, .slice (some ⟨w1.heap.size, 0, none⟩) 1 1, rfl, ⟨?_, ⟨by rw [ons_len], .inr ⟨w1.heap.size, 1, A1, rfl, Nat.zero_le _, ?_, Nat.le_refl _, by decide, by rw [OS.out], ?_⟩⟩, ?_⟩, ?_, B1.out.trans (b2.mono hs)⟩
  · have := heap_new (w1.alloc (.cells A1 62)) (.cells #[.int .i64 (t : Int), .int .i64 (m : Int), .slice (some ⟨w1.heap.size, 0, none⟩) 1 1] 39)
    rwa [World.size_alloc] at this
  · exact Ba.heap_below (heap_new w1 _) (below_alloc _ _)
  · rw [OL.out]
    show (ons [o1]).take (1 * 258) = ons [o1]
    exact List.take_of_length_le (by rw [ons_len]; exact Nat.le_refl _)
  · intro e
    simp only [Value.ownBlock, Option.some.injEq] at e
    omega
  · rintro x (rfl | e)
    · omega
    · simp only [Value.ownBlock, Option.some.injEq] at e
      omega
end Wq
end Go.Proofs.Ytfimfgffbfjkeaa
