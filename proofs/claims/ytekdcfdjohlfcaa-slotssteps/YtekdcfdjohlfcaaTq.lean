/- The reference's slots: New and Close, over this seat's program. -/
import Derived.Test.YtekdcfdjohlfcaaTm
namespace Go.Proofs.Ytekdcfdjohlfcaa
open Go.ChangeShapes Go.WideShapes Go.ChangeAt Go.RowKit
namespace Sl
open Ck
open Ba (KF Bd Nw)

theorem wpL_build2 {P : Program} {ops : Array Oper} {rest : List Oper} {o : Oper} {a : Act} {w : World} {Q : Exit → Act → World → Prop} (hgd : o.guard = none) (t : TypeId) (parts : Array (Nat × Operand)) (ho : o.op = .build t parts) (ps : List (Nat × Value)) (hp : (parts.map fun (i, x) => (i, a.eval x)).toList = ps) (cs : Array Value) (hb : P.built t ps = some cs) (h : wpList P ops Q rest (a.put o.dst (.agg cs)) w) : wpList P ops Q (o :: rest) a w :=
  wpL_build hgd t parts ho cs (by rw [hp]; exact hb) h
theorem rcl_size (st : Rst) (vs vr : Value) : (rcl st vs vr).size = 260 := by simp [rcl, ra_size]
theorem rcl_clg (st : Rst) (vs vr : Value) (F : Nat → Int) : ((rcl st vs vr).toList.take 4 ++ (ra F).toList ++ (rcl st vs vr).toList.drop (4 + (ra F).toList.length)).toArray = rcl { st with clg := F } vs vr := by
  have e : (rcl st vs vr).toList = [Value.int .i64 (st.sz : Int), vs, vr, .bool st.closed] ++ (ra st.clg).toList := by simp [rcl]
  have hd : (rcl st vs vr).toList.drop (4 + (ra F).toList.length) = [] := List.drop_eq_nil_of_le (by rw [Array.length_toList, rcl_size, ra_len]; omega)
  rw [hd, List.append_nil, e]
  simp [rcl]
theorem take_set_one (l : List Value) (o : Nat) (v : Value) (h : o < l.length) : (l.set o v).take (o + 1) = l.take o ++ [v] := by
  rw [List.set_eq_take_append_cons_drop, if_pos h]
  have e : (List.take o l ++ v :: List.drop (o + 1) l) = (List.take o l ++ [v]) ++ List.drop (o + 1) l := by simp
  rw [e]
  exact List.take_left' (by simp; omega)
theorem setCells_heap (b : Nat) (t : TypeId) (fr : Nat × Nat) : ∀ (vs : List Value) (o : Nat) (cur : Array Value) (w : World), w.heap[b]? = some (.cells cur t fr) → o + vs.length ≤ cur.size → (w.setCells b o vs).heap[b]? = some (.cells (cur.toList.take o ++ vs ++ cur.toList.drop (o + vs.length)).toArray t fr)
  | [], o, cur, w, h, _ => by simp [World.setCells, h]
  | v :: r, o, cur, w, h, hl => by
    have hl' : o + (r.length + 1) ≤ cur.size := hl
    have ih := setCells_heap b t fr r (o + 1) (cur.setIfInBounds o v) (w.setCell ⟨b, o, none⟩ v) (Ba.heap_setCell_same h v) (by rw [Array.size_setIfInBounds]; omega)
    show ((w.setCell ⟨b, o, none⟩ v).setCells b (o + 1) r).heap[b]? = _
    rw [ih, Array.toList_setIfInBounds, take_set_one _ _ _ (by rw [Array.length_toList]; omega), List.drop_set_of_lt (by omega)]
    have e : o + 1 + r.length = o + (v :: r).length := by rw [List.length_cons]; omega
    rw [e, List.append_assoc (List.take o cur.toList) [v] r]
    rfl
theorem tape_cells (b : Nat) : ∀ (vs : List Value) (o : Nat) (w : World), (w.setCells b o vs).tape = w.tape ∧ (w.setCells b o vs).heap.size = w.heap.size
  | [], _, _ => ⟨rfl, rfl⟩
  | v :: r, o, w => by
    have := tape_cells b r (o + 1) (w.setCell ⟨b, o, none⟩ v)
    refine ⟨this.1.trans rfl, this.2.trans ?_⟩
    simp [World.setCell]
theorem heap_cells (b : Nat) : ∀ (vs : List Value) (o : Nat) (w : World) (k : Nat), k ≠ b → (w.setCells b o vs).heap[k]? = w.heap[k]?
  | [], _, _, _, _ => rfl
  | v :: r, o, w, k, h => (heap_cells b r (o + 1) (w.setCell ⟨b, o, none⟩ v) k h).trans (Below.heap_setCell _ _ _ _ h)
theorem ra_there {w : World} {b off : Nat} {F : Nat → Int} (h : RA w b off F) : w.there b off 256 := fun k hk => ⟨by rw [(h k hk).1]; rfl, (h k hk).2⟩
theorem kf_setCells {F : Nat → Prop} {a b : World} {z : Nat} (h : KF F a b) (hz : F z) (o : Nat) (vs : List Value) : KF F a (b.setCells z o vs) := by
  have kb := World.keptBut_setCells z (may := fun _ => True) vs o b (fun _ _ => trivial)
  exact ⟨kb.1.trans h.os, (tape_cells z vs o b).1.trans h.tape, kb.2.1.trans h.output, by rw [(tape_cells z vs o b).2]; exact h.size, fun x hx hr => (heap_cells z vs o b x (fun e => hr (by rw [e]; exact hz))).trans (h.block x hx hr)⟩
theorem sc_ra {w : World} {b o : Nat} (F : Nat → Int) (h : w.there b o 256) : (storeCells ⟨b, o, none⟩ (ra F).toList).run Try.prog w = .ok () (w.setCells b o (ra F).toList) := by
  have := run_storeCells_cells (P := Try.prog) b o (ra F).toList 0 w (fun j hj => by simpa using (h j (by rw [ra_len] at hj; exact hj)).1) (fun j hj => by simpa using (h j (by rw [ra_len] at hj; exact hj)).2) (fun v hv => (Array.all_eq_true_iff_forall_mem.1 (ra_one F)) v (by simpa using hv))
  simpa using this
theorem rcl_closed (st : Rst) (vs vr : Value) (b : Bool) : (rcl st vs vr).setIfInBounds 3 (.bool b) = rcl { st with closed := b } vs vr := by
  unfold rcl
  rw [Array.setIfInBounds_append_left (by simp)]
  rfl
set_option maxRecDepth 100000 in
theorem rclose_closed {w : World} {G : Nat} {st : Rst} {vs vr : Value} (s : RX w G st vs vr) (F : Nat → Int) (hc : st.closed = true) :
    Calls Try.prog 16 #[.pointer (some ⟨G, 0, none⟩), .agg (ra F)] w fun r w' => r = .returned (.int .i64 90) ∧ Below w.heap.size w w' := by
  obtain ⟨y0, y1, y2, y3⟩ := s.cells
  rw [hc] at y3
  have hlt := s.lt
  have as_ := ra_size F
  clear s hc
  generalize ra F = A at *
  go_enter Try.func16, Try.ntmps16
  go_wp2_with fail
  exact bodyPost_ret (results_tmp Try.results16 _ _ _) rfl ⟨rfl, below_alloc _ _⟩
set_option maxRecDepth 100000 in
set_option maxHeartbeats 800000 in
theorem rclose_ok {w : World} {G : Nat} {st : Rst} {vs vr : Value} (s : RX w G st vs vr) (F : Nat → Int) (hc : st.closed = false) :
    Calls Try.prog 16 #[.pointer (some ⟨G, 0, none⟩), .agg (ra F)] w fun r w' => r = .returned (.int .i64 0) ∧ RX w' G { st with closed := true, clg := F } vs vr ∧ KF (fun k => k = G) w w' := by
  obtain ⟨y0, y1, y2, y3⟩ := s.cells
  rw [hc] at y3
  have hlt := s.lt
  have f3 : w.frozen? ⟨G, 3, none⟩ = false := frozen_of s.hp 3
  have h2 : ((w.setCell ⟨G, 3, none⟩ (.bool true)).alloc (.cells (ra F) 39)).heap[G]? = some (.cells (rcl { st with closed := true } vs vr) 96 (0, 0)) := by
    rw [Ba.heap_below (Ba.heap_setCell_same s.hp (.bool true)) (below_alloc _ _), rcl_closed]
  have hA : ((w.setCell ⟨G, 3, none⟩ (.bool true)).alloc (.cells (ra F) 39)).heap[w.heap.size]? = some (.cells (ra F) 39 (0, 0)) := by
    have := heap_new (w.setCell ⟨G, 3, none⟩ (.bool true)) (.cells (ra F) 39)
    rw [show (w.setCell ⟨G, 3, none⟩ (.bool true)).heap.size = w.heap.size by simp [World.setCell]] at this
    exact this
  have LD := hide (loadVar_ref hA)
  have rg : RA ((w.setCell ⟨G, 3, none⟩ (.bool true)).alloc (.cells (ra F) 39)) G 4 st.clg := by
    intro j hj
    refine ⟨?_, frozen_of h2 _⟩
    rw [cell_of h2]
    unfold rcl
    rw [Array.getElem?_append_right (by simp)]
    have e : 4 + j - (#[Value.int .i64 (st.sz : Int), vs, vr, .bool true]).size = j := by simp
    rw [e]
    exact ra_at _ j hj
  have stc := sc_ra F (ra_there rg)
  have FIN : Hid (RX (((w.setCell ⟨G, 3, none⟩ (.bool true)).alloc (.cells (ra F) 39)).setCells G 4 (ra F).toList) G { st with closed := true, clg := F } vs vr ∧ KF (fun k => k = G) w (((w.setCell ⟨G, 3, none⟩ (.bool true)).alloc (.cells (ra F) 39)).setCells G 4 (ra F).toList)) := by
    have ks : KF (fun k => k = G) w ((w.setCell ⟨G, 3, none⟩ (.bool true)).alloc (.cells (ra F) 39)) := (KF.set (F := fun k => k = G) (q := G) (KF.refl (fun k => k = G) w) rfl 3 _).alloc _
    have kk : KF (fun k => k = G) w (((w.setCell ⟨G, 3, none⟩ (.bool true)).alloc (.cells (ra F) 39)).setCells G 4 (ra F).toList) :=
      kf_setCells ks rfl 4 _
    have h9 := setCells_heap G 96 (0, 0) (ra F).toList 4 _ _ h2 (by rw [ra_len, rcl_size]; omega)
    rw [rcl_clg] at h9
    refine ⟨⟨h9, own_blk s.os fun g e => ?_, own_blk s.or_ fun g e => ?_, s.ap, s.gs, s.gr⟩, kk⟩
    · exact kk.block g (s.os.lt g e).2 (fun q => s.gs (by rw [← q]; exact e))
    · exact kk.block g (s.or_.lt g e).2 (fun q => s.gr (by rw [← q]; exact e))
  have as_ := ra_size F
  clear s hc h2 hA rg
  generalize ra F = A at *
  go_enter Try.func16, Try.ntmps16
  go_wp2_with (refine wpL_load rfl 39 _ rfl _ _ rfl LD.out ?_)
  exact bodyPost_ret (results_tmp Try.results16 _ _ _) rfl ⟨rfl, FIN.out⟩
def rs0 (n : Nat) : Rst := ⟨n, [], [], false, nf⟩
def nsl : Value := .slice none 0 0
theorem built_r0 (z : Int) : Try.prog.built 96 [(0, .int .i64 z)] = some (#[.int .i64 z, nsl, nsl, .bool false] ++ ra nf) := by kernel_rfl
theorem rnew_no {w : World} {z : Int} (h : z < 0 ∨ 4 < z) (hl : -1000000 ≤ z ∧ z ≤ 1000000000000) :
    Calls Try.prog 6 #[.int .i64 z] w fun r w' => r = .returned (.tuple #[.pointer none, .int .i64 1]) ∧ w' = w := by
  have key : ∀ (Gl : Prop), (decide (z < 0) = true → Gl) → (decide (z < 0) = false → decide (4 < z) = true → Gl) → Gl := by
    intro Gl g1 g2
    by_cases q : z < 0
    · exact g1 (decide_eq_true q)
    · exact g2 (decide_eq_false q) (decide_eq_true (by omega))
  refine key _ (fun d1 => ?_) (fun d1 d2 => ?_)
  all_goals
    clear key h
    go_enter Try.func6, Try.ntmps6
    go_wp2_with fail
    exact bodyPost_ret (results_tmp2 Try.results6 _ _ _) rfl ⟨rfl, rfl⟩
set_option maxRecDepth 100000 in
theorem rnew_ok {w : World} {n : Nat} (h : n ≤ 4) :
    Calls Try.prog 6 #[.int .i64 (n : Int)] w fun r w' => r = .returned (.tuple #[.pointer (some ⟨w.heap.size, 0, none⟩), .int .i64 0]) ∧ RX w' w.heap.size (rs0 n) nsl nsl ∧ w' = w.alloc (.cells (rcl (rs0 n) nsl nsl) 96) := by
  have d1 : decide ((n : Int) < 0) = false := decide_eq_false (by omega)
  have d2 : decide (4 < (n : Int)) = false := decide_eq_false (by omega)
  have BD := hide (built_r0 (n : Int))
  have FIN : Hid (RX (w.alloc (.cells (rcl (rs0 n) nsl nsl) 96)) w.heap.size (rs0 n) nsl nsl) := ⟨heap_new w _, ⟨rfl, .inl ⟨rfl, rfl⟩⟩, ⟨rfl, .inl ⟨rfl, rfl⟩⟩, fun k e => by simp [nsl, Value.ownBlock] at e, by simp [nsl, Value.ownBlock], by simp [nsl, Value.ownBlock]⟩
  have er : #[Value.int .i64 (n : Int), nsl, nsl, .bool false] ++ ra nf = rcl (rs0 n) nsl nsl := rfl
  rw [er] at BD
  have sz := rcl_size (rs0 n) nsl nsl
  clear er
  generalize rcl (rs0 n) nsl nsl = R at *
  generalize (n : Int) = z at *
  go_enter Try.func6, Try.ntmps6
  go_wp2_with (refine wpL_build2 rfl 96 _ rfl [(0, .int .i64 z)] (by first | kernel_rfl | simp [Act.eval]) R BD.out ?_)
  exact bodyPost_ret (results_tmp2 Try.results6 _ _ _) rfl ⟨rfl, FIN.out, rfl⟩
end Sl
end Go.Proofs.Ytekdcfdjohlfcaa
