/- The reference's slots in memory: clocks of 256 cells, by value; New and Peek, over this seat's program. -/
import Derived.Test.YtekdcfdjohlfcaaTh
import Derived.Test.YtekdcfdjohlfcaaRo
namespace Go.Proofs.Ytekdcfdjohlfcaa
open Go.ChangeShapes Go.WideShapes Go.ChangeAt Go.RowKit
namespace Sl
open Ck
open Ba (KF Bd Nw)

section
variable {P : Program} {ops : Array Oper} {rest : List Oper} {o : Oper} {a : Act} {w : World} {Q : Exit → Act → World → Prop}
theorem wpL_load (hgd : o.guard = none) (ty : TypeId) (x : Operand) (ho : o.op = .load ty x) (ad : Addr) (v : Value) (hx : a.eval x = .pointer (some ad)) (hl : (loadVar ty ad).run P w = .ok v w) (h : wpList P ops Q rest (a.put o.dst v) w) : wpList P ops Q (o :: rest) a w :=
  wpList_plain hgd fun _ hK => by
    unfold Oper.wp execOp
    simp only [ho, hx, Instr.loadAt, Instr.sureAddr, Sem.run_bind, Sem.run_pure, Result.andThen_ok, hl]
    exact hK _ _ h
theorem wpL_store (hgd : o.guard = none) (ty : TypeId) (x y : Operand) (ho : o.op = .store ty x y) (ad : Addr) (v : Value) (w' : World) (hx : a.eval x = .pointer (some ad)) (hy : a.eval y = v) (hs : (storeVar ty ad v).run P w = .ok () w') (h : wpList P ops Q rest (a.put o.dst undef) w') : wpList P ops Q (o :: rest) a w :=
  wpList_plain hgd fun _ hK => by
    unfold Oper.wp execOp
    simp only [ho, hx, hy, Instr.storeAt, Instr.sureAddr, Sem.run_bind, Sem.run_pure, Result.andThen_ok, hs]
    exact hK _ _ h
theorem wpL_build (hgd : o.guard = none) (t : TypeId) (parts : Array (Nat × Operand)) (ho : o.op = .build t parts) (cs : Array Value) (hb : P.built t (parts.map fun (i, x) => (i, a.eval x)).toList = some cs) (h : wpList P ops Q rest (a.put o.dst (.agg cs)) w) : wpList P ops Q (o :: rest) a w := by
  refine wpList_build hgd t parts ho (by rw [hb]; rfl) ?_
  rw [hb]
  exact h
end
/-- what was fetched, as a value -/
def fe (F : Nat → Int) (b : Bool) : Array Value := ra F ++ #[.bool b]
theorem fe_size (F : Nat → Int) (b : Bool) : (fe F b).size = 257 := by simp [fe, ra_size]
theorem fe_at (F : Nat → Int) (b : Bool) (k : Nat) (h : k < 256) : (fe F b)[k]? = some (.int .i64 (F k)) := by
  unfold fe
  rw [Array.getElem?_append_left (by rw [ra_size]; exact h)]
  exact ra_at F k h
theorem fe_last (F : Nat → Int) (b : Bool) : (fe F b)[256]? = some (.bool b) := by
  unfold fe
  rw [Array.getElem?_append_right (by rw [ra_size]; exact Nat.le_refl _), ra_size]
  rfl
theorem fe_one (F : Nat → Int) (b : Bool) : (fe F b).all (·.oneCell') = true := by
  unfold fe
  rw [Array.all_append, ra_one]
  simp [Value.oneCell']
set_option maxRecDepth 100000 in
theorem info_f : (Try.prog.info? 44).map (fun i => (i.zero, i.size)) = some (some (.agg (fe nf false)), 257) := by kernel_rfl
theorem zero_f : ∀ w, (zeroValue 44).run Try.prog w = .ok (.agg (fe nf false)) w := (zero_of_info info_f).1
theorem size_f : (Try.prog.info? 44).map (·.size) = some 257 := (zero_of_info info_f).2
set_option maxRecDepth 100000 in
theorem built_f0 : Try.prog.built 44 [] = some (fe nf false) := by kernel_rfl
set_option maxRecDepth 100000 in
theorem built_f1 (F : Nat → Int) (b : Bool) : Try.prog.built 44 [(0, .agg (ra F)), (1, .bool b)] = some (fe F b) := by kernel_rfl
/-- rows of such clocks -/
def rcs (Fs : List (Nat → Int)) : List Value := Fs.flatMap fun F => (ra F).toList
theorem ra_len (F : Nat → Int) : (ra F).toList.length = 256 := by rw [Array.length_toList]; exact ra_size F
theorem rcs_len : ∀ Fs : List (Nat → Int), (rcs Fs).length = Fs.length * 256
  | [] => rfl
  | F :: Fs => by
    show ((ra F).toList ++ rcs Fs).length = _
    rw [List.length_append, ra_len, rcs_len Fs, List.length_cons]
    omega
theorem rcs_app (a b : List (Nat → Int)) : rcs (a ++ b) = rcs a ++ rcs b := by simp [rcs]
theorem rcs_one (F : Nat → Int) : rcs [F] = (ra F).toList := by simp [rcs]
theorem rcs_at : ∀ (Fs : List (Nat → Int)) (k : Nat) (F : Nat → Int) (j : Nat), Fs[k]? = some F → j < 256 → (rcs Fs)[k * 256 + j]? = some (.int .i64 (F j))
  | [], k, F, j, h, _ => by simp at h
  | G :: Fs, 0, F, j, h, hj => by
    cases h
    show ((ra G).toList ++ rcs Fs)[0 * 256 + j]? = _
    rw [List.getElem?_append_left (by rw [ra_len]; omega), Nat.zero_mul, Nat.zero_add, Array.getElem?_toList]
    exact ra_at G j hj
  | G :: Fs, k + 1, F, j, h, hj => by
    show ((ra G).toList ++ rcs Fs)[(k + 1) * 256 + j]? = _
    rw [List.getElem?_append_right (by rw [ra_len]; omega), ra_len]
    have e : (k + 1) * 256 + j - 256 = k * 256 + j := by omega
    rw [e]
    exact rcs_at Fs k F j h hj
theorem rcs_cells (Fs : List (Nat → Int)) : ∀ u ∈ rcs Fs, u.oneCell' = true := by
  intro u hu
  obtain ⟨F, -, h⟩ := List.mem_flatMap.1 hu
  exact (Array.all_eq_true_iff_forall_mem.1 (ra_one F)) u (by simpa using h)
theorem row_ra {w : World} {g n cap k : Nat} {Fs : List (Nat → Int)} {F : Nat → Int} (h : w.ownsRow 0 39 256 (.slice (some ⟨g, 0, none⟩) n cap) n (rcs Fs)) (hk : Fs[k]? = some F) : RA w g (k * 256) F := by
  intro j hj
  have hc := h.cells (g := g) rfl (k * 256 + j) _ (rcs_at Fs k F j hk hj)
  rw [Addr.add_lit, Nat.zero_add] at hc
  refine ⟨hc, ?_⟩
  rcases h.2 with ⟨e, -⟩ | ⟨g', c2, cur, e, -, hg, -⟩
  · cases e
  · cases e
    exact frozen_of hg _
theorem ldv_ref {w : World} {b off : Nat} {F : Nat → Int} (h : RA w b off F) : (loadVar 39 ⟨b, off, none⟩).run Try.prog w = .ok (.agg (ra F)) w := by
  unfold loadVar
  simp [loadCells, ld_ref h]
theorem own_sl' {w : World} {e : TypeId} {size : Nat} {v : Value} {n : Nat} {xs : List Value} (h : w.ownsRow 0 e size v n xs) : ∃ oa c, v = .slice oa n c := by
  rcases h.2 with ⟨rfl, rfl⟩ | ⟨g, cap, cr, rfl, -⟩
  · exact ⟨none, 0, rfl⟩
  · exact ⟨_, _, rfl⟩
theorem own_g' {w : World} {e : TypeId} {size : Nat} {oa : Option Addr} {n c : Nat} {xs : List Value} (h : w.ownsRow 0 e size (.slice oa n c) n xs) (hn : 0 < n) : ∃ g, oa = some ⟨g, 0, none⟩ := by
  rcases h.2 with ⟨e, e2⟩ | ⟨g, c2, cur, e, -⟩
  · omega
  · cases e; exact ⟨g, rfl⟩
/-- the reference's slots -/
structure Rst where
  sz : Nat
  sent : List (Nat → Int)
  recd : List (Nat → Int)
  closed : Bool
  clg : Nat → Int
def rcl (st : Rst) (vs vr : Value) : Array Value := #[.int .i64 (st.sz : Int), vs, vr, .bool st.closed] ++ ra st.clg
structure RX (w : World) (G : Nat) (st : Rst) (vs vr : Value) : Prop where
  hp : w.heap[G]? = some (.cells (rcl st vs vr) 96 (0, 0))
  os : w.ownsRow 0 39 256 vs st.sent.length (rcs st.sent)
  or_ : w.ownsRow 0 39 256 vr st.recd.length (rcs st.recd)
  ap : ∀ k, vs.ownBlock = some k → vr.ownBlock ≠ some k
  gs : vs.ownBlock ≠ some G
  gr : vr.ownBlock ≠ some G
theorem own_below' {w w' : World} {e : TypeId} {size : Nat} {v : Value} {n : Nat} {xs : List Value} (h : w.ownsRow 0 e size v n xs) (hb : Below w.heap.size w w') : w'.ownsRow 0 e size v n xs := by
  refine ⟨h.1, ?_⟩
  rcases h.2 with q | ⟨g, cap, cr, e, h0, hg, q⟩
  · exact .inl q
  · exact .inr ⟨g, cap, cr, e, h0, (hb.block g (Array.getElem?_eq_some_iff.1 hg).1).trans hg, q⟩
theorem RX.below {w w' : World} {G : Nat} {st : Rst} {vs vr : Value} (s : RX w G st vs vr) (hb : Below w.heap.size w w') : RX w' G st vs vr :=
  ⟨Ba.heap_below s.hp hb, own_below' s.os hb, own_below' s.or_ hb, s.ap, s.gs, s.gr⟩
theorem RX.lt {w : World} {G : Nat} {st : Rst} {vs vr : Value} (s : RX w G st vs vr) : G < w.heap.size := (Array.getElem?_eq_some_iff.1 s.hp).1
theorem rcl_lt (st : Rst) (vs vr : Value) (k : Nat) (h : k < 4) : (rcl st vs vr)[k]? = #[Value.int .i64 (st.sz : Int), vs, vr, .bool st.closed][k]? := by
  unfold rcl
  exact Array.getElem?_append_left (by simpa using h)
theorem RX.cells {w : World} {G : Nat} {st : Rst} {vs vr : Value} (s : RX w G st vs vr) : w.cell? ⟨G, 0, none⟩ = some (.int .i64 (st.sz : Int)) ∧ w.cell? ⟨G, 1, none⟩ = some vs ∧ w.cell? ⟨G, 2, none⟩ = some vr ∧ w.cell? ⟨G, 3, none⟩ = some (.bool st.closed) :=
  ⟨(cell_of s.hp 0).trans (rcl_lt _ _ _ 0 (by decide)), (cell_of s.hp 1).trans (rcl_lt _ _ _ 1 (by decide)), (cell_of s.hp 2).trans (rcl_lt _ _ _ 2 (by decide)), (cell_of s.hp 3).trans (rcl_lt _ _ _ 3 (by decide))⟩
theorem RX.clg {w : World} {G : Nat} {st : Rst} {vs vr : Value} (s : RX w G st vs vr) : RA w G 4 st.clg := by
  intro j hj
  refine ⟨?_, frozen_of s.hp _⟩
  rw [cell_of s.hp]
  unfold rcl
  rw [Array.getElem?_append_right (by simp)]
  have e : 4 + j - (#[Value.int .i64 (st.sz : Int), vs, vr, .bool st.closed]).size = j := by simp
  rw [e]
  exact ra_at _ j hj
/-- what the next one fetches -/
def rpk (st : Rst) (send : Bool) : Option (Nat → Int) := if send then (if 0 < st.sz ∧ st.sz ≤ st.sent.length then st.recd[st.sent.length - st.sz]? else none) else st.sent[st.recd.length]?
def rfv : Option (Nat → Int) → Array Value
  | none => fe nf false
  | some F => fe F true
theorem st_fe {w : World} {b : Nat} {old : Array Value} {t : TypeId} (F : Nat → Int) (x : Bool) (h : w.heap[b]? = some (.cells old t (0, 0))) (ho : old.size = 257) : (storeVar 44 ⟨b, 0, none⟩ (.agg (fe F x))).run Try.prog w = .ok () (w.setRow b (fe F x)) := by
  have h1 := run_storeCells_from (P := Try.prog) b t (fe F x).toList 0 old w h (by simp [fe_size, ho]) (fun v hv => (Array.all_eq_true_iff_forall_mem.1 (fe_one F x)) v (by simpa using hv))
  have hs : ∀ w, (sizeOf 44).run Try.prog w = .ok 257 w := fun w => by
    have := size_f
    cases hq : Try.prog.info? 44 with
    | none => rw [hq] at this; simp at this
    | some i =>
      rw [hq] at this
      simp at this
      simp [sizeOf, typeInfo, hq, this]
  unfold storeVar
  have hc : (Value.agg (fe F x)).cells = fe F x := rfl
  simp [hs, hc, fe_size]
  simpa using h1
theorem setRow_fe (w : World) (F G : Nat → Int) (x y : Bool) : (w.alloc (.cells (fe F x) 44)).setRow w.heap.size (fe G y) = w.alloc (.cells (fe G y) 44) := setRow_new w _ _ _
theorem bld_f1 (F : Nat → Int) (b : Bool) (w : World) : (Instr.build 44 #[(0, .agg (ra F)), (1, .bool b)]).run Try.prog w = .ok (.agg (fe F b)) w := run_build w _ _ _ (built_f1 F b)
set_option maxRecDepth 100000 in
theorem fold_f (F : Nat → Int) (b : Bool) : (Array.foldl (fun cs x => cs.setIfInBounds x.snd x.fst) (fe nf false) (ra F).zipIdx 0 256).setIfInBounds 256 (.bool b) = fe F b := by kernel_rfl
theorem fold_l (F : Nat → Int) (b : Bool) : (Array.foldl (fun cs x => cs.setIfInBounds x.snd x.fst) (fe nf false) (ra F).zipIdx 0 256).toList.set 256 (.bool b) = (fe F b).toList := by
  rw [← fold_f F b, Array.toList_setIfInBounds]
theorem fold_s (F : Nat → Int) : (Array.foldl (fun cs x => cs.setIfInBounds x.snd x.fst) (fe nf false) (ra F).zipIdx 0 256).size = 257 := by
  have := congrArg Array.size (fold_f F true)
  rw [Array.size_setIfInBounds, fe_size] at this
  exact this
theorem bld_f0 (w : World) : (Instr.build 44 #[]).run Try.prog w = .ok (.agg (fe nf false)) w := run_build w _ #[] _ built_f0
theorem sc_fe {w : World} {b : Nat} {old : Array Value} {t : TypeId} (F : Nat → Int) (x : Bool) (h : w.heap[b]? = some (.cells old t (0, 0))) (ho : old.size = 257) : (storeCells ⟨b, 0, none⟩ (fe F x).toList).run Try.prog w = .ok () (w.setRow b (fe F x)) := by
  have h1 := run_storeCells_from (P := Try.prog) b t (fe F x).toList 0 old w h (by simp [fe_size, ho]) (fun v hv => (Array.all_eq_true_iff_forall_mem.1 (fe_one F x)) v (by simpa using hv))
  simpa using h1
set_option maxRecDepth 100000 in
set_option maxHeartbeats 800000 in
theorem rpeek_recv {w : World} {G : Nat} {st : Rst} {vs vr : Value} (s : RX w G st vs vr) :
    Calls Try.prog 40 #[.pointer (some ⟨G, 0, none⟩), .bool false] w fun r w' => r = .returned (.agg (rfv (rpk st false))) ∧ Below w.heap.size w w' := by
  obtain ⟨oa, ca, rfl⟩ := own_sl' s.os
  obtain ⟨ob, cb, rfl⟩ := own_sl' s.or_
  obtain ⟨y0, y1, y2, y3⟩ := s.cells
  have hlt := s.lt
  have zf := zero_f
  have HS := hide s
  clear s
  have hpk : rpk st false = st.sent[st.recd.length]? := rfl
  rw [hpk]
  clear hpk
  by_cases hk : st.recd.length < st.sent.length
  · have hk' : (st.recd.length : Int) < (st.sent.length : Int) := by omega
    have d : decide ((st.recd.length : Int) < (st.sent.length : Int)) = true := decide_eq_true hk'
    obtain ⟨F, hF⟩ : ∃ F, st.sent[st.recd.length]? = some F := ⟨_, List.getElem?_eq_getElem hk⟩
    rw [hF]
    obtain ⟨g, rfl⟩ := own_g' HS.out.os (by omega)
    have ra0 := row_ra (HS.out.below (below_alloc w (.cells (fe nf false) 44))).os hF
    have LD := hide (ldv_ref ra0)
    have stf := sc_fe F true (heap_new w (.cells (fe nf false) 44)) (fe_size nf false)
    rw [setRow_fe] at stf
    have ff := fold_f F true
    have fl := fold_l F true
    have fs := fold_s F
    have as_ := ra_size F
    have zs := fe_size nf false
    have hrs := fe_size F true
    have HSZ : Hid ((Try.prog.info? 44).map (·.size) = some (fe F true).size) := by show _ = _; rw [size_f, fe_size]
    clear ra0 hF
    have erv : rfv (some F) = fe F true := rfl
    rw [erv]
    generalize st.recd.length = a at *
    generalize st.sent.length = b at *
    generalize ra F = A at *
    generalize fe F true = R at *
    generalize fe nf false = Z at *
    clear HS erv
    go_enter Try.func40, Try.ntmps40
    go_wp2_with (refine wpL_load rfl 39 _ rfl _ _ rfl LD.out ?_)
    exact bodyPost_ret (results_cell_row Try.results40 _ _ _ _ _ _ _ rfl (heap_new w _) Try.underlying44 rfl HSZ.out) rfl ⟨rfl, below_alloc _ _⟩
  · have d : decide ((st.recd.length : Int) < (st.sent.length : Int)) = false := decide_eq_false (by omega)
    have hk' : ¬ (st.recd.length : Int) < (st.sent.length : Int) := by omega
    have hF : st.sent[st.recd.length]? = none := List.getElem?_eq_none (by omega)
    rw [hF]
    have stf := sc_fe nf false (heap_new w (.cells (fe nf false) 44)) (fe_size nf false)
    rw [setRow_fe] at stf
    have b0 := bld_f0
    have hrs := fe_size nf false
    have HSZ : Hid ((Try.prog.info? 44).map (·.size) = some (fe nf false).size) := by show _ = _; rw [size_f, fe_size]
    clear hF
    have erv : rfv none = fe nf false := rfl
    rw [erv]
    generalize st.recd.length = a at *
    generalize st.sent.length = b at *
    generalize fe nf false = Z at *
    clear HS erv
    go_enter Try.func40, Try.ntmps40
    go_wp2_with fail
    exact bodyPost_ret (results_cell_row Try.results40 _ _ _ _ _ _ _ rfl (heap_new w _) Try.underlying44 rfl HSZ.out) rfl ⟨rfl, below_alloc _ _⟩
end Sl
end Go.Proofs.Ytekdcfdjohlfcaa
