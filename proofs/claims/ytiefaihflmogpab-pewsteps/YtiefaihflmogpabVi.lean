/- The reference's pew, over this seat's program: First, Has, Add, Take. -/
import Derived.Test.YtiefaihflmogpabVg
import Derived.Test.YtiefaihflmogpabVh
import Derived.Deep.RegionHeld3
import Derived.Deep.AppendLies
import Derived.Deep.RegionLaw
namespace Go.Proofs.Ytiefaihflmogpab
open Go.ChangeShapes Go.WideShapes Go.ChangeAt Go.RowKit
namespace Pe
open Ba
/-- the reference's pew lies in block G, its waiters above it -/
def RP (w : World) (G : Nat) (l : List Wt) : Prop :=
  ∃ v, w.heap[G]? = some (.cells #[v] 29 (0, 0)) ∧ w.ownsRow (G + 1) 37 3 v l.length (wc l) ∧ l.length ≤ 1024
theorem RP.lt {w : World} {G : Nat} {l : List Wt} (h : RP w G l) : G < w.heap.size := by
  obtain ⟨v, h1, h2, h3⟩ := h
  exact heap_lt h1
theorem RP.le {w : World} {G : Nat} {l : List Wt} (h : RP w G l) : l.length ≤ 1024 := by
  obtain ⟨v, h1, h2, h3⟩ := h
  exact h3
theorem RP.at {w : World} {G : Nat} {l : List Wt} (h : RP w G l) : ∃ oa c, w.heap[G]? = some (.cells #[.slice oa l.length c] 29 (0, 0)) ∧ WAt w oa l ∧ l.length ≤ c := by
  obtain ⟨v, h1, h2, h3⟩ := h
  obtain ⟨oa, c, rfl, hA, hc⟩ := owns_wat h2
  exact ⟨oa, c, h1, hA, hc⟩
theorem RP.below {w w' : World} {G : Nat} {l : List Wt} (h : RP w G l) (hb : Below w.heap.size w w') : RP w' G l := by
  obtain ⟨v, h1, h2, h3⟩ := h
  exact ⟨v, heap_below h1 hb, own_below h2 hb, h3⟩
theorem RP.ft {w w' : World} {P G : Nat} {l : List Wt} (h : RP w G l) (k : FT P 58 w w') (hP : P < G) : RP w' G l := by
  obtain ⟨v, h1, h2, h3⟩ := h
  refine ⟨v, k.2 _ _ _ _ h1 (by decide) (by omega), ⟨h2.1, ?_⟩, h3⟩
  rcases h2.2 with q | ⟨g, cap, cur, q1, q2, q3, q4⟩
  · exact .inl q
  · exact .inr ⟨g, cap, cur, q1, q2, k.2 _ _ _ _ q3 (by decide) (by omega), q4⟩
theorem RP.put {w : World} {G : Nat} {l : List Wt} {v0 v : Value} (h1 : w.heap[G]? = some (.cells #[v0] 29 (0, 0))) (h2 : w.ownsRow (G + 1) 37 3 v l.length (wc l)) (h3 : l.length ≤ 1024) : RP (w.setCell ⟨G, 0, none⟩ v) G l := by
  refine ⟨v, (Ba.heap_setCell_same h1 v).trans rfl, ⟨h2.1, ?_⟩, h3⟩
  rcases h2.2 with q | ⟨g, cap, cur, q1, q2, q3, q4⟩
  · exact .inl q
  · exact .inr ⟨g, cap, cur, q1, q2, (Below.heap_setCell _ _ _ _ (by show g ≠ G; omega)).trans q3, q4⟩
theorem size_rw : (Try.prog.info? 37).map (·.size) = some 3 := by kernel_rfl
theorem info_rw : (Try.prog.info? 37).map (fun i => (i.zero, i.size, i.bytes)) = some (some (wv ⟨0, 0, 0⟩), 3, 24) := by kernel_rfl
theorem loadVar_rw {w : World} {b : Nat} {c : Array Value} {t : TypeId} (h : w.heap[b]? = some (.cells c t (0, 0))) (hc : c.size = 3) : (loadVar 37 ⟨b, 0, none⟩).run Try.prog w = .ok (.agg c) w :=
  run_loadVar_row w b t _ _ _ _ h Try.underlying37 rfl (by rw [size_rw, hc])
theorem results_row1 {fn : Func} {p : Tmp} {ty : TypeId} (h : fn.results = #[.cell p ty]) (tmps : Array Value) (w : World) (g : Nat) (cs : Array Value)
    (hp : tmps.getD p undef = .pointer (some ⟨g, 0, none⟩)) (hl : (loadVar ty ⟨g, 0, none⟩).run Try.prog w = .ok (.agg cs) w) :
    (results fn tmps).run Try.prog w = .ok (.agg cs) w := by
  have hp' : tmps[p]?.getD undef = .pointer (some ⟨g, 0, none⟩) := by simpa using hp
  simp [results, h, hp', asAddr, hl]
theorem heap_new2 (w : World) (a b : Obj) : ((w.alloc a).alloc b).heap[w.heap.size + 1]? = some b := by
  have := heap_new (w.alloc a) b
  rw [World.size_alloc] at this
  exact this
theorem ref_any (x : Wt) (w : World) :
    Calls Try.prog 12 #[wv x] w fun r w' => r = .returned (wv x) ∧ Below w.heap.size w w' := by
  unfold wv
  go_enter Try.func12, Try.ntmps12
  go_wp2_with fail
  refine bodyPost_ret (results_row1 Try.results12 _ _ _ _ rfl (loadVar_rw (heap_new2 _ _ _) rfl)) rfl ⟨rfl, btr (below_alloc _ _) (below_alloc _ _)⟩
theorem rfirst_any (G : Nat) (l : List Wt) (w : World) (h : RP w G l) :
    Calls Try.prog 18 #[.pointer (some ⟨G, 0, none⟩)] w fun r w' => r = .returned (.tuple #[wv (fw l), .bool (fo l)]) ∧ Below w.heap.size w w' := by
  obtain ⟨oa, c, h1, hA, _⟩ := h.at
  have hG := heap_lt h1
  have y0 := cell_of h1 0
  simp at y0
  clear h h1
  cases l with
  | nil =>
    clear hA
    go_enter Try.func18, Try.ntmps18
    go_wp2_with fail
    exact bodyPost_ret (results_row2 Try.results18 _ _ _ _ _ rfl rfl (loadVar_rw (heap_new _ _) rfl)) rfl ⟨rfl, below_alloc _ _⟩
  | cons x l =>
    obtain ⟨b, off, rfl, q0, q1, q2⟩ := hA 0 x rfl
    rw [Nat.zero_mul, Nat.add_zero] at q0 q1 q2
    have hb := World.block_lt_of_cell? w _ q0
    simp only at hb
    clear hA
    go_enter Try.func18, Try.ntmps18
    go_wp2_with fail
    exact bodyPost_ret (results_row2 Try.results18 _ _ _ _ _ rfl rfl (loadVar_rw (heap_new _ _) rfl)) rfl ⟨rfl, below_alloc _ _⟩
set_option maxRecDepth 100000 in
set_option maxHeartbeats 1600000 in
theorem rhas_any (G : Nat) (l : List Wt) (g : Int) (w : World) (h : RP w G l) :
    Calls Try.prog 21 #[.pointer (some ⟨G, 0, none⟩), .int .i64 g] w fun r w' => r = .returned (.bool (hasb g l)) ∧ Below w.heap.size w w' := by
  have hle := h.le
  obtain ⟨oa, c, h1, hA, _⟩ := h.at
  have y0 := cell_of h1 0
  simp at y0
  have HA := hide hA
  clear h h1 hA
  go_enter Try.func21, Try.ntmps21
  go_wp2_with fail
  go_loopw [12] (fun i wr => ∃ k : Nat, k ≤ l.length ∧ i = .int .i64 k ∧ hasb g (l.take k) = false ∧ Below w.heap.size w wr) (fun i _ => l.length - (intOf i).toNat)
  case atStart => exact ⟨0, Nat.zero_le _, rfl, rfl, Below.refl _ _⟩
  case round =>
    obtain ⟨k, hk, rfl, hn, hb⟩ := hrel
    have HN := hide hn
    have HB := hide hb
    clear hn hb
    by_cases hlt : k < l.length
    · have hlt' : (k : Int) < (l.length : Int) := by omega
      obtain ⟨x, hx⟩ : ∃ x, l[k]? = some x := ⟨_, List.getElem?_eq_getElem hlt⟩
      obtain ⟨b, off, rfl, q0, q1, q2⟩ := HA.out.below HB.out k x hx
      have HX := hide hx
      clear hx
      cases hg : x.g == g
      · have HN2 : Hid (hasb g (l.take (k + 1)) = false) := by
          show _ = _
          have := HN.out
          unfold hasb at this ⊢
          rw [List.take_add_one, HX.out, List.any_append, this]
          simp [hg]
        go_wp2_with fail
        go_roundw
        case rel => exact ⟨k + 1, by omega, by go_num, HN2.out, btr HB.out (below_alloc _ _)⟩
        case measure => simp [intOf]; omega
      · have HN2 : Hid (hasb g l = true) := by
          show _ = _
          unfold hasb
          rw [List.any_eq_true]
          exact ⟨x, List.mem_of_getElem? HX.out, hg⟩
        go_wp2_with fail
        go_ret
        exact ⟨ret_bool HN2.out.symm, btr HB.out (below_alloc _ _)⟩
    · have hlt' : ¬ ((k : Int) < (l.length : Int)) := by omega
      rw [List.take_of_length_le (by omega)] at HN
      go_wp2_with fail
      go_ret
      exact ⟨ret_bool HN.out.symm, HB.out⟩

theorem step_append_run {ops : Array Oper} (w : World) {o : Oper} {a : Act} {K : Act → World → Prop} {Q : Exit → Act → World → Prop} {E : Prop} (hgd : o.guard = none) (s x : Operand) (t tn : TypeId)
    (ho : o.op = .call { callee := .builtin .append, args := #[s, x], argTypes := #[t, tn] }) (vs vx : Value) (hs : a.eval s = vs) (hx : a.eval x = vx)
    (v' : Value) (w' : World) (hr : (Builtin.append_ #[t, tn] o.type #[vs, vx]).run Try.prog w = .ok v' w') (h : K (a.put o.dst v') w') :
    if Region.wanted o (yielded ops a.tmps) = true then Oper.wp Try.prog o a w K Q else E := by
  have hw : Region.wanted o (yielded ops a.tmps) = true := by simp [Region.wanted, hgd]
  rw [if_pos hw]
  exact Lib.wp_append_run w s x t tn ho vs vx hs hx v' w' hr h
theorem radd_arg (p : Option Addr) (x : Wt) (w : World) (h : okb x = false) :
    Calls Try.prog 11 #[.pointer p, wv x] w fun r w' => r = .returned (.int .i64 1) ∧ Below w.heap.size w w' := by
  have h := (okb_not x).1 h
  unfold wv
  obtain ⟨g, c, v⟩ := x
  simp only at h ⊢
  by_cases h1 : g < 0
  · have d1 : decide (g < 0) = true := decide_eq_true h1
    clear h
    go_enter Try.func11, Try.ntmps11
    go_wp2_with fail
    go_ret
    exact ⟨rfl, below_alloc _ _⟩
  · have d1 : decide (g < 0) = false := decide_eq_false h1
    have d2 : decide (c < -1) = true := decide_eq_true (by omega)
    clear h
    go_enter Try.func11, Try.ntmps11
    go_wp2_with fail
    go_ret
    exact ⟨rfl, below_alloc _ _⟩
theorem radd_full (G : Nat) (l : List Wt) (x : Wt) (w : World) (h : okb x = true) (hG : RP w G l) (hl : l.length = 1024) :
    Calls Try.prog 11 #[.pointer (some ⟨G, 0, none⟩), wv x] w fun r w' => r = .returned (.int .i64 5) ∧ Below w.heap.size w w' := by
  have h := (okb_iff x).1 h
  have hlt := hG.lt
  obtain ⟨oa, c, h1, _, _⟩ := hG.at
  have y0 := cell_of h1 0
  simp at y0
  rw [hl] at y0
  have d1 : decide (x.g < 0) = false := decide_eq_false (by omega)
  have d2 : decide (x.c < -1) = false := decide_eq_false (by omega)
  clear h h1 hG hl
  unfold wv
  go_enter Try.func11, Try.ntmps11
  go_wp2_with fail
  go_ret
  exact ⟨rfl, below_alloc _ _⟩
set_option maxRecDepth 100000 in
set_option maxHeartbeats 1600000 in
theorem radd_ok (G : Nat) (l : List Wt) (x : Wt) (w : World) (h : okb x = true) (hG : RP w G l) (hl : l.length < 1024) :
    Calls Try.prog 11 #[.pointer (some ⟨G, 0, none⟩), wv x] w fun r w' => r = .returned (.int .i64 0) ∧ RP w' G (l ++ [x]) ∧ FT G 37 w w' := by
  have h := (okb_iff x).1 h
  have hlt := hG.lt
  obtain ⟨v0, h1, h2, h3⟩ := hG
  obtain ⟨oa, c, rfl, _, _⟩ := owns_wat h2
  have d1 : decide (x.g < 0) = false := decide_eq_false (by omega)
  have d2 : decide (x.c < -1) = false := decide_eq_false (by omega)
  have d3 : decide (1024 ≤ (l.length : Int)) = false := decide_eq_false (by omega)
  cases hi : Try.prog.info? 37 with
  | none => have := info_rw; rw [hi] at this; cases this
  | some i0 =>
  have hx := info_rw
  rw [hi] at hx
  simp at hx
  have INF := hide (And.intro hi hx)
  clear hx hi h
  have BW := hide (below_alloc w (.cells #[.int .i64 x.g, .int .i64 x.c, .int .i64 x.v] 37))
  have Q := hide (heap_new w (.cells #[.int .i64 x.g, .int .i64 x.c, .int .i64 x.v] 37))
  have HG := hide (heap_below h1 BW.out)
  have OW := hide (own_below h2 BW.out)
  clear h1 h2
  unfold wv
  go_enter Try.func11, Try.ntmps11
  have y0 : (w.alloc (.cells #[.int .i64 x.g, .int .i64 x.c, .int .i64 x.v] 37)).cell? ⟨G, 0, none⟩ = some (.slice oa l.length c) := cell_of HG.out 0
  go_wp2_with fail
  generalize w.alloc (.cells #[.int .i64 x.g, .int .i64 x.c, .int .i64 x.v] 37) = W1 at BW Q HG OW y0 ⊢
  have e0 := cell_of Q.out 0
  have e1 := cell_of Q.out 1
  have e2 := cell_of Q.out 2
  simp at e0 e1 e2
  have f0 := frozen_of HG.out 0
  have NE := hide (own_ty OW.out HG.out (by decide))
  have hG1 : G < W1.heap.size := heap_lt HG.out
  have BD := hide (btr (below_alloc W1 (.cells #[.int .i64 x.g, .int .i64 x.c, .int .i64 x.v] 37)) (bdrew1 _))
  obtain ⟨v', w6, hr, hown, hgrow, _⟩ := run_append_own (P := Try.prog) ((W1.alloc (.cells #[.int .i64 x.g, .int .i64 x.c, .int .i64 x.v] 37)).drew) (G + 1) 27 27 37 i0 (wv ⟨0, 0, 0⟩) 3 24 Try.underlying27 INF.out.1 INF.out.2.1 INF.out.2.2.1 INF.out.2.2.2 rfl (by decide) _ _ _ (own_below OW.out BD.out) ⟨W1.heap.size, 0, none⟩ 1 1 (wc [x]) rfl (src3 W1 x _) (wc_one _) (by unfold maxLen; omega) (by omega) (by show G + 1 ≤ (W1.heap.push _).size; simp; omega)
  rw [← wc_app] at hown
  have hown2 : w6.ownsRow (G + 1) 37 3 v' (l ++ [x]).length (wc (l ++ [x])) := by rw [List.length_append]; exact hown
  obtain ⟨oa', c', rfl, _, _⟩ := owns_wat hown2
  have HG6 := hide ((hgrow.block G (by show G < (W1.heap.push _).size; simp; omega) NE.out).trans (heap_below HG.out BD.out))
  have y6 := cell_of HG6.out 0
  have f6 := frozen_of HG6.out 0
  simp at y6
  have O6 := hide hown2
  have T6 : Hid (∀ (k : Nat) (cc : Array Value) (t : TypeId) (fr : Nat × Nat), W1.heap[k]? = some (.cells cc t fr) → t ≠ 37 → w6.heap[k]? = some (.cells cc t fr)) := by
    intro k cc t fr hk ht
    have hk1 := heap_below hk BD.out
    exact (hgrow.block k (heap_lt hk1) (own_ty (own_below OW.out BD.out) hk1 ht)).trans hk1
  have B6 : Hid (Below (G + 1) w w6) := ((btr BW.out BD.out).mono (by omega)).grown hgrow (by show G + 1 ≤ (W1.heap.push _).size; simp; omega) (fun x hx => ((own_below OW.out BD.out).lt x hx).1)
  have HR := hide hr
  clear hown hown2 hgrow BD hr
  go_region_law (refine step_append_run _ (by rfl) _ _ _ _ (by rfl) _ _ (by rfl) (by rfl) _ _ HR.out ?_)
  all_goals
    go_wp2_with fail
    go_ret
    have hlen : (l ++ [x]).length = l.length + 1 := by simp
    have R6 := RP.put HG6.out O6.out (by rw [hlen]; omega)
    have F6 : FT G 37 w w6 := ⟨B6.out.mono (Nat.le_succ _), fun k cc t fr hk ht _ => T6.out k cc t fr (heap_below hk BW.out) ht⟩
    rw [hlen] at R6
    exact ⟨rfl, R6, F6.setP 0 _⟩
theorem radd_any (G : Nat) (l : List Wt) (x : Wt) (w : World) (hG : RP w G l) :
    Calls Try.prog 11 #[.pointer (some ⟨G, 0, none⟩), wv x] w fun r w' => r = .returned (.int .i64 (ae l x)) ∧ RP w' G (al l x) ∧ FT G 37 w w' := by
  unfold ae al
  cases h : okb x
  · simp only [Bool.false_eq_true, if_false]
    refine (radd_arg _ x w h).mono ?_
    rintro r w1 ⟨rfl, b1⟩
    exact ⟨rfl, hG.below b1, FT.of b1 (Nat.le_of_lt hG.lt)⟩
  · simp only [if_true]
    by_cases hl : l.length = 1024
    · simp only [if_pos hl]
      refine (radd_full G l x w h hG hl).mono ?_
      rintro r w1 ⟨rfl, b1⟩
      exact ⟨rfl, hG.below b1, FT.of b1 (Nat.le_of_lt hG.lt)⟩
    · simp only [if_neg hl]
      exact radd_ok G l x w h hG (by have := hG.le; omega)
end Pe
end Go.Proofs.Ytiefaihflmogpab
