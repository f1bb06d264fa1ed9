/- Package entry: spans of Send, Recv, Park, Wake, over this seat's program. -/
import Derived.Test.YtakbbhngcdccpaaGreatNb
import Derived.Deep.RegionHeld3
namespace Go.Proofs.YtakbbhngcdccpaaGreat
open Go.ChangeShapes Go.WideShapes Go.ChangeAt Go.RowKit
namespace En
open Ba Re

theorem cellB {w w' : World} {b i : Nat} {v : Value} (h : w.cell? ⟨b, i, none⟩ = some v) (hb : Below w.heap.size w w') : w'.cell? ⟨b, i, none⟩ = some v := (hb.cell (World.block_lt_of_cell? w _ h)).trans h
theorem cellS {w : World} {b i R j : Nat} {v u : Value} (h : w.cell? ⟨b, i, none⟩ = some v) (hb : b ≠ R) : (w.setCell ⟨R, j, none⟩ u).cell? ⟨b, i, none⟩ = some v := ((KB.refl R w).setCell j u).cell h hb
/-- what spans holds in memory: the event, the result, two spans, the row under way -/
structure SpW (w u : World) (N : Nat) (e : Ev) (r : List Int) : Prop where
  ev : u.heap[N]? = some (.cells (evc e) 23 (0, 0))
  rs : u.heap[N + 1]? = some (.cells #[.int .i64 0, .int .i64 0, .int .i64 0, .int .i64 0, .int .i64 0, .int .i64 0, .int .i64 0, .int .i64 0, .int .i64 0, .int .i64 0] 138 (0, 0))
  no : u.heap[N + 1 + 1]? = some (.cells #[.int .i64 (-1), .int .i64 (-1)] 137 (0, 0))
  nu : u.heap[N + 1 + 1 + 1]? = some (.cells #[.int .i64 0, .int .i64 511] 137 (0, 0))
  rw : u.heap[N + 1 + 1 + 1 + 1]? = some (.cells (row r) 138 (0, 0))
  ln : r.length = 10
  b : Below N w u
theorem SpW.below {w u v : World} {N : Nat} {e : Ev} {r : List Int} (h : SpW w u N e r) (hb : Below u.heap.size u v) : SpW w v N e r :=
  ⟨heap_below h.ev hb, heap_below h.rs hb, heap_below h.no hb, heap_below h.nu hb, heap_below h.rw hb, h.ln, h.b.trans (hb.mono (by have := Ba.heap_lt h.ev; omega))⟩
theorem row_set (m : List Int) (k : Nat) (x : Int) : (row m).setIfInBounds k (.int .i64 x) = row (m.set k x) := by
  apply Array.ext
  · simp [row]
  · intro j h1 h2
    simp [row, List.getElem_set]
theorem SpW.set {w u : World} {N : Nat} {e : Ev} {r : List Int} (h : SpW w u N e r) (i : Nat) (x : Int) : SpW w (u.setCell ⟨N + 1 + 1 + 1 + 1, i, none⟩ (.int .i64 x)) N e (r.set i x) := by
  have K := (KB.refl (N + 1 + 1 + 1 + 1) u).setCell i (.int .i64 x)
  exact ⟨K.heap h.ev (by omega), K.heap h.rs (by omega), K.heap h.no (by omega), K.heap h.nu (by omega), (Ba.heap_setCell_same h.rw _).trans (by rw [row_set]), by rw [List.length_set]; exact h.ln, h.b.setCell (p := ⟨N + 1 + 1 + 1 + 1, i, none⟩) (by show N ≤ N + 1 + 1 + 1 + 1; omega) _⟩
theorem SpW.start (w : World) (e : Ev) : SpW w (((((w.alloc (.cells (evc e) 23)).alloc (.cells #[.int .i64 0, .int .i64 0, .int .i64 0, .int .i64 0, .int .i64 0, .int .i64 0, .int .i64 0, .int .i64 0, .int .i64 0, .int .i64 0] 138)).alloc (.cells #[.int .i64 (-1), .int .i64 (-1)] 137)).alloc (.cells #[.int .i64 0, .int .i64 511] 137)).alloc (.cells (row [0, 511, -1, -1, -1, -1, -1, -1, -1, -1]) 138)) w.heap.size e [0, 511, -1, -1, -1, -1, -1, -1, -1, -1] := by
  have s1 := World.size_alloc w (.cells (evc e) 23)
  have s2 := World.size_alloc (w.alloc (.cells (evc e) 23)) (.cells #[.int .i64 0, .int .i64 0, .int .i64 0, .int .i64 0, .int .i64 0, .int .i64 0, .int .i64 0, .int .i64 0, .int .i64 0, .int .i64 0] 138)
  refine ⟨heap_below (heap_new _ _) (btr (btr (btr (below_alloc _ _) (below_alloc _ _)) (below_alloc _ _)) (below_alloc _ _)), in5 _ _ _ _ _ _, ?_, ?_, ?_, rfl, below5 _ _ _ _ _ _⟩
  · have q := heap_new2 (w.alloc (.cells (evc e) 23)) (.cells #[.int .i64 0, .int .i64 0, .int .i64 0, .int .i64 0, .int .i64 0, .int .i64 0, .int .i64 0, .int .i64 0, .int .i64 0, .int .i64 0] 138) (.cells #[.int .i64 (-1), .int .i64 (-1)] 137)
    rw [s1] at q
    exact heap_below q (btr (below_alloc _ _) (below_alloc _ _))
  · have q := heap_new2 ((w.alloc (.cells (evc e) 23)).alloc (.cells #[.int .i64 0, .int .i64 0, .int .i64 0, .int .i64 0, .int .i64 0, .int .i64 0, .int .i64 0, .int .i64 0, .int .i64 0, .int .i64 0] 138)) (.cells #[.int .i64 (-1), .int .i64 (-1)] 137) (.cells #[.int .i64 0, .int .i64 511] 137)
    rw [s2, s1] at q
    exact heap_below q (below_alloc _ _)
  · have q := heap_new2 (((w.alloc (.cells (evc e) 23)).alloc (.cells #[.int .i64 0, .int .i64 0, .int .i64 0, .int .i64 0, .int .i64 0, .int .i64 0, .int .i64 0, .int .i64 0, .int .i64 0, .int .i64 0] 138)).alloc (.cells #[.int .i64 (-1), .int .i64 (-1)] 137)) (.cells #[.int .i64 0, .int .i64 511] 137) (.cells (row [0, 511, -1, -1, -1, -1, -1, -1, -1, -1]) 138)
    rw [World.size_alloc, s2, s1] at q
    exact q
theorem ten_set {w : World} {b : Nat} {z : List Int} {t : TypeId} (hz : z.length = 10) (h : w.heap[b]? = some (.cells (row z) t (0, 0))) (x0 x1 x2 x3 x4 x5 x6 x7 x8 x9 : Int) : (((((((((((w.setCell ⟨b, 0, none⟩ ((.int .i64 x0))).setCell ⟨b, 1, none⟩ ((.int .i64 x1))).setCell ⟨b, 2, none⟩ ((.int .i64 x2))).setCell ⟨b, 3, none⟩ ((.int .i64 x3))).setCell ⟨b, 4, none⟩ ((.int .i64 x4))).setCell ⟨b, 5, none⟩ ((.int .i64 x5))).setCell ⟨b, 6, none⟩ ((.int .i64 x6))).setCell ⟨b, 7, none⟩ ((.int .i64 x7))).setCell ⟨b, 8, none⟩ ((.int .i64 x8))).setCell ⟨b, 9, none⟩ ((.int .i64 x9)))).heap[b]? = some (.cells (row [x0, x1, x2, x3, x4, x5, x6, x7, x8, x9]) t (0, 0)) := by
  have q := (Ba.heap_setCell_same (i := 9) (Ba.heap_setCell_same (i := 8) (Ba.heap_setCell_same (i := 7) (Ba.heap_setCell_same (i := 6) (Ba.heap_setCell_same (i := 5) (Ba.heap_setCell_same (i := 4) (Ba.heap_setCell_same (i := 3) (Ba.heap_setCell_same (i := 2) (Ba.heap_setCell_same (i := 1) (Ba.heap_setCell_same (i := 0) h (.int .i64 x0)) (.int .i64 x1)) (.int .i64 x2)) (.int .i64 x3)) (.int .i64 x4)) (.int .i64 x5)) (.int .i64 x6)) (.int .i64 x7)) (.int .i64 x8)) (.int .i64 x9))
  simp only [row_set] at q
  rw [q]
  match z, hz with
  | [_, _, _, _, _, _, _, _, _, _], _ => rfl
theorem ten_below {n : Nat} {w v : World} {b : Nat} (h : Below n w v) (hb : n ≤ b) (u0 u1 u2 u3 u4 u5 u6 u7 u8 u9 : Value) : Below n w (((((((((((v.setCell ⟨b, 0, none⟩ (u0)).setCell ⟨b, 1, none⟩ (u1)).setCell ⟨b, 2, none⟩ (u2)).setCell ⟨b, 3, none⟩ (u3)).setCell ⟨b, 4, none⟩ (u4)).setCell ⟨b, 5, none⟩ (u5)).setCell ⟨b, 6, none⟩ (u6)).setCell ⟨b, 7, none⟩ (u7)).setCell ⟨b, 8, none⟩ (u8)).setCell ⟨b, 9, none⟩ (u9))) :=
  ((((((((((h.setCell (p := ⟨b, 0, none⟩) hb u0).setCell (p := ⟨b, 1, none⟩) hb u1).setCell (p := ⟨b, 2, none⟩) hb u2).setCell (p := ⟨b, 3, none⟩) hb u3).setCell (p := ⟨b, 4, none⟩) hb u4).setCell (p := ⟨b, 5, none⟩) hb u5).setCell (p := ⟨b, 6, none⟩) hb u6).setCell (p := ⟨b, 7, none⟩) hb u7).setCell (p := ⟨b, 8, none⟩) hb u8).setCell (p := ⟨b, 9, none⟩) hb u9)
set_option maxRecDepth 100000 in
set_option maxHeartbeats 6400000 in
theorem spans3 (e : Ev) (w : World) (hk : e.k = 3) :
    Calls Tryz.prog 98 #[evv e] w fun r w' => r = .returned (.agg (row (spn e))) ∧ Below w.heap.size w w' := by
  have HS : Hid (spn e = [0, 511, 0, 511, -1, 3, 0, vm e, ml e, mh e]) := by show _ = _; unfold spn; simp [hk]
  have S1 := hide (SpW.start w e)
  have VA := hide fun u => values_any e u
  have MA := hide fun u => mates_any e u
  obtain ⟨k, g, c, a, v, m, s, o⟩ := e
  simp only at hk
  subst hk
  generalize vm (Ev.mk 3 g c a v m s o) = xv at HS VA
  generalize ml (Ev.mk 3 g c a v m s o) = xl at HS MA
  generalize mh (Ev.mk 3 g c a v m s o) = xh at HS MA
  generalize spn (Ev.mk 3 g c a v m s o) = sp at HS ⊢
  obtain rfl := HS.out
  clear HS
  unfold evv evc at VA MA ⊢
  simp only at VA MA
  simp only [evc, row, List.map_cons, List.map_nil] at S1
  go_enter Tryz.func98, Tryz.ntmps98
  go_wp2_with fail
  generalize (((((w.alloc (.cells #[.int .i64 3, .int .i64 g, .int .i64 c, .int .i64 a, .int .i64 v, .int .i64 m, .bool s, .bool o] 23)).alloc (.cells #[.int .i64 0, .int .i64 0, .int .i64 0, .int .i64 0, .int .i64 0, .int .i64 0, .int .i64 0, .int .i64 0, .int .i64 0, .int .i64 0] 138)).alloc (.cells #[.int .i64 (-1), .int .i64 (-1)] 137)).alloc (.cells #[.int .i64 0, .int .i64 511] 137)).alloc (.cells #[.int .i64 0, .int .i64 511, .int .i64 (-1), .int .i64 (-1), .int .i64 (-1), .int .i64 (-1), .int .i64 (-1), .int .i64 (-1), .int .i64 (-1), .int .i64 (-1)] 138)) = W at S1 ⊢
  generalize hN : w.heap.size = N at S1 ⊢
  have HN := hide hN
  clear hN
  have y0 : W.cell? ⟨N, 0, none⟩ = some (.int .i64 3) := cell_of S1.out.ev 0
  have y1 : W.cell? ⟨N, 1, none⟩ = some (.int .i64 g) := cell_of S1.out.ev 1
  have y2 : W.cell? ⟨N, 2, none⟩ = some (.int .i64 c) := cell_of S1.out.ev 2
  have y3 : W.cell? ⟨N, 3, none⟩ = some (.int .i64 a) := cell_of S1.out.ev 3
  have y4 : W.cell? ⟨N, 4, none⟩ = some (.int .i64 v) := cell_of S1.out.ev 4
  have y5 : W.cell? ⟨N, 5, none⟩ = some (.int .i64 m) := cell_of S1.out.ev 5
  have y6 : W.cell? ⟨N, 6, none⟩ = some (.bool s) := cell_of S1.out.ev 6
  have y7 : W.cell? ⟨N, 7, none⟩ = some (.bool o) := cell_of S1.out.ev 7
  have n0 : W.cell? ⟨N + 1 + 1 + 1, 0, none⟩ = some (.int .i64 0) := cell_of S1.out.nu 0
  have n1 : W.cell? ⟨N + 1 + 1 + 1, 1, none⟩ = some (.int .i64 511) := cell_of S1.out.nu 1
  go_region_held3 (fun w' => w'.cell? ⟨N, 0, none⟩ = some (.int .i64 3) ∧ w'.cell? ⟨N, 1, none⟩ = some (.int .i64 g) ∧ w'.cell? ⟨N, 2, none⟩ = some (.int .i64 c) ∧ w'.cell? ⟨N, 3, none⟩ = some (.int .i64 a) ∧ w'.cell? ⟨N, 4, none⟩ = some (.int .i64 v) ∧ w'.cell? ⟨N, 5, none⟩ = some (.int .i64 m) ∧ w'.cell? ⟨N, 6, none⟩ = some (.bool s) ∧ w'.cell? ⟨N, 7, none⟩ = some (.bool o) ∧ w'.cell? ⟨N + 1 + 1 + 1, 0, none⟩ = some (.int .i64 0) ∧ w'.cell? ⟨N + 1 + 1 + 1, 1, none⟩ = some (.int .i64 511))
    (first
      | (go_split_ands; refine ⟨?_, ?_, ?_, ?_, ?_, ?_, ?_, ?_, ?_, ?_⟩ <;> (with_reducible (refine cellS (cellS ?_ ?_) ?_)) <;> (first | with_reducible assumption | omega))
      | (go_split_ands; refine ⟨?_, ?_, ?_, ?_, ?_, ?_, ?_, ?_, ?_, ?_⟩ <;> (with_reducible (refine cellB ?_ c5)) <;> with_reducible assumption)
      | go_keep)
    ((go_at_call 112; refine (VA.out _).mono ?_; rintro r w5 ⟨rfl, c5⟩; have S5 := hide ((S1.out.below (bdrew1 _)).below c5); have r2 : w5.cell? ⟨N + 1 + 1 + 1 + 1, 2, none⟩ = some (.int .i64 (-1)) := cell_of S5.out.rw 2; have r3 : w5.cell? ⟨N + 1 + 1 + 1 + 1, 3, none⟩ = some (.int .i64 (-1)) := cell_of S5.out.rw 3; have r4 : w5.cell? ⟨N + 1 + 1 + 1 + 1, 4, none⟩ = some (.int .i64 (-1)) := cell_of S5.out.rw 4; have r5 : w5.cell? ⟨N + 1 + 1 + 1 + 1, 5, none⟩ = some (.int .i64 (-1)) := cell_of S5.out.rw 5; have r6 : w5.cell? ⟨N + 1 + 1 + 1 + 1, 6, none⟩ = some (.int .i64 (-1)) := cell_of S5.out.rw 6; have r7 : w5.cell? ⟨N + 1 + 1 + 1 + 1, 7, none⟩ = some (.int .i64 (-1)) := cell_of S5.out.rw 7; have z2 := frozen_of S5.out.rw 2; have z3 := frozen_of S5.out.rw 3; have z4 := frozen_of S5.out.rw 4; have z5 := frozen_of S5.out.rw 5; have z6 := frozen_of S5.out.rw 6; have z7 := frozen_of S5.out.rw 7))
  have S6 : Hid (SpW w ((((((w5.setCell ⟨N + 1 + 1 + 1 + 1, 2, none⟩ (.int .i64 0)).setCell ⟨N + 1 + 1 + 1 + 1, 3, none⟩ (.int .i64 511)).setCell ⟨N + 1 + 1 + 1 + 1, 4, none⟩ (.int .i64 (-1))).setCell ⟨N + 1 + 1 + 1 + 1, 5, none⟩ (.int .i64 3)).setCell ⟨N + 1 + 1 + 1 + 1, 6, none⟩ (.int .i64 0)).setCell ⟨N + 1 + 1 + 1 + 1, 7, none⟩ (.int .i64 xv)) N (Ev.mk 3 g c a v m s o) [0, 511, 0, 511, -1, 3, 0, xv, -1, -1]) := ((((((S5.out.set 2 0).set 3 511).set 4 (-1)).set 5 3).set 6 0).set 7 xv)
  clear S5 S1 c5
  generalize ((((((w5.setCell ⟨N + 1 + 1 + 1 + 1, 2, none⟩ (.int .i64 0)).setCell ⟨N + 1 + 1 + 1 + 1, 3, none⟩ (.int .i64 511)).setCell ⟨N + 1 + 1 + 1 + 1, 4, none⟩ (.int .i64 (-1))).setCell ⟨N + 1 + 1 + 1 + 1, 5, none⟩ (.int .i64 3)).setCell ⟨N + 1 + 1 + 1 + 1, 6, none⟩ (.int .i64 0)).setCell ⟨N + 1 + 1 + 1 + 1, 7, none⟩ (.int .i64 xv)) = U at S6 ⊢
  have y0 : U.cell? ⟨N, 0, none⟩ = some (.int .i64 3) := cell_of S6.out.ev 0
  have y1 : U.cell? ⟨N, 1, none⟩ = some (.int .i64 g) := cell_of S6.out.ev 1
  have y2 : U.cell? ⟨N, 2, none⟩ = some (.int .i64 c) := cell_of S6.out.ev 2
  have y3 : U.cell? ⟨N, 3, none⟩ = some (.int .i64 a) := cell_of S6.out.ev 3
  have y4 : U.cell? ⟨N, 4, none⟩ = some (.int .i64 v) := cell_of S6.out.ev 4
  have y5 : U.cell? ⟨N, 5, none⟩ = some (.int .i64 m) := cell_of S6.out.ev 5
  have y6 : U.cell? ⟨N, 6, none⟩ = some (.bool s) := cell_of S6.out.ev 6
  have y7 : U.cell? ⟨N, 7, none⟩ = some (.bool o) := cell_of S6.out.ev 7
  go_wp2_with fail
  refine (MA.out _).mono ?_
  rintro r w7 ⟨rfl, b7⟩
  have S7 := hide (S6.out.below b7)
  clear b7 S6 VA MA
  have r0 : w7.cell? ⟨N + 1 + 1 + 1 + 1, 0, none⟩ = some (.int .i64 0) := cell_of S7.out.rw 0
  have r1 : w7.cell? ⟨N + 1 + 1 + 1 + 1, 1, none⟩ = some (.int .i64 511) := cell_of S7.out.rw 1
  have r2 : w7.cell? ⟨N + 1 + 1 + 1 + 1, 2, none⟩ = some (.int .i64 0) := cell_of S7.out.rw 2
  have r3 : w7.cell? ⟨N + 1 + 1 + 1 + 1, 3, none⟩ = some (.int .i64 511) := cell_of S7.out.rw 3
  have r4 : w7.cell? ⟨N + 1 + 1 + 1 + 1, 4, none⟩ = some (.int .i64 (-1)) := cell_of S7.out.rw 4
  have r5 : w7.cell? ⟨N + 1 + 1 + 1 + 1, 5, none⟩ = some (.int .i64 3) := cell_of S7.out.rw 5
  have r6 : w7.cell? ⟨N + 1 + 1 + 1 + 1, 6, none⟩ = some (.int .i64 0) := cell_of S7.out.rw 6
  have r7 : w7.cell? ⟨N + 1 + 1 + 1 + 1, 7, none⟩ = some (.int .i64 xv) := cell_of S7.out.rw 7
  have r8 : w7.cell? ⟨N + 1 + 1 + 1 + 1, 8, none⟩ = some (.int .i64 (-1)) := cell_of S7.out.rw 8
  have r9 : w7.cell? ⟨N + 1 + 1 + 1 + 1, 9, none⟩ = some (.int .i64 (-1)) := cell_of S7.out.rw 9
  have t0 : w7.cell? ⟨N + 1, 0, none⟩ = some (.int .i64 0) := cell_of S7.out.rs 0
  have t1 : w7.cell? ⟨N + 1, 1, none⟩ = some (.int .i64 0) := cell_of S7.out.rs 1
  have t2 : w7.cell? ⟨N + 1, 2, none⟩ = some (.int .i64 0) := cell_of S7.out.rs 2
  have t3 : w7.cell? ⟨N + 1, 3, none⟩ = some (.int .i64 0) := cell_of S7.out.rs 3
  have t4 : w7.cell? ⟨N + 1, 4, none⟩ = some (.int .i64 0) := cell_of S7.out.rs 4
  have t5 : w7.cell? ⟨N + 1, 5, none⟩ = some (.int .i64 0) := cell_of S7.out.rs 5
  have t6 : w7.cell? ⟨N + 1, 6, none⟩ = some (.int .i64 0) := cell_of S7.out.rs 6
  have t7 : w7.cell? ⟨N + 1, 7, none⟩ = some (.int .i64 0) := cell_of S7.out.rs 7
  have t8 : w7.cell? ⟨N + 1, 8, none⟩ = some (.int .i64 0) := cell_of S7.out.rs 8
  have t9 : w7.cell? ⟨N + 1, 9, none⟩ = some (.int .i64 0) := cell_of S7.out.rs 9
  have f0 := frozen_of S7.out.rs 0
  have f1 := frozen_of S7.out.rs 1
  have f2 := frozen_of S7.out.rs 2
  have f3 := frozen_of S7.out.rs 3
  have f4 := frozen_of S7.out.rs 4
  have f5 := frozen_of S7.out.rs 5
  have f6 := frozen_of S7.out.rs 6
  have f7 := frozen_of S7.out.rs 7
  have f8 := frozen_of S7.out.rs 8
  have f9 := frozen_of S7.out.rs 9
  have z8 := frozen_of S7.out.rw 8
  have z9 := frozen_of S7.out.rw 9
  have S9 := hide ((S7.out.set 8 xl).set 9 xh)
  go_wp2_with fail
  exact bodyPost_ret (results_row1 Tryz.results98 _ _ _ _ rfl (loadVar_a10 (ten_set (z := [0, 0, 0, 0, 0, 0, 0, 0, 0, 0]) rfl S9.out.rs _ _ _ _ _ _ _ _ _ _) rfl)) rfl ⟨rfl, by rw [HN.out]; exact ten_below S9.out.b (Nat.le_succ _) _ _ _ _ _ _ _ _ _ _⟩
set_option maxRecDepth 100000 in
set_option maxHeartbeats 6400000 in
theorem spans4 (e : Ev) (w : World) (hk : e.k = 4) :
    Calls Tryz.prog 98 #[evv e] w fun r w' => r = .returned (.agg (row (spn e))) ∧ Below w.heap.size w w' := by
  have HS : Hid (spn e = [0, 511, 0, 511, -1, 3, 0, vm e, ml e, mh e]) := by show _ = _; unfold spn; simp [hk]
  have S1 := hide (SpW.start w e)
  have VA := hide fun u => values_any e u
  have MA := hide fun u => mates_any e u
  obtain ⟨k, g, c, a, v, m, s, o⟩ := e
  simp only at hk
  subst hk
  generalize vm (Ev.mk 4 g c a v m s o) = xv at HS VA
  generalize ml (Ev.mk 4 g c a v m s o) = xl at HS MA
  generalize mh (Ev.mk 4 g c a v m s o) = xh at HS MA
  generalize spn (Ev.mk 4 g c a v m s o) = sp at HS ⊢
  obtain rfl := HS.out
  clear HS
  unfold evv evc at VA MA ⊢
  simp only at VA MA
  simp only [evc, row, List.map_cons, List.map_nil] at S1
  go_enter Tryz.func98, Tryz.ntmps98
  go_wp2_with fail
  generalize (((((w.alloc (.cells #[.int .i64 4, .int .i64 g, .int .i64 c, .int .i64 a, .int .i64 v, .int .i64 m, .bool s, .bool o] 23)).alloc (.cells #[.int .i64 0, .int .i64 0, .int .i64 0, .int .i64 0, .int .i64 0, .int .i64 0, .int .i64 0, .int .i64 0, .int .i64 0, .int .i64 0] 138)).alloc (.cells #[.int .i64 (-1), .int .i64 (-1)] 137)).alloc (.cells #[.int .i64 0, .int .i64 511] 137)).alloc (.cells #[.int .i64 0, .int .i64 511, .int .i64 (-1), .int .i64 (-1), .int .i64 (-1), .int .i64 (-1), .int .i64 (-1), .int .i64 (-1), .int .i64 (-1), .int .i64 (-1)] 138)) = W at S1 ⊢
  generalize hN : w.heap.size = N at S1 ⊢
  have HN := hide hN
  clear hN
  have y0 : W.cell? ⟨N, 0, none⟩ = some (.int .i64 4) := cell_of S1.out.ev 0
  have y1 : W.cell? ⟨N, 1, none⟩ = some (.int .i64 g) := cell_of S1.out.ev 1
  have y2 : W.cell? ⟨N, 2, none⟩ = some (.int .i64 c) := cell_of S1.out.ev 2
  have y3 : W.cell? ⟨N, 3, none⟩ = some (.int .i64 a) := cell_of S1.out.ev 3
  have y4 : W.cell? ⟨N, 4, none⟩ = some (.int .i64 v) := cell_of S1.out.ev 4
  have y5 : W.cell? ⟨N, 5, none⟩ = some (.int .i64 m) := cell_of S1.out.ev 5
  have y6 : W.cell? ⟨N, 6, none⟩ = some (.bool s) := cell_of S1.out.ev 6
  have y7 : W.cell? ⟨N, 7, none⟩ = some (.bool o) := cell_of S1.out.ev 7
  have n0 : W.cell? ⟨N + 1 + 1 + 1, 0, none⟩ = some (.int .i64 0) := cell_of S1.out.nu 0
  have n1 : W.cell? ⟨N + 1 + 1 + 1, 1, none⟩ = some (.int .i64 511) := cell_of S1.out.nu 1
  go_region_held3 (fun w' => w'.cell? ⟨N, 0, none⟩ = some (.int .i64 4) ∧ w'.cell? ⟨N, 1, none⟩ = some (.int .i64 g) ∧ w'.cell? ⟨N, 2, none⟩ = some (.int .i64 c) ∧ w'.cell? ⟨N, 3, none⟩ = some (.int .i64 a) ∧ w'.cell? ⟨N, 4, none⟩ = some (.int .i64 v) ∧ w'.cell? ⟨N, 5, none⟩ = some (.int .i64 m) ∧ w'.cell? ⟨N, 6, none⟩ = some (.bool s) ∧ w'.cell? ⟨N, 7, none⟩ = some (.bool o) ∧ w'.cell? ⟨N + 1 + 1 + 1, 0, none⟩ = some (.int .i64 0) ∧ w'.cell? ⟨N + 1 + 1 + 1, 1, none⟩ = some (.int .i64 511))
    (first
      | (go_split_ands; refine ⟨?_, ?_, ?_, ?_, ?_, ?_, ?_, ?_, ?_, ?_⟩ <;> (with_reducible (refine cellS (cellS ?_ ?_) ?_)) <;> (first | with_reducible assumption | omega))
      | (go_split_ands; refine ⟨?_, ?_, ?_, ?_, ?_, ?_, ?_, ?_, ?_, ?_⟩ <;> (with_reducible (refine cellB ?_ c5)) <;> with_reducible assumption)
      | go_keep)
    ((go_at_call 112; refine (VA.out _).mono ?_; rintro r w5 ⟨rfl, c5⟩; have S5 := hide ((S1.out.below (bdrew1 _)).below c5); have r2 : w5.cell? ⟨N + 1 + 1 + 1 + 1, 2, none⟩ = some (.int .i64 (-1)) := cell_of S5.out.rw 2; have r3 : w5.cell? ⟨N + 1 + 1 + 1 + 1, 3, none⟩ = some (.int .i64 (-1)) := cell_of S5.out.rw 3; have r4 : w5.cell? ⟨N + 1 + 1 + 1 + 1, 4, none⟩ = some (.int .i64 (-1)) := cell_of S5.out.rw 4; have r5 : w5.cell? ⟨N + 1 + 1 + 1 + 1, 5, none⟩ = some (.int .i64 (-1)) := cell_of S5.out.rw 5; have r6 : w5.cell? ⟨N + 1 + 1 + 1 + 1, 6, none⟩ = some (.int .i64 (-1)) := cell_of S5.out.rw 6; have r7 : w5.cell? ⟨N + 1 + 1 + 1 + 1, 7, none⟩ = some (.int .i64 (-1)) := cell_of S5.out.rw 7; have z2 := frozen_of S5.out.rw 2; have z3 := frozen_of S5.out.rw 3; have z4 := frozen_of S5.out.rw 4; have z5 := frozen_of S5.out.rw 5; have z6 := frozen_of S5.out.rw 6; have z7 := frozen_of S5.out.rw 7))
  have S6 : Hid (SpW w ((((((w5.setCell ⟨N + 1 + 1 + 1 + 1, 2, none⟩ (.int .i64 0)).setCell ⟨N + 1 + 1 + 1 + 1, 3, none⟩ (.int .i64 511)).setCell ⟨N + 1 + 1 + 1 + 1, 4, none⟩ (.int .i64 (-1))).setCell ⟨N + 1 + 1 + 1 + 1, 5, none⟩ (.int .i64 3)).setCell ⟨N + 1 + 1 + 1 + 1, 6, none⟩ (.int .i64 0)).setCell ⟨N + 1 + 1 + 1 + 1, 7, none⟩ (.int .i64 xv)) N (Ev.mk 4 g c a v m s o) [0, 511, 0, 511, -1, 3, 0, xv, -1, -1]) := ((((((S5.out.set 2 0).set 3 511).set 4 (-1)).set 5 3).set 6 0).set 7 xv)
  clear S5 S1 c5
  generalize ((((((w5.setCell ⟨N + 1 + 1 + 1 + 1, 2, none⟩ (.int .i64 0)).setCell ⟨N + 1 + 1 + 1 + 1, 3, none⟩ (.int .i64 511)).setCell ⟨N + 1 + 1 + 1 + 1, 4, none⟩ (.int .i64 (-1))).setCell ⟨N + 1 + 1 + 1 + 1, 5, none⟩ (.int .i64 3)).setCell ⟨N + 1 + 1 + 1 + 1, 6, none⟩ (.int .i64 0)).setCell ⟨N + 1 + 1 + 1 + 1, 7, none⟩ (.int .i64 xv)) = U at S6 ⊢
  have y0 : U.cell? ⟨N, 0, none⟩ = some (.int .i64 4) := cell_of S6.out.ev 0
  have y1 : U.cell? ⟨N, 1, none⟩ = some (.int .i64 g) := cell_of S6.out.ev 1
  have y2 : U.cell? ⟨N, 2, none⟩ = some (.int .i64 c) := cell_of S6.out.ev 2
  have y3 : U.cell? ⟨N, 3, none⟩ = some (.int .i64 a) := cell_of S6.out.ev 3
  have y4 : U.cell? ⟨N, 4, none⟩ = some (.int .i64 v) := cell_of S6.out.ev 4
  have y5 : U.cell? ⟨N, 5, none⟩ = some (.int .i64 m) := cell_of S6.out.ev 5
  have y6 : U.cell? ⟨N, 6, none⟩ = some (.bool s) := cell_of S6.out.ev 6
  have y7 : U.cell? ⟨N, 7, none⟩ = some (.bool o) := cell_of S6.out.ev 7
  go_wp2_with fail
  refine (MA.out _).mono ?_
  rintro r w7 ⟨rfl, b7⟩
  have S7 := hide (S6.out.below b7)
  clear b7 S6 VA MA
  have r0 : w7.cell? ⟨N + 1 + 1 + 1 + 1, 0, none⟩ = some (.int .i64 0) := cell_of S7.out.rw 0
  have r1 : w7.cell? ⟨N + 1 + 1 + 1 + 1, 1, none⟩ = some (.int .i64 511) := cell_of S7.out.rw 1
  have r2 : w7.cell? ⟨N + 1 + 1 + 1 + 1, 2, none⟩ = some (.int .i64 0) := cell_of S7.out.rw 2
  have r3 : w7.cell? ⟨N + 1 + 1 + 1 + 1, 3, none⟩ = some (.int .i64 511) := cell_of S7.out.rw 3
  have r4 : w7.cell? ⟨N + 1 + 1 + 1 + 1, 4, none⟩ = some (.int .i64 (-1)) := cell_of S7.out.rw 4
  have r5 : w7.cell? ⟨N + 1 + 1 + 1 + 1, 5, none⟩ = some (.int .i64 3) := cell_of S7.out.rw 5
  have r6 : w7.cell? ⟨N + 1 + 1 + 1 + 1, 6, none⟩ = some (.int .i64 0) := cell_of S7.out.rw 6
  have r7 : w7.cell? ⟨N + 1 + 1 + 1 + 1, 7, none⟩ = some (.int .i64 xv) := cell_of S7.out.rw 7
  have r8 : w7.cell? ⟨N + 1 + 1 + 1 + 1, 8, none⟩ = some (.int .i64 (-1)) := cell_of S7.out.rw 8
  have r9 : w7.cell? ⟨N + 1 + 1 + 1 + 1, 9, none⟩ = some (.int .i64 (-1)) := cell_of S7.out.rw 9
  have t0 : w7.cell? ⟨N + 1, 0, none⟩ = some (.int .i64 0) := cell_of S7.out.rs 0
  have t1 : w7.cell? ⟨N + 1, 1, none⟩ = some (.int .i64 0) := cell_of S7.out.rs 1
  have t2 : w7.cell? ⟨N + 1, 2, none⟩ = some (.int .i64 0) := cell_of S7.out.rs 2
  have t3 : w7.cell? ⟨N + 1, 3, none⟩ = some (.int .i64 0) := cell_of S7.out.rs 3
  have t4 : w7.cell? ⟨N + 1, 4, none⟩ = some (.int .i64 0) := cell_of S7.out.rs 4
  have t5 : w7.cell? ⟨N + 1, 5, none⟩ = some (.int .i64 0) := cell_of S7.out.rs 5
  have t6 : w7.cell? ⟨N + 1, 6, none⟩ = some (.int .i64 0) := cell_of S7.out.rs 6
  have t7 : w7.cell? ⟨N + 1, 7, none⟩ = some (.int .i64 0) := cell_of S7.out.rs 7
  have t8 : w7.cell? ⟨N + 1, 8, none⟩ = some (.int .i64 0) := cell_of S7.out.rs 8
  have t9 : w7.cell? ⟨N + 1, 9, none⟩ = some (.int .i64 0) := cell_of S7.out.rs 9
  have f0 := frozen_of S7.out.rs 0
  have f1 := frozen_of S7.out.rs 1
  have f2 := frozen_of S7.out.rs 2
  have f3 := frozen_of S7.out.rs 3
  have f4 := frozen_of S7.out.rs 4
  have f5 := frozen_of S7.out.rs 5
  have f6 := frozen_of S7.out.rs 6
  have f7 := frozen_of S7.out.rs 7
  have f8 := frozen_of S7.out.rs 8
  have f9 := frozen_of S7.out.rs 9
  have z8 := frozen_of S7.out.rw 8
  have z9 := frozen_of S7.out.rw 9
  have S9 := hide ((S7.out.set 8 xl).set 9 xh)
  go_wp2_with fail
  exact bodyPost_ret (results_row1 Tryz.results98 _ _ _ _ rfl (loadVar_a10 (ten_set (z := [0, 0, 0, 0, 0, 0, 0, 0, 0, 0]) rfl S9.out.rs _ _ _ _ _ _ _ _ _ _) rfl)) rfl ⟨rfl, by rw [HN.out]; exact ten_below S9.out.b (Nat.le_succ _) _ _ _ _ _ _ _ _ _ _⟩
set_option maxRecDepth 100000 in
set_option maxHeartbeats 6400000 in
theorem spans7 (e : Ev) (w : World) (hk : e.k = 7) :
    Calls Tryz.prog 98 #[evv e] w fun r w' => r = .returned (.agg (row (spn e))) ∧ Below w.heap.size w w' := by
  have HS : Hid (spn e = [0, 511, 0, 511, -1, 3, 0, vm e, ml e, mh e]) := by show _ = _; unfold spn; simp [hk]
  have S1 := hide (SpW.start w e)
  have VA := hide fun u => values_any e u
  have MA := hide fun u => mates_any e u
  obtain ⟨k, g, c, a, v, m, s, o⟩ := e
  simp only at hk
  subst hk
  generalize vm (Ev.mk 7 g c a v m s o) = xv at HS VA
  generalize ml (Ev.mk 7 g c a v m s o) = xl at HS MA
  generalize mh (Ev.mk 7 g c a v m s o) = xh at HS MA
  generalize spn (Ev.mk 7 g c a v m s o) = sp at HS ⊢
  obtain rfl := HS.out
  clear HS
  unfold evv evc at VA MA ⊢
  simp only at VA MA
  simp only [evc, row, List.map_cons, List.map_nil] at S1
  go_enter Tryz.func98, Tryz.ntmps98
  go_wp2_with fail
  generalize (((((w.alloc (.cells #[.int .i64 7, .int .i64 g, .int .i64 c, .int .i64 a, .int .i64 v, .int .i64 m, .bool s, .bool o] 23)).alloc (.cells #[.int .i64 0, .int .i64 0, .int .i64 0, .int .i64 0, .int .i64 0, .int .i64 0, .int .i64 0, .int .i64 0, .int .i64 0, .int .i64 0] 138)).alloc (.cells #[.int .i64 (-1), .int .i64 (-1)] 137)).alloc (.cells #[.int .i64 0, .int .i64 511] 137)).alloc (.cells #[.int .i64 0, .int .i64 511, .int .i64 (-1), .int .i64 (-1), .int .i64 (-1), .int .i64 (-1), .int .i64 (-1), .int .i64 (-1), .int .i64 (-1), .int .i64 (-1)] 138)) = W at S1 ⊢
  generalize hN : w.heap.size = N at S1 ⊢
  have HN := hide hN
  clear hN
  have y0 : W.cell? ⟨N, 0, none⟩ = some (.int .i64 7) := cell_of S1.out.ev 0
  have y1 : W.cell? ⟨N, 1, none⟩ = some (.int .i64 g) := cell_of S1.out.ev 1
  have y2 : W.cell? ⟨N, 2, none⟩ = some (.int .i64 c) := cell_of S1.out.ev 2
  have y3 : W.cell? ⟨N, 3, none⟩ = some (.int .i64 a) := cell_of S1.out.ev 3
  have y4 : W.cell? ⟨N, 4, none⟩ = some (.int .i64 v) := cell_of S1.out.ev 4
  have y5 : W.cell? ⟨N, 5, none⟩ = some (.int .i64 m) := cell_of S1.out.ev 5
  have y6 : W.cell? ⟨N, 6, none⟩ = some (.bool s) := cell_of S1.out.ev 6
  have y7 : W.cell? ⟨N, 7, none⟩ = some (.bool o) := cell_of S1.out.ev 7
  have n0 : W.cell? ⟨N + 1 + 1 + 1, 0, none⟩ = some (.int .i64 0) := cell_of S1.out.nu 0
  have n1 : W.cell? ⟨N + 1 + 1 + 1, 1, none⟩ = some (.int .i64 511) := cell_of S1.out.nu 1
  go_region_held3 (fun w' => w'.cell? ⟨N, 0, none⟩ = some (.int .i64 7) ∧ w'.cell? ⟨N, 1, none⟩ = some (.int .i64 g) ∧ w'.cell? ⟨N, 2, none⟩ = some (.int .i64 c) ∧ w'.cell? ⟨N, 3, none⟩ = some (.int .i64 a) ∧ w'.cell? ⟨N, 4, none⟩ = some (.int .i64 v) ∧ w'.cell? ⟨N, 5, none⟩ = some (.int .i64 m) ∧ w'.cell? ⟨N, 6, none⟩ = some (.bool s) ∧ w'.cell? ⟨N, 7, none⟩ = some (.bool o) ∧ w'.cell? ⟨N + 1 + 1 + 1, 0, none⟩ = some (.int .i64 0) ∧ w'.cell? ⟨N + 1 + 1 + 1, 1, none⟩ = some (.int .i64 511))
    (first
      | (go_split_ands; refine ⟨?_, ?_, ?_, ?_, ?_, ?_, ?_, ?_, ?_, ?_⟩ <;> (with_reducible (refine cellS (cellS ?_ ?_) ?_)) <;> (first | with_reducible assumption | omega))
      | (go_split_ands; refine ⟨?_, ?_, ?_, ?_, ?_, ?_, ?_, ?_, ?_, ?_⟩ <;> (with_reducible (refine cellB ?_ c5)) <;> with_reducible assumption)
      | go_keep)
    ((go_at_call 112; refine (VA.out _).mono ?_; rintro r w5 ⟨rfl, c5⟩; have S5 := hide ((S1.out.below (bdrew1 _)).below c5); have r2 : w5.cell? ⟨N + 1 + 1 + 1 + 1, 2, none⟩ = some (.int .i64 (-1)) := cell_of S5.out.rw 2; have r3 : w5.cell? ⟨N + 1 + 1 + 1 + 1, 3, none⟩ = some (.int .i64 (-1)) := cell_of S5.out.rw 3; have r4 : w5.cell? ⟨N + 1 + 1 + 1 + 1, 4, none⟩ = some (.int .i64 (-1)) := cell_of S5.out.rw 4; have r5 : w5.cell? ⟨N + 1 + 1 + 1 + 1, 5, none⟩ = some (.int .i64 (-1)) := cell_of S5.out.rw 5; have r6 : w5.cell? ⟨N + 1 + 1 + 1 + 1, 6, none⟩ = some (.int .i64 (-1)) := cell_of S5.out.rw 6; have r7 : w5.cell? ⟨N + 1 + 1 + 1 + 1, 7, none⟩ = some (.int .i64 (-1)) := cell_of S5.out.rw 7; have z2 := frozen_of S5.out.rw 2; have z3 := frozen_of S5.out.rw 3; have z4 := frozen_of S5.out.rw 4; have z5 := frozen_of S5.out.rw 5; have z6 := frozen_of S5.out.rw 6; have z7 := frozen_of S5.out.rw 7))
  have S6 : Hid (SpW w ((((((w5.setCell ⟨N + 1 + 1 + 1 + 1, 2, none⟩ (.int .i64 0)).setCell ⟨N + 1 + 1 + 1 + 1, 3, none⟩ (.int .i64 511)).setCell ⟨N + 1 + 1 + 1 + 1, 4, none⟩ (.int .i64 (-1))).setCell ⟨N + 1 + 1 + 1 + 1, 5, none⟩ (.int .i64 3)).setCell ⟨N + 1 + 1 + 1 + 1, 6, none⟩ (.int .i64 0)).setCell ⟨N + 1 + 1 + 1 + 1, 7, none⟩ (.int .i64 xv)) N (Ev.mk 7 g c a v m s o) [0, 511, 0, 511, -1, 3, 0, xv, -1, -1]) := ((((((S5.out.set 2 0).set 3 511).set 4 (-1)).set 5 3).set 6 0).set 7 xv)
  clear S5 S1 c5
  generalize ((((((w5.setCell ⟨N + 1 + 1 + 1 + 1, 2, none⟩ (.int .i64 0)).setCell ⟨N + 1 + 1 + 1 + 1, 3, none⟩ (.int .i64 511)).setCell ⟨N + 1 + 1 + 1 + 1, 4, none⟩ (.int .i64 (-1))).setCell ⟨N + 1 + 1 + 1 + 1, 5, none⟩ (.int .i64 3)).setCell ⟨N + 1 + 1 + 1 + 1, 6, none⟩ (.int .i64 0)).setCell ⟨N + 1 + 1 + 1 + 1, 7, none⟩ (.int .i64 xv)) = U at S6 ⊢
  have y0 : U.cell? ⟨N, 0, none⟩ = some (.int .i64 7) := cell_of S6.out.ev 0
  have y1 : U.cell? ⟨N, 1, none⟩ = some (.int .i64 g) := cell_of S6.out.ev 1
  have y2 : U.cell? ⟨N, 2, none⟩ = some (.int .i64 c) := cell_of S6.out.ev 2
  have y3 : U.cell? ⟨N, 3, none⟩ = some (.int .i64 a) := cell_of S6.out.ev 3
  have y4 : U.cell? ⟨N, 4, none⟩ = some (.int .i64 v) := cell_of S6.out.ev 4
  have y5 : U.cell? ⟨N, 5, none⟩ = some (.int .i64 m) := cell_of S6.out.ev 5
  have y6 : U.cell? ⟨N, 6, none⟩ = some (.bool s) := cell_of S6.out.ev 6
  have y7 : U.cell? ⟨N, 7, none⟩ = some (.bool o) := cell_of S6.out.ev 7
  go_wp2_with fail
  refine (MA.out _).mono ?_
  rintro r w7 ⟨rfl, b7⟩
  have S7 := hide (S6.out.below b7)
  clear b7 S6 VA MA
  have r0 : w7.cell? ⟨N + 1 + 1 + 1 + 1, 0, none⟩ = some (.int .i64 0) := cell_of S7.out.rw 0
  have r1 : w7.cell? ⟨N + 1 + 1 + 1 + 1, 1, none⟩ = some (.int .i64 511) := cell_of S7.out.rw 1
  have r2 : w7.cell? ⟨N + 1 + 1 + 1 + 1, 2, none⟩ = some (.int .i64 0) := cell_of S7.out.rw 2
  have r3 : w7.cell? ⟨N + 1 + 1 + 1 + 1, 3, none⟩ = some (.int .i64 511) := cell_of S7.out.rw 3
  have r4 : w7.cell? ⟨N + 1 + 1 + 1 + 1, 4, none⟩ = some (.int .i64 (-1)) := cell_of S7.out.rw 4
  have r5 : w7.cell? ⟨N + 1 + 1 + 1 + 1, 5, none⟩ = some (.int .i64 3) := cell_of S7.out.rw 5
  have r6 : w7.cell? ⟨N + 1 + 1 + 1 + 1, 6, none⟩ = some (.int .i64 0) := cell_of S7.out.rw 6
  have r7 : w7.cell? ⟨N + 1 + 1 + 1 + 1, 7, none⟩ = some (.int .i64 xv) := cell_of S7.out.rw 7
  have r8 : w7.cell? ⟨N + 1 + 1 + 1 + 1, 8, none⟩ = some (.int .i64 (-1)) := cell_of S7.out.rw 8
  have r9 : w7.cell? ⟨N + 1 + 1 + 1 + 1, 9, none⟩ = some (.int .i64 (-1)) := cell_of S7.out.rw 9
  have t0 : w7.cell? ⟨N + 1, 0, none⟩ = some (.int .i64 0) := cell_of S7.out.rs 0
  have t1 : w7.cell? ⟨N + 1, 1, none⟩ = some (.int .i64 0) := cell_of S7.out.rs 1
  have t2 : w7.cell? ⟨N + 1, 2, none⟩ = some (.int .i64 0) := cell_of S7.out.rs 2
  have t3 : w7.cell? ⟨N + 1, 3, none⟩ = some (.int .i64 0) := cell_of S7.out.rs 3
  have t4 : w7.cell? ⟨N + 1, 4, none⟩ = some (.int .i64 0) := cell_of S7.out.rs 4
  have t5 : w7.cell? ⟨N + 1, 5, none⟩ = some (.int .i64 0) := cell_of S7.out.rs 5
  have t6 : w7.cell? ⟨N + 1, 6, none⟩ = some (.int .i64 0) := cell_of S7.out.rs 6
  have t7 : w7.cell? ⟨N + 1, 7, none⟩ = some (.int .i64 0) := cell_of S7.out.rs 7
  have t8 : w7.cell? ⟨N + 1, 8, none⟩ = some (.int .i64 0) := cell_of S7.out.rs 8
  have t9 : w7.cell? ⟨N + 1, 9, none⟩ = some (.int .i64 0) := cell_of S7.out.rs 9
  have f0 := frozen_of S7.out.rs 0
  have f1 := frozen_of S7.out.rs 1
  have f2 := frozen_of S7.out.rs 2
  have f3 := frozen_of S7.out.rs 3
  have f4 := frozen_of S7.out.rs 4
  have f5 := frozen_of S7.out.rs 5
  have f6 := frozen_of S7.out.rs 6
  have f7 := frozen_of S7.out.rs 7
  have f8 := frozen_of S7.out.rs 8
  have f9 := frozen_of S7.out.rs 9
  have z8 := frozen_of S7.out.rw 8
  have z9 := frozen_of S7.out.rw 9
  have S9 := hide ((S7.out.set 8 xl).set 9 xh)
  go_wp2_with fail
  exact bodyPost_ret (results_row1 Tryz.results98 _ _ _ _ rfl (loadVar_a10 (ten_set (z := [0, 0, 0, 0, 0, 0, 0, 0, 0, 0]) rfl S9.out.rs _ _ _ _ _ _ _ _ _ _) rfl)) rfl ⟨rfl, by rw [HN.out]; exact ten_below S9.out.b (Nat.le_succ _) _ _ _ _ _ _ _ _ _ _⟩
set_option maxRecDepth 100000 in
set_option maxHeartbeats 6400000 in
theorem spans6 (e : Ev) (w : World) (hk : e.k = 6) :
    Calls Tryz.prog 98 #[evv e] w fun r w' => r = .returned (.agg (row (spn e))) ∧ Below w.heap.size w w' := by
  have HS : Hid (spn e = if (e.a != -1) = true then [0, 511, -1, -1, -1, 4, 0, vm e, -1, -1] else [0, 511, -1, 511, -1, 4, 0, vm e, -1, -1]) := by show _ = _; unfold spn; simp [hk]
  have S1 := hide (SpW.start w e)
  have VA := hide fun u => values_any e u
  have IS := hide fun u => isSelect_any e u
  obtain ⟨k, g, c, a, v, m, s, o⟩ := e
  simp only at hk HS IS
  subst hk
  generalize vm (Ev.mk 6 g c a v m s o) = xv at HS VA
  generalize spn (Ev.mk 6 g c a v m s o) = sp at HS ⊢
  generalize hsel : (a != -1) = sel at HS IS
  clear hsel
  unfold evv evc at VA IS ⊢
  simp only at VA IS
  simp only [evc, row, List.map_cons, List.map_nil] at S1
  go_enter Tryz.func98, Tryz.ntmps98
  go_wp2_with fail
  generalize (((((w.alloc (.cells #[.int .i64 6, .int .i64 g, .int .i64 c, .int .i64 a, .int .i64 v, .int .i64 m, .bool s, .bool o] 23)).alloc (.cells #[.int .i64 0, .int .i64 0, .int .i64 0, .int .i64 0, .int .i64 0, .int .i64 0, .int .i64 0, .int .i64 0, .int .i64 0, .int .i64 0] 138)).alloc (.cells #[.int .i64 (-1), .int .i64 (-1)] 137)).alloc (.cells #[.int .i64 0, .int .i64 511] 137)).alloc (.cells #[.int .i64 0, .int .i64 511, .int .i64 (-1), .int .i64 (-1), .int .i64 (-1), .int .i64 (-1), .int .i64 (-1), .int .i64 (-1), .int .i64 (-1), .int .i64 (-1)] 138)) = W at S1 ⊢
  generalize hN : w.heap.size = N at S1 ⊢
  have HN := hide hN
  clear hN
  refine (VA.out _).mono ?_
  rintro r w5 ⟨rfl, b5⟩
  have S5 := hide (S1.out.below b5)
  clear b5 S1
  have r0 : w5.cell? ⟨N + 1 + 1 + 1 + 1, 0, none⟩ = some (.int .i64 0) := cell_of S5.out.rw 0
  have r1 : w5.cell? ⟨N + 1 + 1 + 1 + 1, 1, none⟩ = some (.int .i64 511) := cell_of S5.out.rw 1
  have r2 : w5.cell? ⟨N + 1 + 1 + 1 + 1, 2, none⟩ = some (.int .i64 (-1)) := cell_of S5.out.rw 2
  have r3 : w5.cell? ⟨N + 1 + 1 + 1 + 1, 3, none⟩ = some (.int .i64 (-1)) := cell_of S5.out.rw 3
  have r4 : w5.cell? ⟨N + 1 + 1 + 1 + 1, 4, none⟩ = some (.int .i64 (-1)) := cell_of S5.out.rw 4
  have r5 : w5.cell? ⟨N + 1 + 1 + 1 + 1, 5, none⟩ = some (.int .i64 (-1)) := cell_of S5.out.rw 5
  have r6 : w5.cell? ⟨N + 1 + 1 + 1 + 1, 6, none⟩ = some (.int .i64 (-1)) := cell_of S5.out.rw 6
  have r7 : w5.cell? ⟨N + 1 + 1 + 1 + 1, 7, none⟩ = some (.int .i64 (-1)) := cell_of S5.out.rw 7
  have r8 : w5.cell? ⟨N + 1 + 1 + 1 + 1, 8, none⟩ = some (.int .i64 (-1)) := cell_of S5.out.rw 8
  have r9 : w5.cell? ⟨N + 1 + 1 + 1 + 1, 9, none⟩ = some (.int .i64 (-1)) := cell_of S5.out.rw 9
  have z0 := frozen_of S5.out.rw 0
  have z1 := frozen_of S5.out.rw 1
  have z2 := frozen_of S5.out.rw 2
  have z3 := frozen_of S5.out.rw 3
  have z4 := frozen_of S5.out.rw 4
  have z5 := frozen_of S5.out.rw 5
  have z6 := frozen_of S5.out.rw 6
  have z7 := frozen_of S5.out.rw 7
  have z8 := frozen_of S5.out.rw 8
  have z9 := frozen_of S5.out.rw 9
  have y0 : w5.cell? ⟨N, 0, none⟩ = some (.int .i64 6) := cell_of S5.out.ev 0
  have y1 : w5.cell? ⟨N, 1, none⟩ = some (.int .i64 g) := cell_of S5.out.ev 1
  have y2 : w5.cell? ⟨N, 2, none⟩ = some (.int .i64 c) := cell_of S5.out.ev 2
  have y3 : w5.cell? ⟨N, 3, none⟩ = some (.int .i64 a) := cell_of S5.out.ev 3
  have y4 : w5.cell? ⟨N, 4, none⟩ = some (.int .i64 v) := cell_of S5.out.ev 4
  have y5 : w5.cell? ⟨N, 5, none⟩ = some (.int .i64 m) := cell_of S5.out.ev 5
  have y6 : w5.cell? ⟨N, 6, none⟩ = some (.bool s) := cell_of S5.out.ev 6
  have y7 : w5.cell? ⟨N, 7, none⟩ = some (.bool o) := cell_of S5.out.ev 7
  have S6 : Hid (SpW w ((((((w5.setCell ⟨N + 1 + 1 + 1 + 1, 2, none⟩ (.int .i64 (-1))).setCell ⟨N + 1 + 1 + 1 + 1, 3, none⟩ (.int .i64 511)).setCell ⟨N + 1 + 1 + 1 + 1, 4, none⟩ (.int .i64 (-1))).setCell ⟨N + 1 + 1 + 1 + 1, 5, none⟩ (.int .i64 4)).setCell ⟨N + 1 + 1 + 1 + 1, 6, none⟩ (.int .i64 0)).setCell ⟨N + 1 + 1 + 1 + 1, 7, none⟩ (.int .i64 xv)) N (Ev.mk 6 g c a v m s o) [0, 511, -1, 511, -1, 4, 0, xv, -1, -1]) := ((((((S5.out.set 2 (-1)).set 3 511).set 4 (-1)).set 5 4).set 6 0).set 7 xv)
  go_wp2_with fail
  generalize ((((((w5.setCell ⟨N + 1 + 1 + 1 + 1, 2, none⟩ (.int .i64 (-1))).setCell ⟨N + 1 + 1 + 1 + 1, 3, none⟩ (.int .i64 511)).setCell ⟨N + 1 + 1 + 1 + 1, 4, none⟩ (.int .i64 (-1))).setCell ⟨N + 1 + 1 + 1 + 1, 5, none⟩ (.int .i64 4)).setCell ⟨N + 1 + 1 + 1 + 1, 6, none⟩ (.int .i64 0)).setCell ⟨N + 1 + 1 + 1 + 1, 7, none⟩ (.int .i64 xv)) = U at S6 ⊢
  refine (IS.out _).mono ?_
  rintro r w7 ⟨rfl, b7⟩
  have S7 := hide (S6.out.below b7)
  clear b7 S6 S5 VA IS r0 r1 r2 r3 r4 r5 r6 r7 r8 r9 z0 z1 z2 z3 z4 z5 z6 z7 z8 z9 y0 y1 y2 y3 y4 y5 y6 y7
  have r0 : w7.cell? ⟨N + 1 + 1 + 1 + 1, 0, none⟩ = some (.int .i64 0) := cell_of S7.out.rw 0
  have r1 : w7.cell? ⟨N + 1 + 1 + 1 + 1, 1, none⟩ = some (.int .i64 511) := cell_of S7.out.rw 1
  have r2 : w7.cell? ⟨N + 1 + 1 + 1 + 1, 2, none⟩ = some (.int .i64 (-1)) := cell_of S7.out.rw 2
  have r3 : w7.cell? ⟨N + 1 + 1 + 1 + 1, 3, none⟩ = some (.int .i64 511) := cell_of S7.out.rw 3
  have r4 : w7.cell? ⟨N + 1 + 1 + 1 + 1, 4, none⟩ = some (.int .i64 (-1)) := cell_of S7.out.rw 4
  have r5 : w7.cell? ⟨N + 1 + 1 + 1 + 1, 5, none⟩ = some (.int .i64 4) := cell_of S7.out.rw 5
  have r6 : w7.cell? ⟨N + 1 + 1 + 1 + 1, 6, none⟩ = some (.int .i64 0) := cell_of S7.out.rw 6
  have r7 : w7.cell? ⟨N + 1 + 1 + 1 + 1, 7, none⟩ = some (.int .i64 xv) := cell_of S7.out.rw 7
  have r8 : w7.cell? ⟨N + 1 + 1 + 1 + 1, 8, none⟩ = some (.int .i64 (-1)) := cell_of S7.out.rw 8
  have r9 : w7.cell? ⟨N + 1 + 1 + 1 + 1, 9, none⟩ = some (.int .i64 (-1)) := cell_of S7.out.rw 9
  have t0 : w7.cell? ⟨N + 1, 0, none⟩ = some (.int .i64 0) := cell_of S7.out.rs 0
  have t1 : w7.cell? ⟨N + 1, 1, none⟩ = some (.int .i64 0) := cell_of S7.out.rs 1
  have t2 : w7.cell? ⟨N + 1, 2, none⟩ = some (.int .i64 0) := cell_of S7.out.rs 2
  have t3 : w7.cell? ⟨N + 1, 3, none⟩ = some (.int .i64 0) := cell_of S7.out.rs 3
  have t4 : w7.cell? ⟨N + 1, 4, none⟩ = some (.int .i64 0) := cell_of S7.out.rs 4
  have t5 : w7.cell? ⟨N + 1, 5, none⟩ = some (.int .i64 0) := cell_of S7.out.rs 5
  have t6 : w7.cell? ⟨N + 1, 6, none⟩ = some (.int .i64 0) := cell_of S7.out.rs 6
  have t7 : w7.cell? ⟨N + 1, 7, none⟩ = some (.int .i64 0) := cell_of S7.out.rs 7
  have t8 : w7.cell? ⟨N + 1, 8, none⟩ = some (.int .i64 0) := cell_of S7.out.rs 8
  have t9 : w7.cell? ⟨N + 1, 9, none⟩ = some (.int .i64 0) := cell_of S7.out.rs 9
  have f0 := frozen_of S7.out.rs 0
  have f1 := frozen_of S7.out.rs 1
  have f2 := frozen_of S7.out.rs 2
  have f3 := frozen_of S7.out.rs 3
  have f4 := frozen_of S7.out.rs 4
  have f5 := frozen_of S7.out.rs 5
  have f6 := frozen_of S7.out.rs 6
  have f7 := frozen_of S7.out.rs 7
  have f8 := frozen_of S7.out.rs 8
  have f9 := frozen_of S7.out.rs 9
  cases sel
  · obtain rfl := HS.out
    go_wp2_with fail
    exact bodyPost_ret (results_row1 Tryz.results98 _ _ _ _ rfl (loadVar_a10 (ten_set (z := [0, 0, 0, 0, 0, 0, 0, 0, 0, 0]) rfl S7.out.rs _ _ _ _ _ _ _ _ _ _) rfl)) rfl ⟨rfl, by rw [HN.out]; exact ten_below S7.out.b (Nat.le_succ _) _ _ _ _ _ _ _ _ _ _⟩
  · obtain rfl := HS.out
    have z2 := frozen_of S7.out.rw 2
    have z3 := frozen_of S7.out.rw 3
    have n0 : w7.cell? ⟨N + 1 + 1, 0, none⟩ = some (.int .i64 (-1)) := cell_of S7.out.no 0
    have n1 : w7.cell? ⟨N + 1 + 1, 1, none⟩ = some (.int .i64 (-1)) := cell_of S7.out.no 1
    have S9 := hide ((S7.out.set 2 (-1)).set 3 (-1))
    go_wp2_with fail
    exact bodyPost_ret (results_row1 Tryz.results98 _ _ _ _ rfl (loadVar_a10 (ten_set (z := [0, 0, 0, 0, 0, 0, 0, 0, 0, 0]) rfl S9.out.rs _ _ _ _ _ _ _ _ _ _) rfl)) rfl ⟨rfl, by rw [HN.out]; exact ten_below S9.out.b (Nat.le_succ _) _ _ _ _ _ _ _ _ _ _⟩
theorem spans_any (e : Ev) (w : World) (h1 : 1 ≤ e.k) (h2 : e.k ≤ 13) :
    Calls Tryz.prog 98 #[evv e] w fun r w' => r = .returned (.agg (row (spn e))) ∧ Below w.heap.size w w' := by
  have hk : e.k = 1 ∨ e.k = 2 ∨ e.k = 3 ∨ e.k = 4 ∨ e.k = 5 ∨ e.k = 6 ∨ e.k = 7 ∨ e.k = 8 ∨ e.k = 9 ∨ e.k = 10 ∨ e.k = 11 ∨ e.k = 12 ∨ e.k = 13 := by omega
  rcases hk with h | h | h | h | h | h | h | h | h | h | h | h | h
  · exact spans1 e w h
  · exact spans2 e w h
  · exact spans3 e w h
  · exact spans4 e w h
  · exact spans5 e w h
  · exact spans6 e w h
  · exact spans7 e w h
  · exact spans8 e w h
  · exact spans9 e w h
  · exact spans10 e w h
  · exact spans11 e w h
  · exact spans12 e w h
  · exact spans13 e w h
end En
end Go.Proofs.YtakbbhngcdccpaaGreat
