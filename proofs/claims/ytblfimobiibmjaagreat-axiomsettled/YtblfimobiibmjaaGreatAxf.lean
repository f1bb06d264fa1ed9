import Derived.Test.YtblfimobiibmjaaGreatZjAh19
import Derived.Test.YtblfimobiibmjaaGreatAxd
namespace Go.Proofs.YtblfimobiibmjaaGreat
open Go.ChangeShapes Go.WideShapes Go.ChangeAt Go.RowKit
namespace Ax
open En Gu Eg Ba
def lvF (l : List Ev) (h : Int) (n : Nat) : Bool := decide (h < there (l.take n)) && !exF l h n
theorem th_next {l : List Ev} (T : Tok l) {n : Nat} {e : Ev} (he : l[n]? = some e) (h : Int) : decide (h < there (l.take (n + 1))) = (decide (h < there (l.take n)) || (decide (e.k = 1) && decide (e.m = h))) := by
 rw [Eg.there_take he]
 by_cases k : e.k = 1
 ·have := T.cw.m he k
  rw [if_pos k, Bool.eq_iff_iff]
  simp [k]
  omega
 ·rw [if_neg k]
  simp [k]
theorem look_new {l : List Ev} (T : Tok l) {n : Nat} {e : Ev} (he : l[n]? = some e) {h : Int} (k : e.k = 1) (m : e.m = h) : e.g ≠ h ∧ decide (h < there (l.take (n + 1))) = true ∧ lvF l h (n + 1) = true ∧ latF l h (n + 1) = some n := by
 have hm := T.cw.m he k
 have hg := T.cw.lt he (by omega)
 have g : e.g ≠ h := by omega
 have t : decide (h < there (l.take (n + 1))) = true := by rw [th_next T he]; simp [k, m]
 have x : exF l h n = false := by
  cases q : exF l h n
  ·rfl
  ·have := ex_there T (Nat.le_of_lt (lt_get he)) q; omega
 refine ⟨g, t, ?_, ?_⟩
 ·unfold lvF
  rw [t, ex_succ he, if_neg (fun z => g z.2), x]
  rfl
 ·rw [lat_succ he, if_pos (.inr ⟨k, m⟩)]
theorem look_own {l : List Ev} (T : Tok l) {n : Nat} {e : Ev} (he : l[n]? = some e) {h : Int} (k : e.k ≠ 13) (g : e.g = h) : ¬ (e.k = 1 ∧ e.m = h) ∧ decide (h < there (l.take (n + 1))) = decide (h < there (l.take n)) ∧ lvF l h (n + 1) = (e.k != 11) ∧ latF l h (n + 1) = some n := by
 have hg := T.cw.lt he k
 have nm : ¬ (e.k = 1 ∧ e.m = h) := fun z => by have := T.cw.m he z.1; omega
 have t : decide (h < there (l.take (n + 1))) = decide (h < there (l.take n)) := by
  rw [th_next T he]
  have : decide (h < there (l.take n)) = true := by simp; omega
  rw [this, Bool.true_or]
 refine ⟨nm, t, ?_, ?_⟩
 ·unfold lvF
  rw [t, ex_succ he, if_pos ⟨k, g⟩]
  have : decide (h < there (l.take n)) = true := by simp; omega
  rw [this, Bool.true_and, bne, Bool.eq_iff_iff]
  simp
 ·rw [lat_succ he, if_pos (.inl ⟨k, g⟩)]
theorem look_other {l : List Ev} (T : Tok l) {n : Nat} {e : Ev} (he : l[n]? = some e) {h : Int} (h1 : ¬ (e.k = 1 ∧ e.m = h)) (h2 : ¬ (e.k ≠ 13 ∧ e.g = h)) : decide (h < there (l.take (n + 1))) = decide (h < there (l.take n)) ∧ lvF l h (n + 1) = lvF l h n ∧ latF l h (n + 1) = latF l h n := by
 have t : decide (h < there (l.take (n + 1))) = decide (h < there (l.take n)) := by
  rw [th_next T he]
  have : (decide (e.k = 1) && decide (e.m = h)) = false := by
   cases q : (decide (e.k = 1) && decide (e.m = h))
   ·rfl
   ·simp at q; exact absurd q h1
  rw [this, Bool.or_false]
 refine ⟨t, ?_, ?_⟩
 ·unfold lvF
  rw [t, ex_succ he, if_neg h2]
 ·rw [lat_succ he, if_neg (by rintro (z | z); exact h2 z; exact h1 z)]
theorem size_se : (Tryz.prog.info? 57).map (·.size) = some 4 := by kernel_rfl
theorem loadVar_se {w : World} {b : Nat} {c : Array Value} {t : TypeId} (h : w.heap[b]? = some (.cells c t (0, 0))) (hc : c.size = 4) : (loadVar 57 ⟨b, 0, none⟩).run Tryz.prog w = .ok (.agg c) w :=
 run_loadVar_row w b t _ _ _ _ h Tryz.underlying57 rfl (by rw [size_se, hc])
def SA (w : World) (C : Nat) (a b s : Bool) (p : Int) : Prop := w.heap[C]? = some (.cells #[.bool a, .bool b, .bool s, .int .i64 p] 57 (0, 0))
theorem SA.cells {w : World} {C : Nat} {a b s : Bool} {p : Int} (h : SA w C a b s p) : w.cell? ⟨C, 0, none⟩ = some (.bool a) ∧ w.cell? ⟨C, 1, none⟩ = some (.bool b) ∧ w.cell? ⟨C, 2, none⟩ = some (.bool s) ∧ w.cell? ⟨C, 3, none⟩ = some (.int .i64 p) ∧ w.frozen? ⟨C, 0, none⟩ = false ∧ w.frozen? ⟨C, 1, none⟩ = false ∧ w.frozen? ⟨C, 2, none⟩ = false ∧ w.frozen? ⟨C, 3, none⟩ = false :=
 ⟨cell_of h 0, cell_of h 1, cell_of h 2, cell_of h 3, frozen_of h 0, frozen_of h 1, frozen_of h 2, frozen_of h 3⟩
theorem SA.below {w w' : World} {C : Nat} {a b s : Bool} {p : Int} (h : SA w C a b s p) (hb : Below w.heap.size w w') : SA w' C a b s p := heap_below h hb
set_option maxRecDepth 100000 in
set_option maxHeartbeats 12800000 in
theorem look_any (w : World) (N G : Nat) (oa : Option Addr) (l : List Ev) (c : Nat) (h : Int) (T : TR w N G oa l) (tk : Tok l) (hl : l.length ≤ 100) (hc : l.length ≤ c) (h0 : 0 ≤ h) :
 Calls Tryz.prog 30 #[(.agg #[.slice oa l.length c, .pointer (some ⟨G, 0, none⟩)]), .int .i64 h] w fun r w' => ∃ s, r = .returned (.agg #[.bool (decide (h < there l)), .bool (lvF l h l.length), .bool s, .int .i64 (rfi (latF l h l.length))]) ∧ Below w.heap.size w w' := by
 have HE := hide T.es
 have TK := hide tk
 have TH0 : Hid (decide (h < there (l.take 0)) = (h == 0)) := by
  show _ = _
  rw [show there (l.take 0) = 1 from rfl, Bool.eq_iff_iff]
  simp
  omega
 have LV0 : Hid (lvF l h 0 = (h == 0)) := by
  show _ = _
  unfold lvF
  rw [TH0.out]
  simp [exF]
 obtain ⟨n, hn⟩ : ∃ n, l.length = n := ⟨_, rfl⟩
 have HN := hide hn
 have TN : Hid (there (l.take n) = there l) := by show _ = _; rw [← hn, List.take_length]
 rw [hn] at hl hc ⊢
 rw [← TN.out]
 have BX := hide (below_alloc w (.cells #[.slice oa n c, .pointer (some ⟨G, 0, none⟩)] 44))
 have X0 := hide (heap_new w (.cells #[.slice oa n c, .pointer (some ⟨G, 0, none⟩)] 44))
 have z0 : (w.alloc (.cells #[.slice oa n c, .pointer (some ⟨G, 0, none⟩)] 44)).heap.size = w.heap.size + 1 := World.size_alloc ..
 have Z0 := hide z0
 clear T hn tk z0
 go_enter Tryz.func30, Tryz.ntmps30
 go_upto_region 2 with fail
 have z2 : ((w.alloc (.cells #[.slice oa n c, .pointer (some ⟨G, 0, none⟩)] 44)).alloc (.cells #[.bool false, .bool false, .bool false, .int .i64 0] 57)).heap.size = w.heap.size + 1 + 1 := by rw [World.size_alloc, Z0.out]
 obtain ⟨w3, hw3⟩ : ∃ u, ((w.alloc (.cells #[.slice oa n c, .pointer (some ⟨G, 0, none⟩)] 44)).alloc (.cells #[.bool false, .bool false, .bool false, .int .i64 0] 57)).alloc (.cells #[.bool (h == 0), .bool (h == 0), .bool false, .int .i64 (-1)] 57) = u := ⟨_, rfl⟩
 have S3 : Hid (w3.heap[w.heap.size + 1 + 1]? = some (.cells #[.bool (h == 0), .bool (h == 0), .bool false, .int .i64 (-1)] 57)) := by
  show _ = _
  rw [← hw3, ← z2]
  exact heap_new _ _
 have R3 : Hid (w3.heap[w.heap.size + 1]? = some (.cells #[.bool false, .bool false, .bool false, .int .i64 0] 57)) := by
  show _ = _
  rw [← hw3, ← Z0.out]
  exact heap_below (heap_new _ _) (below_alloc _ _)
 have X3 : Hid (w3.heap[w.heap.size]? = some (.cells #[.slice oa n c, .pointer (some ⟨G, 0, none⟩)] 44)) := by
  show _ = _
  rw [← hw3]
  exact heap_below (heap_below X0.out (below_alloc _ _)) (below_alloc _ _)
 have B3 : Hid (Below w.heap.size w w3) := by
  show Below _ _ _
  rw [← hw3]
  exact btr (btr BX.out (below_alloc _ _)) (below_alloc _ _)
 have Z3 : Hid (w.heap.size + 1 + 1 < w3.heap.size) := by
  show _ < _
  rw [← hw3, World.size_alloc, z2]
  omega
 rw [hw3]
 clear hw3 z2 X0 BX Z0
 obtain ⟨D, hD⟩ : ∃ D, w.heap.size + 1 + 1 = D := ⟨_, rfl⟩
 obtain ⟨R, hR⟩ : ∃ R, w.heap.size + 1 = R := ⟨_, rfl⟩
 have LD : Hid (w.heap.size ≤ D ∧ w.heap.size ≤ R ∧ R ≠ D) := ⟨by omega, by omega, by omega⟩
 rw [hD] at S3 Z3 ⊢
 rw [hR] at R3 ⊢
 have t0 := cell_of X3.out 0
 simp at t0
 have I3 : Hid (SA w3 D (decide (h < there (l.take 0))) (lvF l h 0) false (rfi (latF l h 0))) := by
  show w3.heap[D]? = _
  rw [TH0.out, LV0.out]
  exact S3.out
 clear hD hR TH0 LV0 S3
 go_wp2_with fail
 clear t0
 go_loopw [16] (fun iv wr => ∃ (k : Nat) (s : Bool), k ≤ n ∧ iv = .int .i64 (k : Int) ∧ Below w.heap.size w wr ∧ D < wr.heap.size ∧ SA wr D (decide (h < there (l.take k))) (lvF l h k) s (rfi (latF l h k)) ∧ wr.heap[R]? = some (.cells #[.bool false, .bool false, .bool false, .int .i64 0] 57)) (fun iv _ => n - (intOf iv).toNat)
 case atStart => exact ⟨0, false, by omega, rfl, B3.out, Z3.out, I3.out, R3.out⟩
 case round =>
  obtain ⟨k, s, hk, rfl, bl, zr, sa, rr⟩ := hrel
  have BL := hide bl
  have SAk := hide sa
  have RR := hide rr
  have ZR := hide zr
  by_cases hlt : k < n
  ·have hlt' : (k : Int) < (n : Int) := by omega
   obtain ⟨x, hx⟩ : ∃ x, l[k]? = some x := get_lt (by rw [HN.out]; exact hlt)
   have E2 := hide (HE.out.below bl)
   obtain ⟨b1, o1, rfl, -⟩ := E2.out k x hx
   obtain ⟨p0, p1, p2, p3, p4, p5, p6, p7⟩ := E2.out.read hx
   have k0 : (0 : Int) ≤ (k : Int) := by omega
   have k1 : (k : Int) ≤ (c : Int) := by omega
   have HX := hide hx
   clear bl hx sa rr zr
   go_upto_region 5 with fail
   have X1 := hide (heap_new wr (.cells #[.int .i64 x.k, .int .i64 x.g, .int .i64 x.c, .int .i64 x.a, .int .i64 x.v, .int .i64 x.m, .bool x.s, .bool x.o] 50))
   have B1 := hide (btr BL.out (below_alloc wr (.cells #[.int .i64 x.k, .int .i64 x.g, .int .i64 x.c, .int .i64 x.a, .int .i64 x.v, .int .i64 x.m, .bool x.s, .bool x.o] 50)))
   have S1 := hide (SAk.out.below (below_alloc wr (.cells #[.int .i64 x.k, .int .i64 x.g, .int .i64 x.c, .int .i64 x.a, .int .i64 x.v, .int .i64 x.m, .bool x.s, .bool x.o] 50)))
   have R1 := hide (heap_below RR.out (below_alloc wr (.cells #[.int .i64 x.k, .int .i64 x.g, .int .i64 x.c, .int .i64 x.a, .int .i64 x.v, .int .i64 x.m, .bool x.s, .bool x.o] 50)))
   have Z1 : Hid (D < (wr.alloc (.cells #[.int .i64 x.k, .int .i64 x.g, .int .i64 x.c, .int .i64 x.a, .int .i64 x.v, .int .i64 x.m, .bool x.s, .bool x.o] 50)).heap.size ∧ wr.heap.size < (wr.alloc (.cells #[.int .i64 x.k, .int .i64 x.g, .int .i64 x.c, .int .i64 x.a, .int .i64 x.v, .int .i64 x.m, .bool x.s, .bool x.o] 50)).heap.size ∧ D < wr.heap.size) := by
    show _ ∧ _ ∧ _
    rw [World.size_alloc]
    have := ZR.out
    omega
   obtain ⟨w2, hw2⟩ : ∃ u, wr.alloc (.cells #[.int .i64 x.k, .int .i64 x.g, .int .i64 x.c, .int .i64 x.a, .int .i64 x.v, .int .i64 x.m, .bool x.s, .bool x.o] 50) = u := ⟨_, rfl⟩
   rw [hw2] at X1 B1 S1 R1 Z1 ⊢
   obtain ⟨B, hBB⟩ : ∃ B, wr.heap.size = B := ⟨_, rfl⟩
   rw [hBB] at X1 Z1 ⊢
   clear hw2 p0 p1 p2 p3 p4 p5 p6 p7 hBB E2
   have x0 := cell_of X1.out 0
   have x1 := cell_of X1.out 1
   have x5 := cell_of X1.out 5
   simp at x0 x1 x5
   obtain ⟨s0, s1, s2, s3, f0, f1, f2, f3⟩ := S1.out.cells
   have ne1 : D ≠ B := by have := Z1.out; omega
   have ne2 : B ≠ D := Ne.symm ne1
   by_cases q1 : x.k = 1 ∧ x.m = h
   ·obtain ⟨g1, g2, g3, g4⟩ := look_new TK.out HX.out q1.1 q1.2
    have G2 := hide g2
    have G3 := hide g3
    have G4 := hide g4
    have e1 : (x.k == 1) = true := by simpa using q1.1
    have e2 : (x.m == h) = true := by simpa using q1.2
    have e3 : (x.k != 13) = true := by simp [q1.1]
    have e4 : (x.g == h) = false := by simpa using g1
    clear q1 g1 g2 g3 g4
    go_wp2_with fail
    go_roundw
    case measure => simp [intOf]; omega
    case rel =>
     have K := ((((KB.refl D w2).setCell 0 (.bool true)).setCell 1 (.bool true)).setCell 2 (.bool false)).setCell 3 (.int .i64 (k : Int))
     refine ⟨k + 1, false, by omega, by simp, below_kb B1.out K LD.out.1 B1.out.size, Nat.lt_of_lt_of_le Z1.out.1 K.size, ?_, KB.heap K R1.out LD.out.2.2⟩
     rw [G2.out, G3.out, G4.out]
     exact Ba.heap_setCell_same (Ba.heap_setCell_same (Ba.heap_setCell_same (Ba.heap_setCell_same S1.out (i := 0) (.bool true)) (i := 1) (.bool true)) (i := 2) (.bool false)) (i := 3) (.int .i64 (k : Int))
   ·by_cases q2 : x.k ≠ 13 ∧ x.g = h
    ·obtain ⟨g1, g2, g3, g4⟩ := look_own TK.out HX.out q2.1 q2.2
     have G2 := hide g2
     have G3 := hide g3
     have G4 := hide g4
     have e3 : (x.k != 13) = true := by simpa using q2.1
     have e4 : (x.g == h) = true := by simpa using q2.2
     cases e1 : (x.k == 1)
     ·clear q2 g1 g2 g3 g4
      go_wp2_with fail
      go_roundw
      case measure => simp [intOf]; omega
      case rel =>
       have K := (((KB.refl D w2).setCell 3 (.int .i64 (k : Int))).setCell 1 (.bool (x.k != 11))).setCell 2 (.bool (x.k == 6))
       refine ⟨k + 1, (x.k == 6), by omega, by simp, below_kb B1.out K LD.out.1 B1.out.size, Nat.lt_of_lt_of_le Z1.out.1 K.size, ?_, KB.heap K R1.out LD.out.2.2⟩
       rw [G2.out, G3.out, G4.out]
       exact Ba.heap_setCell_same (Ba.heap_setCell_same (Ba.heap_setCell_same S1.out (i := 3) (.int .i64 (k : Int))) (i := 1) (.bool (x.k != 11))) (i := 2) (.bool (x.k == 6))
     ·have e2 : (x.m == h) = false := by
       rw [Bool.eq_false_iff]
       intro z
       exact q1 ⟨by simpa using e1, by simpa using z⟩
      clear q2 g1 g2 g3 g4
      go_wp2_with fail
      go_roundw
      case measure => simp [intOf]; omega
      case rel =>
       have K := (((KB.refl D w2).setCell 3 (.int .i64 (k : Int))).setCell 1 (.bool (x.k != 11))).setCell 2 (.bool (x.k == 6))
       refine ⟨k + 1, (x.k == 6), by omega, by simp, below_kb B1.out K LD.out.1 B1.out.size, Nat.lt_of_lt_of_le Z1.out.1 K.size, ?_, KB.heap K R1.out LD.out.2.2⟩
       rw [G2.out, G3.out, G4.out]
       exact Ba.heap_setCell_same (Ba.heap_setCell_same (Ba.heap_setCell_same S1.out (i := 3) (.int .i64 (k : Int))) (i := 1) (.bool (x.k != 11))) (i := 2) (.bool (x.k == 6))
    ·obtain ⟨g2, g3, g4⟩ := look_other TK.out HX.out q1 q2
     have G2 := hide g2
     have G3 := hide g3
     have G4 := hide g4
     clear g2 g3 g4
     cases e1 : (x.k == 1)
     ·cases e3 : (x.k != 13)
      ·go_wp2_with fail
       go_roundw
       case measure => simp [intOf]; omega
       case rel => exact ⟨k + 1, s, by omega, by simp, B1.out, Z1.out.1, by rw [G2.out, G3.out, G4.out]; exact S1.out, R1.out⟩
      ·have e4 : (x.g == h) = false := by
        rw [Bool.eq_false_iff]
        intro z
        exact q2 ⟨by simpa using e3, by simpa using z⟩
       go_wp2_with fail
       go_roundw
       case measure => simp [intOf]; omega
       case rel => exact ⟨k + 1, s, by omega, by simp, B1.out, Z1.out.1, by rw [G2.out, G3.out, G4.out]; exact S1.out, R1.out⟩
     ·have e2 : (x.m == h) = false := by
       rw [Bool.eq_false_iff]
       intro z
       exact q1 ⟨by simpa using e1, by simpa using z⟩
      have e3 : (x.k != 13) = true := by
       have : x.k = 1 := by simpa using e1
       simp [this]
      have e4 : (x.g == h) = false := by
       rw [Bool.eq_false_iff]
       intro z
       exact q2 ⟨by simpa using e3, by simpa using z⟩
      go_wp2_with fail
      go_roundw
      case measure => simp [intOf]; omega
      case rel => exact ⟨k + 1, s, by omega, by simp, B1.out, Z1.out.1, by rw [G2.out, G3.out, G4.out]; exact S1.out, R1.out⟩
  ·obtain rfl : k = n := by omega
   have r0 := cell_of RR.out 0
   have r1 := cell_of RR.out 1
   have r2 := cell_of RR.out 2
   have r3 := cell_of RR.out 3
   have f0 := frozen_of RR.out 0
   have f1 := frozen_of RR.out 1
   have f2 := frozen_of RR.out 2
   have f3 := frozen_of RR.out 3
   simp at r0 r1 r2 r3
   obtain ⟨s0, s1, s2, s3, -, -, -, -⟩ := SAk.out.cells
   clear bl sa rr zr
   go_wp2_with fail
   have K := ((((KB.refl R wr).setCell 0 (.bool (decide (h < there (l.take k))))).setCell 1 (.bool (lvF l h k))).setCell 2 (.bool s)).setCell 3 (.int .i64 (rfi (latF l h k)))
   exact bodyPost_ret (En.results_row1 Tryz.results30 _ _ _ _ rfl (loadVar_se (Ba.heap_setCell_same (Ba.heap_setCell_same (Ba.heap_setCell_same (Ba.heap_setCell_same RR.out (i := 0) (.bool (decide (h < there (l.take k))))) (i := 1) (.bool (lvF l h k))) (i := 2) (.bool s)) (i := 3) (.int .i64 (rfi (latF l h k)))) rfl)) rfl ⟨s, rfl, below_kb BL.out K LD.out.2.1 BL.out.size⟩
end Ax
end Go.Proofs.YtblfimobiibmjaaGreat
