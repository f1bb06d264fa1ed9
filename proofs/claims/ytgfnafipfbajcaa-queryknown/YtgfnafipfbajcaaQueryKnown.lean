/- Up to which clock a goroutine is known to an event, and its record, are answered as the document says. -/
import Derived.Test.YtgfnafipfbajcaaUqd
import Derived.ShutString
import Derived.ChangeOld
import Derived.Below
namespace Go.Proofs.Ytgfnafipfbajcaa.queryKnown
open Go.ChangeShapes Go.WideShapes Go.ChangeAt Go.RowKit
open Go.ChangeMaps (open_string shut_string)
open Qu Ba Rk

theorem own : ownKnob Try.prog.godebug = none := by kernel_rfl
theorem laidOut : laidOutB Try.prog = true := by kernel_rfl

/-- Known's answer, whatever the place -/
def knB (x : Lx) (b g : Int) : Int := if hsE x.es.length x.ss.length b then
    (match x.es[b.toNat]?, x.ss[b.toNat]? with
      | some q, some u => knV x.rs b q u g
      | _, _ => 0)
  else 0
def knF (x : Lx) (b g : Int) : Int := if hsE x.es.length x.ss.length b then
    (match x.es[b.toNat]?, x.ss[b.toNat]? with
      | some q, some u => knE x.rs q u g
      | _, _ => 0)
  else 1
theorem known_x (x : Lx) (b g : Int) (w : World) (h : LG w x.oe x.os x.od x.es x.ss x.rs) (hl : x.rs.length ≤ 500) :
    Calls Try.prog 11 #[lv_ x, .int .i64 b, .int .i64 g] w fun r w' => r = .returned (.tuple #[.int .i64 (knB x b g), .int .i64 (knF x b g)]) ∧ Below w.heap.size w w' := by
  unfold knB knF lv_
  cases hq : hsE x.es.length x.ss.length b with
  | false =>
    simp only [Bool.false_eq_true, if_false]
    exact kno_arg x.oe x.os x.od _ _ _ _ _ _ b g w hq
  | true =>
    obtain ⟨e, kb, rfl, hb⟩ := hs_yes hq
    simp only [if_true, Int.toNat_natCast]
    have p2 : x.es[kb]? = some x.es[kb] := List.getElem?_eq_getElem hb
    have p4 : x.ss[kb]? = some (x.ss[kb]'(by omega)) := List.getElem?_eq_getElem (by omega)
    rw [p2, p4]
    exact kno_in x.oe x.os x.od x.ce x.cs x.cd x.es x.ss x.rs kb g _ _ w h e p2 p4 (by omega)
theorem rknown_x (x : Lx) (ot oq : Option Addr) (c1 c2 : Nat) (b g : Int) (w : World) (h : RG w x.oe ot oq x.es (x.ss.map rfs) x.rs) (hl : x.rs.length ≤ 500) :
    Calls Try.prog 12 #[.agg #[.slice x.oe x.es.length x.ce, .slice ot x.ss.length c1, .slice oq x.rs.length c2], .int .i64 b, .int .i64 g] w fun r w' => r = .returned (.tuple #[.int .i64 (knB x b g), .int .i64 (knF x b g)]) ∧ Below w.heap.size w w' := by
  unfold knB knF
  cases hq : hsE x.es.length x.ss.length b with
  | false =>
    simp only [Bool.false_eq_true, if_false]
    exact rkno_arg x.oe ot oq _ _ _ _ _ _ b g w hq
  | true =>
    obtain ⟨e, kb, rfl, hb⟩ := hs_yes hq
    simp only [if_true, Int.toNat_natCast]
    have p2 : x.es[kb]? = some x.es[kb] := List.getElem?_eq_getElem hb
    have p4 : x.ss[kb]? = some (x.ss[kb]'(by omega)) := List.getElem?_eq_getElem (by omega)
    rw [p2, p4]
    simp only
    have q4 : (x.ss.map rfs)[kb]? = some (rfs (x.ss[kb]'(by omega))) := by rw [List.getElem?_map, p4]; rfl
    have hn : (x.ss.map rfs).length = x.es.length := by rw [List.length_map]; exact e
    have := rkno_in x.oe ot oq x.ce c1 c2 x.es (x.ss.map rfs) x.rs kb g _ _ w h hn p2 q4 (by omega)
    rw [(rkn_is _ _ _ _ _).1, (rkn_is x.rs (kb : Int) _ _ g).2, List.length_map] at this
    exact this
set_option maxRecDepth 100000 in
set_option maxHeartbeats 12800000 in
theorem core {w : World} (x : Lx) (hx : LX w x) (b g : Int) :
    Calls Try.prog 4 #[lv_ x, .int .i64 b, .int .i64 g] w fun r w' => r = .returned (.bool true) ∧ Below w.heap.size w w' := by
  have CU := hide fun u => cut_any u
  have LR := hide fun u => large_any x.oe x.os x.od x.es.length x.ce x.ss.length x.cs x.rs.length x.cd u
  have LG0 := hide hx.1
  clear hx
  have b0 := below_alloc w (.cells #[.slice x.oe x.es.length x.ce, .slice x.os x.ss.length x.cs, .slice x.od x.rs.length x.cd] 26)
  have L0 := hide (LG0.out.below b0)
  have B0 := hide b0
  have H0 := hide (heap_new w (.cells #[.slice x.oe x.es.length x.ce, .slice x.os x.ss.length x.cs, .slice x.od x.rs.length x.cd] 26))
  clear b0 LG0
  cases hlr : lrg x.es.length x.ss.length x.rs.length with
  | true =>
    rw [hlr] at LR
    unfold lv_
    go_enter Try.func4, Try.ntmps4
    go_wp2_with fail
    refine (LR.out _).mono ?_
    rintro r w1 ⟨rfl, b1⟩
    have B1 := hide (btr B0.out b1)
    clear b1
    go_wp2_with fail
    refine (CU.out _).mono ?_
    rintro r w2 ⟨rfl, b2⟩
    have B2 := hide (btr B1.out b2)
    clear b2
    go_wp2_with fail
    go_ret
    exact ⟨rfl, B2.out⟩
  | false =>
    rw [hlr] at LR
    have hsz : x.es.length ≤ 500 ∧ x.ss.length ≤ 500 ∧ x.rs.length ≤ 500 := by
      unfold lrg at hlr
      simp at hlr
      omega
    clear hlr
    have KN := hide fun u (hu : LG u x.oe x.os x.od x.es x.ss x.rs) => known_x x b g u hu hsz.2.2
    have RK := hide fun ot oq c1 c2 u (hu : RG u x.oe ot oq x.es (x.ss.map rfs) x.rs) => rknown_x x ot oq c1 c2 b g u hu hsz.2.2
    have RF := hide fun u (hu : LG u x.oe x.os x.od x.es x.ss x.rs) => refl_any x.oe x.os x.od x.ce x.cs x.cd x.es x.ss x.rs u hu hsz.2.1 hsz.2.2
    have RC := hide fun u (hu : LG u x.oe x.os x.od x.es x.ss x.rs) => record_any x.oe x.os x.od x.es.length x.ce x.ss.length x.cs x.cd x.rs g u hu.rc (by omega)
    have OF := hide fun ot oq c1 c2 u (hu : RG u x.oe ot oq x.es (x.ss.map rfs) x.rs) => rof_any x.oe ot oq x.es.length x.ce x.ss.length c1 c2 x.rs g u hu.rc (by omega)
    have hoi := oi_fd x.rs g
    unfold lv_ at KN ⊢
    generalize knB x b g = zB at KN RK
    generalize knF x b g = zE at KN RK
    obtain ⟨oe, os, od, ce, cs, cd, es, ss, rs⟩ := x
    simp only at *
    generalize oi rs g = O at OF hoi
    generalize fd rs g = FD at RC hoi
    obtain ⟨ld, hld⟩ : ∃ ld, rs.length = ld := ⟨_, rfl⟩
    rw [hld] at KN RK RF RC OF LR B0 L0 H0 hoi ⊢
    generalize es.length = le at *
    generalize ss.length = ls at *
    clear hsz hld
    rcases hoi with ⟨e1, e2⟩ | ⟨k, X, e1, e2, e3, e4⟩
    · subst e1 e2
      unfold fdR zr rv at RC
      simp only [Option.getD_none, Option.isSome_none] at RC
      have EQ : ∀ u, (Op.equalIn 10000 45 (.agg #[.int .i64 0, .int .i64 0, .int .i64 0, .bool false, .int .i64 0, .int .i64 0]) (.agg #[.int .i64 0, .int .i64 0, .int .i64 0, .bool false, .int .i64 0, .int .i64 0])).run Try.prog u = .ok true u := fun u => by
        have := eqR zr zr u
        rw [rdb_self] at this
        exact this
      go_enter Try.func4, Try.ntmps4
      go_wp2_with fail
      generalize w.alloc (.cells #[.slice oe le ce, .slice os ls cs, .slice od ld cd] 26) = W0 at *
      refine (LR.out _).mono ?_
      rintro r w1 ⟨rfl, b1⟩
      have B1 := hide (btr B0.out b1)
      have L1 := hide (L0.out.below b1)
      have N1 := hide (heap_below H0.out b1)
      have x0 : w1.cell? ⟨w.heap.size, 0, none⟩ = some (.slice oe le ce) := cell_of N1.out 0
      have x1 : w1.cell? ⟨w.heap.size, 1, none⟩ = some (.slice os ls cs) := cell_of N1.out 1
      have x2 : w1.cell? ⟨w.heap.size, 2, none⟩ = some (.slice od ld cd) := cell_of N1.out 2
      clear b1
      go_wp2_with fail
      refine (RF.out _ L1.out).mono ?_
      rintro r w2 ⟨ot, c1, oq, c2, rfl, g2, b2⟩
      have bA := below_alloc w2 (.cells #[.slice oe le ce, .slice ot ls c1, .slice oq ld c2] 37)
      have B3 := hide (btr (btr B1.out b2) bA)
      have L3 := hide (L1.out.below (btr b2 bA))
      have N2 := hide (heap_below N1.out b2)
      have N3 := hide (heap_below N2.out bA)
      have hN2 := heap_lt N2.out
      have G3 := hide (g2.below bA)
      have M3 := hide (heap_new w2 (.cells #[.slice oe le ce, .slice ot ls c1, .slice oq ld c2] 37))
      clear b2 g2 bA x0 x1 x2
      have x0 : w2.cell? ⟨w.heap.size, 0, none⟩ = some (.slice oe le ce) := cell_of N2.out 0
      have x1 : w2.cell? ⟨w.heap.size, 1, none⟩ = some (.slice os ls cs) := cell_of N2.out 1
      have x2 : w2.cell? ⟨w.heap.size, 2, none⟩ = some (.slice od ld cd) := cell_of N2.out 2
      go_wp2_with fail
      generalize w2.alloc (.cells #[.slice oe le ce, .slice ot ls c1, .slice oq ld c2] 37) = W3 at *
      generalize w2.heap.size = Q at *
      refine (KN.out _ L3.out).mono ?_
      rintro r w4 ⟨rfl, b4⟩
      have B4 := hide (btr B3.out b4)
      have L4 := hide (L3.out.below b4)
      have N4 := hide (heap_below N3.out b4)
      have G4 := hide (G3.out.below b4)
      have M4 := hide (heap_below M3.out b4)
      have m0 : w4.cell? ⟨Q, 0, none⟩ = some (.slice oe le ce) := cell_of M4.out 0
      have m1 : w4.cell? ⟨Q, 1, none⟩ = some (.slice ot ls c1) := cell_of M4.out 1
      have m2 : w4.cell? ⟨Q, 2, none⟩ = some (.slice oq ld c2) := cell_of M4.out 2
      clear b4 x0 x1 x2 hN2
      go_wp2_with fail
      refine (RK.out _ _ _ _ _ G4.out).mono ?_
      rintro r w5 ⟨rfl, b5⟩
      have B5 := hide (btr B4.out b5)
      have L5 := hide (L4.out.below b5)
      have N5 := hide (heap_below N4.out b5)
      have G5 := hide (G4.out.below b5)
      have M5 := hide (heap_below M4.out b5)
      have x0 : w5.cell? ⟨w.heap.size, 0, none⟩ = some (.slice oe le ce) := cell_of N5.out 0
      have x1 : w5.cell? ⟨w.heap.size, 1, none⟩ = some (.slice os ls cs) := cell_of N5.out 1
      have x2 : w5.cell? ⟨w.heap.size, 2, none⟩ = some (.slice od ld cd) := cell_of N5.out 2
      clear b5 m0 m1 m2
      go_wp2_with fail
      refine (RC.out _ L5.out).mono ?_
      rintro r w6 ⟨rfl, b6⟩
      have bA := below_alloc w6 (.cells #[.int .i64 0, .int .i64 0, .int .i64 0, .bool false, .int .i64 0, .int .i64 0] 45)
      have B7 := hide (btr (btr B5.out b6) bA)
      have L7 := hide (L5.out.below (btr b6 bA))
      have N6 := hide (heap_below N5.out b6)
      have N7 := hide (heap_below N6.out bA)
      have G7 := hide (G5.out.below (btr b6 bA))
      have M6 := hide (heap_below M5.out b6)
      have M7 := hide (heap_below M6.out bA)
      have R7 := hide (heap_new w6 (.cells #[.int .i64 0, .int .i64 0, .int .i64 0, .bool false, .int .i64 0, .int .i64 0] 45))
      have hM6 := heap_lt M6.out
      have m0 : w6.cell? ⟨Q, 0, none⟩ = some (.slice oe le ce) := cell_of M6.out 0
      have m1 : w6.cell? ⟨Q, 1, none⟩ = some (.slice ot ls c1) := cell_of M6.out 1
      have m2 : w6.cell? ⟨Q, 2, none⟩ = some (.slice oq ld c2) := cell_of M6.out 2
      clear b6 bA x0 x1 x2
      go_wp2_with fail
      generalize w6.alloc (.cells #[.int .i64 0, .int .i64 0, .int .i64 0, .bool false, .int .i64 0, .int .i64 0] 45) = W7 at *
      generalize w6.heap.size = T at *
      refine (OF.out _ _ _ _ _ G7.out).mono ?_
      rintro r w8 ⟨rfl, b8⟩
      have B8 := hide (btr B7.out b8)
      have L8 := hide (L7.out.below b8)
      have N8 := hide (heap_below N7.out b8)
      have R8 := hide (heap_below R7.out b8)
      clear b8 m0 m1 m2 hM6
      have r0 := cell_of R8.out 0
      have r1 := cell_of R8.out 1
      have r2 := cell_of R8.out 2
      have r3 := cell_of R8.out 3
      have r4 := cell_of R8.out 4
      have r5 := cell_of R8.out 5
      simp at r0 r1 r2 r3 r4 r5
      go_wp2_with fail
      try simp only [List.append_eq, List.cons_append, List.nil_append]
      go_quiet (fail)
      go_wp2_with fail
      refine (CU.out _).mono ?_
      rintro r w9 ⟨rfl, b9⟩
      have B9 := hide (btr (btr B8.out (bdrew _ _)) b9)
      clear b9
      go_wp2_with fail
      go_ret
      exact ⟨rfl, B9.out⟩
    · subst e1 e2
      unfold fdR at RC
      simp only [Option.getD_some, Option.isSome_some] at RC
      have EX := hide e3
      have hk1 : (k : Int) < (ld : Int) := by omega
      have hk0 : decide ((0 : Int) ≤ (k : Int)) = true := decide_eq_true (by omega)
      have EQ := fun u => eqR X X u
      rw [rdb_self] at EQ
      unfold rv at RC EQ
      obtain ⟨Xg, Xt, Xf, Xb, Xl, Xc⟩ := X
      simp only at RC EQ
      clear e3
      go_enter Try.func4, Try.ntmps4
      go_wp2_with fail
      generalize w.alloc (.cells #[.slice oe le ce, .slice os ls cs, .slice od ld cd] 26) = W0 at *
      refine (LR.out _).mono ?_
      rintro r w1 ⟨rfl, b1⟩
      have B1 := hide (btr B0.out b1)
      have L1 := hide (L0.out.below b1)
      have N1 := hide (heap_below H0.out b1)
      have x0 : w1.cell? ⟨w.heap.size, 0, none⟩ = some (.slice oe le ce) := cell_of N1.out 0
      have x1 : w1.cell? ⟨w.heap.size, 1, none⟩ = some (.slice os ls cs) := cell_of N1.out 1
      have x2 : w1.cell? ⟨w.heap.size, 2, none⟩ = some (.slice od ld cd) := cell_of N1.out 2
      clear b1
      go_wp2_with fail
      refine (RF.out _ L1.out).mono ?_
      rintro r w2 ⟨ot, c1, oq, c2, rfl, g2, b2⟩
      have bA := below_alloc w2 (.cells #[.slice oe le ce, .slice ot ls c1, .slice oq ld c2] 37)
      have B3 := hide (btr (btr B1.out b2) bA)
      have L3 := hide (L1.out.below (btr b2 bA))
      have N2 := hide (heap_below N1.out b2)
      have N3 := hide (heap_below N2.out bA)
      have hN2 := heap_lt N2.out
      have G3 := hide (g2.below bA)
      have M3 := hide (heap_new w2 (.cells #[.slice oe le ce, .slice ot ls c1, .slice oq ld c2] 37))
      clear b2 g2 bA x0 x1 x2
      have x0 : w2.cell? ⟨w.heap.size, 0, none⟩ = some (.slice oe le ce) := cell_of N2.out 0
      have x1 : w2.cell? ⟨w.heap.size, 1, none⟩ = some (.slice os ls cs) := cell_of N2.out 1
      have x2 : w2.cell? ⟨w.heap.size, 2, none⟩ = some (.slice od ld cd) := cell_of N2.out 2
      go_wp2_with fail
      generalize w2.alloc (.cells #[.slice oe le ce, .slice ot ls c1, .slice oq ld c2] 37) = W3 at *
      generalize w2.heap.size = Q at *
      refine (KN.out _ L3.out).mono ?_
      rintro r w4 ⟨rfl, b4⟩
      have B4 := hide (btr B3.out b4)
      have L4 := hide (L3.out.below b4)
      have N4 := hide (heap_below N3.out b4)
      have G4 := hide (G3.out.below b4)
      have M4 := hide (heap_below M3.out b4)
      have m0 : w4.cell? ⟨Q, 0, none⟩ = some (.slice oe le ce) := cell_of M4.out 0
      have m1 : w4.cell? ⟨Q, 1, none⟩ = some (.slice ot ls c1) := cell_of M4.out 1
      have m2 : w4.cell? ⟨Q, 2, none⟩ = some (.slice oq ld c2) := cell_of M4.out 2
      clear b4 x0 x1 x2 hN2
      go_wp2_with fail
      refine (RK.out _ _ _ _ _ G4.out).mono ?_
      rintro r w5 ⟨rfl, b5⟩
      have B5 := hide (btr B4.out b5)
      have L5 := hide (L4.out.below b5)
      have N5 := hide (heap_below N4.out b5)
      have G5 := hide (G4.out.below b5)
      have M5 := hide (heap_below M4.out b5)
      have x0 : w5.cell? ⟨w.heap.size, 0, none⟩ = some (.slice oe le ce) := cell_of N5.out 0
      have x1 : w5.cell? ⟨w.heap.size, 1, none⟩ = some (.slice os ls cs) := cell_of N5.out 1
      have x2 : w5.cell? ⟨w.heap.size, 2, none⟩ = some (.slice od ld cd) := cell_of N5.out 2
      clear b5 m0 m1 m2
      go_wp2_with fail
      refine (RC.out _ L5.out).mono ?_
      rintro r w6 ⟨rfl, b6⟩
      have bA := below_alloc w6 (.cells #[.int .i64 Xg, .int .i64 Xt, .int .i64 Xf, .bool Xb, .int .i64 Xl, .int .i64 Xc] 45)
      have B7 := hide (btr (btr B5.out b6) bA)
      have L7 := hide (L5.out.below (btr b6 bA))
      have N6 := hide (heap_below N5.out b6)
      have N7 := hide (heap_below N6.out bA)
      have G7 := hide (G5.out.below (btr b6 bA))
      have M6 := hide (heap_below M5.out b6)
      have M7 := hide (heap_below M6.out bA)
      have R7 := hide (heap_new w6 (.cells #[.int .i64 Xg, .int .i64 Xt, .int .i64 Xf, .bool Xb, .int .i64 Xl, .int .i64 Xc] 45))
      have hM6 := heap_lt M6.out
      have m0 : w6.cell? ⟨Q, 0, none⟩ = some (.slice oe le ce) := cell_of M6.out 0
      have m1 : w6.cell? ⟨Q, 1, none⟩ = some (.slice ot ls c1) := cell_of M6.out 1
      have m2 : w6.cell? ⟨Q, 2, none⟩ = some (.slice oq ld c2) := cell_of M6.out 2
      clear b6 bA x0 x1 x2
      go_wp2_with fail
      generalize w6.alloc (.cells #[.int .i64 Xg, .int .i64 Xt, .int .i64 Xf, .bool Xb, .int .i64 Xl, .int .i64 Xc] 45) = W7 at *
      generalize w6.heap.size = T at *
      refine (OF.out _ _ _ _ _ G7.out).mono ?_
      rintro r w8 ⟨rfl, b8⟩
      have B8 := hide (btr B7.out b8)
      have L8 := hide (L7.out.below b8)
      have N8 := hide (heap_below N7.out b8)
      have R8 := hide (heap_below R7.out b8)
      clear b8 m0 m1 m2 hM6
      have r0 := cell_of R8.out 0
      have r1 := cell_of R8.out 1
      have r2 := cell_of R8.out 2
      have r3 := cell_of R8.out 3
      have r4 := cell_of R8.out 4
      have r5 := cell_of R8.out 5
      simp at r0 r1 r2 r3 r4 r5
      have y2 : w8.cell? ⟨w.heap.size, 2, none⟩ = some (.slice od ld cd) := cell_of N8.out 2
      obtain ⟨rb, ro, er, s0, s1, s2, s3, s4, s5⟩ := L8.out.rc.read EX.out
      subst er
      simp only at s0 s1 s2 s3 s4 s5
      go_wp2_with fail
      try simp only [List.append_eq, List.cons_append, List.nil_append]
      go_quiet (fail)
      go_wp2_with fail
      refine (CU.out _).mono ?_
      rintro r w9 ⟨rfl, b9⟩
      have B9 := hide (btr (btr B8.out (bdrew _ _)) b9)
      clear b9
      go_wp2_with fail
      go_ret
      exact ⟨rfl, B9.out⟩

/-! ### the row -/
set_option maxRecDepth 100000 in
theorem lifted (os : Os) (started : os.Started) (H : Type) (enc : TypeId × Value → H) :
    ReturnsInHanded {} Try.checked os 4 .any (Rows.queryKnownSpec.pre6 enc Try.prog Try.f4 Rows.queryKnownRow.domain false) (Rows.queryKnownSpec.post enc Try.prog Try.f4 false true false false) := by
  refine returnsInHanded_of_change (C := Try.checked) own started (by kernel_rfl) Try.func4
    (ChangeSpec.witness6 (enc := enc) (C := Try.checked) false ⟨#[], #[.agg #[.slice none 0 0, .slice none 0 0, .slice none 0 0], .int .i64 0, .int .i64 0], []⟩ 8 (by kernel_rfl) (by kernel_rfl) (by kernel_rfl) (by kernel_rfl)) ?_
  intro W base args ds gs before hval0 hW hcnd _
  have hval : ∀ (j : Nat) t v, Try.f4.params[j]? = some t → args[j]? = some v → Value.okWide Try.prog W .any base t v := hval0
  have hW' := hW
  obtain ⟨p, q, hA0, hV, rfl, hfz, hnd⟩ := hW
  have hA : DataW.TrodAll enc Try.prog W 0 (fun _ => true) true Try.f4.params.toList args.toList ds p := hA0
  rw [Try.params4] at hA hval
  obtain ⟨v0, vs0, d0, ds0, p0, q0, hargs, rfl, rfl, h0, r0⟩ := trodAll_cons hA
  obtain ⟨v1, vs1, d1, ds1, p1, q1, rfl, rfl, rfl, h1, r1⟩ := trodAll_cons r0
  obtain ⟨v2, vs2, d2, ds2, p2, q2, rfl, rfl, rfl, h2, r2⟩ := trodAll_cons r1
  obtain ⟨rfl, rfl, rfl⟩ := trodAll_nil r2
  obtain rfl : args = #[v0, v1, v2] := by cases args; simp_all
  obtain ⟨rfl, rfl⟩ := trodVars_none hV
  have k0 := h0
  have lt0 : ∀ x ∈ p0, x.block < W.heap.size := by obtain ⟨m, hm⟩ := k0; exact DataW.trod_lt m _ _ _ hm
  obtain ⟨x0, rfl, X0⟩ := h0.elim fun _ hf => log_open hf
  obtain ⟨a1, rfl, rfl, rfl, w1⟩ := open_int Try.underlying3 (hval 1 3 v1 rfl rfl) h1
  obtain ⟨a2, rfl, rfl, rfl, w2⟩ := open_int Try.underlying3 (hval 2 3 v2 rfl rfl) h2
  clear hA0 hval0
  refine (core (w := W) x0 X0 a1 a2).mono fun e W' ⟨he, bel⟩ => ?_
  subst he
  exact ⟨_, rfl, _, _, _, [], _, [], hW', trodAll_mk1 (shut_bool Try.underlying4 _), (trodAll_cons_mk (Below.trod laidOut (by kernel_rfl) (of_decide_eq_true (by kernel_rfl)) k0 bel lt0) (trodAll_cons_mk (shut_int Try.underlying3 w1) (trodAll_cons_mk (shut_int Try.underlying3 w2) trodAll_mk0))), rfl, bel.frame _, fun h => by cases h⟩

theorem over : Rows.queryKnownRow.holds Try.pinned (OpenSpec.ofChange Rows.queryKnownSpec) :=
  OpenClaim.holds_of_wide 4 Try.f4 rfl rfl rfl rfl rfl rfl rfl ⟨rfl, rfl, rfl, rfl, rfl⟩ rfl rfl rfl rfl rfl (by kernel_rfl) Try.func4 (by kernel_rfl)
    (of_decide_eq_true (by kernel_rfl)) (by unfold Func.isWrapper; first | (rw [if_pos (by decide +kernel)]; kernel_rfl) | (rw [if_neg (by decide +kernel)]; exact ⟨rfl, rfl⟩))
    (fun os started H enc _ => lifted os started H enc)

/-- the statement -/
theorem proved : Rows.QueryKnownSaid := over
#print axioms proved
end Go.Proofs.Ytgfnafipfbajcaa.queryKnown
