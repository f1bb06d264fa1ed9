/- Whether one event of any log was ahead of another one is answered as the document says. -/
import Derived.Test.YtgfnafipfbajcaaUqd
import Derived.ShutString
import Derived.ChangeOld
import Derived.Below
namespace Go.Proofs.Ytgfnafipfbajcaa.queryBefore
open Go.ChangeShapes Go.WideShapes Go.ChangeAt Go.RowKit
open Go.ChangeMaps (open_string shut_string)
open Qu Ba Rk

theorem own : ownKnob Try.prog.godebug = none := by kernel_rfl
theorem laidOut : laidOutB Try.prog = true := by kernel_rfl

theorem rbefore_x (x : Lx) (ot oq : Option Addr) (c1 c2 : Nat) (a b : Int) (w : World) (h : RG w x.oe ot oq x.es (x.ss.map rfs) x.rs) (hl : x.rs.length ≤ 500) :
    Calls Try.prog 9 #[.agg #[.slice x.oe x.es.length x.ce, .slice ot x.ss.length c1, .slice oq x.rs.length c2], .int .i64 a, .int .i64 b] w fun r w' => r = .returned (.tuple #[.bool (bfB x a b), .int .i64 (bfE x a b)]) ∧ Below w.heap.size w w' := by
  unfold bfB bfE
  cases hq : (hsE x.es.length x.ss.length a && hsE x.es.length x.ss.length b) with
  | false =>
    simp only [Bool.false_eq_true, if_false]
    exact rbef_arg x.oe ot oq _ _ _ _ _ _ a b w hq
  | true =>
    rw [Bool.and_eq_true] at hq
    obtain ⟨e, ka, rfl, ha⟩ := hs_yes hq.1
    obtain ⟨-, kb, rfl, hb⟩ := hs_yes hq.2
    simp only [if_true, Int.toNat_natCast]
    have p1 : x.es[ka]? = some x.es[ka] := List.getElem?_eq_getElem ha
    have p2 : x.es[kb]? = some x.es[kb] := List.getElem?_eq_getElem hb
    have p3 : x.ss[ka]? = some (x.ss[ka]'(by omega)) := List.getElem?_eq_getElem (by omega)
    have p4 : x.ss[kb]? = some (x.ss[kb]'(by omega)) := List.getElem?_eq_getElem (by omega)
    rw [p1, p2, p3, p4]
    simp only
    have q3 : (x.ss.map rfs)[ka]? = some (rfs (x.ss[ka]'(by omega))) := by rw [List.getElem?_map, p3]; rfl
    have q4 : (x.ss.map rfs)[kb]? = some (rfs (x.ss[kb]'(by omega))) := by rw [List.getElem?_map, p4]; rfl
    have hn : (x.ss.map rfs).length = x.es.length := by rw [List.length_map]; exact e
    have := rbef_in x.oe ot oq x.ce c1 c2 x.es (x.ss.map rfs) x.rs ka kb _ _ _ _ w h hn p1 q3 p2 q4 (by omega)
    rw [(rbf_is _ _ _ _ _ _ _).1, (rbf_is x.rs ka kb _ _ _ _).2, List.length_map] at this
    exact this
set_option maxRecDepth 100000 in
set_option maxHeartbeats 12800000 in
theorem core {w : World} (x : Lx) (hx : LX w x) (a b : Int) :
    Calls Try.prog 3 #[lv_ x, .int .i64 a, .int .i64 b] w fun r w' => r = .returned (.bool true) ∧ Below w.heap.size w w' := by
  have CU := hide fun u => cut_any u
  have LR := hide fun u => large_any x.oe x.os x.od x.es.length x.ce x.ss.length x.cs x.rs.length x.cd u
  have LG0 := hide hx.1
  clear hx
  have b0 := below_alloc w (.cells #[.slice x.oe x.es.length x.ce, .slice x.os x.ss.length x.cs, .slice x.od x.rs.length x.cd] 26)
  have L0 := hide (LG0.out.below b0)
  have B0 := hide b0
  have H0 := hide (heap_new w (.cells #[.slice x.oe x.es.length x.ce, .slice x.os x.ss.length x.cs, .slice x.od x.rs.length x.cd] 26))
  clear b0 LG0
  cases hlr : lrg x.es.length x.ss.length x.rs.length with
  | true =>
    rw [hlr] at LR
    unfold lv_
    go_enter Try.func3, Try.ntmps3
    go_wp2_with fail
    refine (LR.out _).mono ?_
    rintro r w1 ⟨rfl, b1⟩
    have B1 := hide (btr B0.out b1)
    clear b1
    go_wp2_with fail
    refine (CU.out _).mono ?_
    rintro r w2 ⟨rfl, b2⟩
    have B2 := hide (btr B1.out b2)
    clear b2
    go_wp2_with fail
    go_ret
    exact ⟨rfl, B2.out⟩
  | false =>
    rw [hlr] at LR
    have hsz : x.es.length ≤ 500 ∧ x.ss.length ≤ 500 ∧ x.rs.length ≤ 500 := by
      unfold lrg at hlr
      simp at hlr
      omega
    clear hlr
    have BF := hide fun u (hu : LG u x.oe x.os x.od x.es x.ss x.rs) => before_any x a b u hu hsz.2.2
    have RB := hide fun ot oq c1 c2 u (hu : RG u x.oe ot oq x.es (x.ss.map rfs) x.rs) => rbefore_x x ot oq c1 c2 a b u hu hsz.2.2
    have RF := hide fun u (hu : LG u x.oe x.os x.od x.es x.ss x.rs) => refl_any x.oe x.os x.od x.ce x.cs x.cd x.es x.ss x.rs u hu hsz.2.1 hsz.2.2
    unfold lv_ at BF ⊢
    generalize bfB x a b = zB at BF RB
    generalize bfE x a b = zE at BF RB
    obtain ⟨oe, os, od, ce, cs, cd, es, ss, rs⟩ := x
    simp only at *
    generalize es.length = le at *
    generalize ss.length = ls at *
    generalize rs.length = ld at *
    clear hsz
    go_enter Try.func3, Try.ntmps3
    go_wp2_with fail
    generalize w.alloc (.cells #[.slice oe le ce, .slice os ls cs, .slice od ld cd] 26) = W0 at *
    refine (LR.out _).mono ?_
    rintro r w1 ⟨rfl, b1⟩
    have B1 := hide (btr B0.out b1)
    have L1 := hide (L0.out.below b1)
    have N1 := hide (heap_below H0.out b1)
    have x0 : w1.cell? ⟨w.heap.size, 0, none⟩ = some (.slice oe le ce) := cell_of N1.out 0
    have x1 : w1.cell? ⟨w.heap.size, 1, none⟩ = some (.slice os ls cs) := cell_of N1.out 1
    have x2 : w1.cell? ⟨w.heap.size, 2, none⟩ = some (.slice od ld cd) := cell_of N1.out 2
    clear b1
    go_wp2_with fail
    refine (BF.out _ L1.out).mono ?_
    rintro r w2 ⟨rfl, b2⟩
    have B2 := hide (btr B1.out b2)
    have L2 := hide (L1.out.below b2)
    have N2 := hide (heap_below N1.out b2)
    have x0 : w2.cell? ⟨w.heap.size, 0, none⟩ = some (.slice oe le ce) := cell_of N2.out 0
    have x1 : w2.cell? ⟨w.heap.size, 1, none⟩ = some (.slice os ls cs) := cell_of N2.out 1
    have x2 : w2.cell? ⟨w.heap.size, 2, none⟩ = some (.slice od ld cd) := cell_of N2.out 2
    clear b2
    go_wp2_with fail
    refine (RF.out _ L2.out).mono ?_
    rintro r w3 ⟨ot, c1, oq, c2, rfl, g3, b3⟩
    have B3 := hide (btr B2.out b3)
    have G3 := hide g3
    clear b3 g3
    go_wp2_with fail
    refine (RB.out _ _ _ _ _ G3.out).mono ?_
    rintro r w4 ⟨rfl, b4⟩
    have B4 := hide (btr B3.out b4)
    clear b4
    go_wp2_with fail
    refine (CU.out _).mono ?_
    rintro r w5 ⟨rfl, b5⟩
    have B5 := hide (btr B4.out b5)
    clear b5
    go_wp2_with fail
    go_ret
    exact ⟨rfl, B5.out⟩

/-! ### the row -/
set_option maxRecDepth 100000 in
theorem lifted (os : Os) (started : os.Started) (H : Type) (enc : TypeId × Value → H) :
    ReturnsInHanded {} Try.checked os 3 .any (Rows.queryBeforeSpec.pre6 enc Try.prog Try.f3 Rows.queryBeforeRow.domain false) (Rows.queryBeforeSpec.post enc Try.prog Try.f3 false true false false) := by
  refine returnsInHanded_of_change (C := Try.checked) own started (by kernel_rfl) Try.func3
    (ChangeSpec.witness6 (enc := enc) (C := Try.checked) false ⟨#[], #[.agg #[.slice none 0 0, .slice none 0 0, .slice none 0 0], .int .i64 0, .int .i64 0], []⟩ 8 (by kernel_rfl) (by kernel_rfl) (by kernel_rfl) (by kernel_rfl)) ?_
  intro W base args ds gs before hval0 hW hcnd _
  have hval : ∀ (j : Nat) t v, Try.f3.params[j]? = some t → args[j]? = some v → Value.okWide Try.prog W .any base t v := hval0
  have hW' := hW
  obtain ⟨p, q, hA0, hV, rfl, hfz, hnd⟩ := hW
  have hA : DataW.TrodAll enc Try.prog W 0 (fun _ => true) true Try.f3.params.toList args.toList ds p := hA0
  rw [Try.params3] at hA hval
  obtain ⟨v0, vs0, d0, ds0, p0, q0, hargs, rfl, rfl, h0, r0⟩ := trodAll_cons hA
  obtain ⟨v1, vs1, d1, ds1, p1, q1, rfl, rfl, rfl, h1, r1⟩ := trodAll_cons r0
  obtain ⟨v2, vs2, d2, ds2, p2, q2, rfl, rfl, rfl, h2, r2⟩ := trodAll_cons r1
  obtain ⟨rfl, rfl, rfl⟩ := trodAll_nil r2
  obtain rfl : args = #[v0, v1, v2] := by cases args; simp_all
  obtain ⟨rfl, rfl⟩ := trodVars_none hV
  have k0 := h0
  have lt0 : ∀ x ∈ p0, x.block < W.heap.size := by obtain ⟨m, hm⟩ := k0; exact DataW.trod_lt m _ _ _ hm
  obtain ⟨x0, rfl, X0⟩ := h0.elim fun _ hf => log_open hf
  obtain ⟨a1, rfl, rfl, rfl, w1⟩ := open_int Try.underlying3 (hval 1 3 v1 rfl rfl) h1
  obtain ⟨a2, rfl, rfl, rfl, w2⟩ := open_int Try.underlying3 (hval 2 3 v2 rfl rfl) h2
  clear hA0 hval0
  refine (core (w := W) x0 X0 a1 a2).mono fun e W' ⟨he, bel⟩ => ?_
  subst he
  exact ⟨_, rfl, _, _, _, [], _, [], hW', trodAll_mk1 (shut_bool Try.underlying4 _), (trodAll_cons_mk (Below.trod laidOut (by kernel_rfl) (of_decide_eq_true (by kernel_rfl)) k0 bel lt0) (trodAll_cons_mk (shut_int Try.underlying3 w1) (trodAll_cons_mk (shut_int Try.underlying3 w2) trodAll_mk0))), rfl, bel.frame _, fun h => by cases h⟩

theorem over : Rows.queryBeforeRow.holds Try.pinned (OpenSpec.ofChange Rows.queryBeforeSpec) :=
  OpenClaim.holds_of_wide 3 Try.f3 rfl rfl rfl rfl rfl rfl rfl ⟨rfl, rfl, rfl, rfl, rfl⟩ rfl rfl rfl rfl rfl (by kernel_rfl) Try.func3 (by kernel_rfl)
    (of_decide_eq_true (by kernel_rfl)) (by unfold Func.isWrapper; first | (rw [if_pos (by decide +kernel)]; kernel_rfl) | (rw [if_neg (by decide +kernel)]; exact ⟨rfl, rfl⟩))
    (fun os started H enc _ => lifted os started H enc)

/-- the statement -/
theorem proved : Rows.QueryBeforeSaid := over
#print axioms proved
end Go.Proofs.Ytgfnafipfbajcaa.queryBefore
