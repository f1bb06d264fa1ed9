/- For every list of steps, the law CrewSteps returns true, so a crew answers, step by step, as the document does: under no condition. -/
import Derived.Test.YtgpmefbmbfbjcaaMh
import Derived.Test.YtgpmefbmbfbjcaaBi
import Derived.ShutString
import Derived.ChangeOld
import Derived.Below
namespace Go.Proofs.Ytgpmefbmbfbjcaa.crewSteps
open Go.ChangeShapes Go.WideShapes Go.ChangeAt Go.RowKit
open Go.ChangeMaps (open_string shut_string)
open Cr Ba

theorem own : ownKnob Try.prog.godebug = none := by kernel_rfl
theorem laidOut : laidOutB Try.prog = true := by kernel_rfl

theorem cellB {w w' : World} {b i : Nat} {v : Value} (h : w.cell? ⟨b, i, none⟩ = some v) (hb : Below w.heap.size w w') : w'.cell? ⟨b, i, none⟩ = some v := (hb.cell (World.block_lt_of_cell? w _ h)).trans h
set_option maxRecDepth 100000 in
set_option maxHeartbeats 12800000 in
theorem core {w : World} (oa : Option Addr) (L : List (List Int)) (c : Nat) (hA : RAt w oa 2 L) (hl : L.length ≤ maxLen) :
    Calls Try.prog 3 #[.slice oa L.length c] w fun r w' => r = .returned (.bool true) ∧ Below w.heap.size w w' := by
  have HA := hide hA
  unfold maxLen at hl
  clear hA
  by_cases h3 : 300 < L.length
  · have h3' : (300 : Int) < (L.length : Int) := by omega
    go_enter Try.func3, Try.ntmps3
    go_wp2_with fail
    refine (new_any _).mono ?_
    rintro r w1 ⟨rfl, -, b1⟩
    have B1 := hide b1
    clear b1
    go_wp2_with fail
    refine (two_any _).mono ?_
    rintro r w2 ⟨rfl, b2⟩
    have B2 := hide (btr B1.out b2)
    clear b2
    go_wp2_with fail
    go_ret
    exact ⟨rfl, B2.out⟩
  have h3' : ¬ (300 : Int) < (L.length : Int) := by omega
  go_enter Try.func3, Try.ntmps3
  go_wp2_with fail
  refine (new_any _).mono ?_
  rintro r w1 ⟨rfl, p1, b1⟩
  have TD : Hid (Td w (w1.alloc (.cells #[.slice none 0 0] 29)) w.heap.size _ w1.heap.size _ [] []) := td0 p1 b1
  clear p1 b1
  go_wp2_with fail
  generalize w1.alloc (.cells #[.slice none 0 0] 29) = W at TD ⊢
  generalize w1.heap.size = G at TD ⊢
  generalize w.heap.size = B at TD ⊢
  go_loopw [30] (fun i wr => ∃ (k : Nat) (l : List Mb) (F H : Nat → Prop), k ≤ L.length ∧ i = .int .i64 k ∧ Bn k l ∧ Td w wr B F G H l l) (fun i _ => L.length - (intOf i).toNat)
  case atStart => exact ⟨0, [], _, _, Nat.zero_le _, rfl, Bn.nil 0, TD.out⟩
  case round =>
    clear TD
    obtain ⟨k, l, F, H, hk, rfl, bn, t2⟩ := hrel
    have BN := hide bn
    have T2 := hide t2
    clear bn t2
    by_cases hlt : k < L.length
    · have hlt' : (k : Int) < (L.length : Int) := by omega
      obtain ⟨x, hx⟩ : ∃ x, L[k]? = some x := ⟨_, List.getElem?_eq_getElem hlt⟩
      obtain ⟨b', o', rfl, hc⟩ := (HA.out.below T2.out.b) k x hx
      have q0 := hc 0 (by decide)
      have q1 := hc 1 (by decide)
      rw [Nat.add_zero] at q0
      clear hc hx
      generalize nth x 0 = what at q0
      generalize nth x 1 = v at q1
      have XB := hide (heap_new wr (.cells #[.int .i64 what, .int .i64 v] 31))
      have NF : Hid (¬ F wr.heap.size ∧ ¬ H wr.heap.size) := ⟨fun e => by have := T2.out.p.bd _ e; omega, fun e => by have := T2.out.r.bd _ e; omega⟩
      have T3 := hide (T2.out.below (below_alloc wr (.cells #[.int .i64 what, .int .i64 v] 31)))
      have DO := hide (does_any w _ B F G H l k what v T3.out BN.out (by omega))
      have BN2 := hide (BN.out.st what v)
      generalize stL what v l = l' at DO BN2
      have ST := hide fun F u (hu : PC u B F l') => state_any B F l' v u hu
      have AT := hide fun F u (hu : PC u B F l') => at_any B F l' v u hu
      have HS := hide fun F u (hu : RC u G F l') => rhas_any G F l' v u hu
      have LN := hide fun F u (hu : PC u B F l') => len_any B F l' u hu
      have OV := hide fun F u (hu : PC u B F l') => over_any B F l' _ u hu BN2.out
      have RO := hide fun F u (hu : RC u G F l') => rover_any G F l' u hu
      have AB := hide fun F u (hu : PC u B F l') => able_any B F l' u hu
      have RA := hide fun F u (hu : RC u G F l') => rable_any G F l' u hu
      have hal := abl_len l'
      generalize abl l' = A at AB RA hal
      generalize ovr l' = ov at OV RO
      go_wp2_with fail
      generalize wr.alloc (.cells #[.int .i64 what, .int .i64 v] 31) = W1 at XB T3 DO ⊢
      generalize wr.heap.size = X at XB NF ⊢
      refine DO.out.mono ?_
      rintro r w4 ⟨rfl, F4, H4, t4, r4⟩
      have X4 := hide (r4.heap XB.out NF.out.1 NF.out.2)
      have T4 := hide t4
      clear t4 r4 DO T3 XB NF
      have y1 : w4.cell? ⟨X, 1, none⟩ = some (.int .i64 v) := cell_of X4.out 1
      have hle := T4.out.p.le
      unfold thr at ST AT HS
      cases hg : gt l' v with
      | none =>
        rw [hg] at ST AT HS
        simp only [one0, Option.getD_none, Option.isSome_none] at ST AT HS
        go_wp2_with fail
        refine (ST.out _ _ T4.out.p).mono ?_
        rintro r w5 ⟨rfl, rfl⟩
        go_wp2_with fail
        refine (AT.out _ _ T4.out.p).mono ?_
        rintro r w6 ⟨rfl, b6⟩
        have T6 := hide (T4.out.below b6)
        have X6 := hide (heap_below X4.out b6)
        clear b6 T4 X4 y1 ST AT
        have b7 := below_alloc w6 (.cells #[.int .i64 0, .int .i64 0, .int .i64 0] 38)
        have T7 := hide (T6.out.below b7)
        have X7 := hide (heap_below X6.out b7)
        have Y7 := hide (heap_new w6 (.cells #[.int .i64 0, .int .i64 0, .int .i64 0] 38))
        clear b7
        have y6 : w6.cell? ⟨X, 1, none⟩ = some (.int .i64 v) := cell_of X6.out 1
        have hX6 := heap_lt X6.out
        go_wp2_with fail
        generalize w6.alloc (.cells #[.int .i64 0, .int .i64 0, .int .i64 0] 38) = W7 at T7 X7 Y7 ⊢
        generalize w6.heap.size = Y at Y7 ⊢
        refine (HS.out _ _ T7.out.r).mono ?_
        rintro r w7 ⟨rfl, rfl⟩
        have y1 : w7.cell? ⟨X, 1, none⟩ = some (.int .i64 v) := cell_of X7.out 1
        have z0 : w7.cell? ⟨Y, 0, none⟩ = some (.int .i64 0) := cell_of Y7.out 0
        have z1 : w7.cell? ⟨Y, 1, none⟩ = some (.int .i64 0) := cell_of Y7.out 1
        have z2 : w7.cell? ⟨Y, 2, none⟩ = some (.int .i64 0) := cell_of Y7.out 2
        obtain ⟨og, cg, hgw⟩ := T7.out.r
        have yG : w7.cell? ⟨G, 0, none⟩ = some (.slice og l'.length cg) := cell_of hgw.hp 0
        clear hgw T6 X6 y6 hX6
        have T8 := hide (T7.out.below (bdrew1 _))
        go_wp2_with fail
        try simp only [List.append_eq, List.cons_append, List.nil_append]
        go_region_held3 (fun w' => w'.cell? ⟨X, 1, none⟩ = some (.int .i64 v) ∧ w'.cell? ⟨Y, 0, none⟩ = some (.int .i64 0) ∧ w'.cell? ⟨Y, 1, none⟩ = some (.int .i64 0) ∧ w'.cell? ⟨Y, 2, none⟩ = some (.int .i64 0) ∧ w'.cell? ⟨G, 0, none⟩ = some (.slice og l'.length cg))
            (first
              | go_keep
              | (go_split_ands; refine ⟨?_, ?_, ?_, ?_, ?_⟩ <;> (refine cellB ?_ c5; assumption))
              | (go_split_ands; refine ⟨?_, ?_, ?_, ?_, ?_⟩ <;> (refine cellB ?_ c4; assumption))
              | (go_split_ands; refine ⟨?_, ?_, ?_, ?_, ?_⟩ <;> (refine cellB ?_ c3; assumption))
              | (go_split_ands; refine ⟨?_, ?_, ?_, ?_, ?_⟩ <;> (refine cellB ?_ c2; assumption))
              | (go_split_ands; refine ⟨?_, ?_, ?_, ?_, ?_⟩ <;> (refine cellB ?_ c1; assumption)))
            (first
              | (go_at_call 13; refine (HS.out _ _ T8.out.r).mono ?_; rintro r v0 ⟨rfl, rfl⟩)
              | (go_at_call 14; refine (LN.out _ _ T8.out.p).mono ?_; rintro r v0 ⟨rfl, rfl⟩)
              | (go_at_call 15; refine (OV.out _ _ T8.out.p).mono ?_; rintro r v1 ⟨rfl, c1⟩)
              | (go_at_call 16; refine (RO.out _ _ (T8.out.below c1).r).mono ?_; rintro r v2 ⟨rfl, c2⟩)
              | (go_at_call 18; refine (AB.out _ _ ((T8.out.below c1).below c2).p).mono ?_; rintro r v3 ⟨o3, d3, rfl, a3, c3⟩)
              | (go_at_call 19; refine (RA.out _ _ (((T8.out.below c1).below c2).below c3).r).mono ?_; rintro r v4 ⟨o4, d4, rfl, a4, c4⟩)
              | (go_at_call 17; refine (ints_is _ _ A A _ _ _ _ true (by simp) rfl rfl _ (a3.below c4) a4 (by omega) (by omega)).mono ?_; rintro r v5 ⟨rfl, c5⟩))
        have T9 := hide (T8.out.below (btr c1 (btr c2 (btr c3 (btr c4 c5)))))
        clear c1 c2 c3 c4 c5 a3 a4 T8
        go_wp2_with fail
        go_roundw
        case rel => exact ⟨k + 1, l', F4, H4, by omega, by go_num, BN2.out, T9.out⟩
        case measure => simp [intOf]; omega
      | some y =>
        rw [hg] at ST AT HS
        simp only [one0, Option.getD_some, Option.isSome_some] at ST AT HS
        obtain ⟨j, rfl, hj, hy⟩ := gt_some hg
        have HY := hide hy
        clear hy hg
        go_wp2_with fail
        refine (ST.out _ _ T4.out.p).mono ?_
        rintro r w5 ⟨rfl, rfl⟩
        go_wp2_with fail
        refine (AT.out _ _ T4.out.p).mono ?_
        rintro r w6 ⟨rfl, b6⟩
        have T6 := hide (T4.out.below b6)
        have X6 := hide (heap_below X4.out b6)
        clear b6 T4 X4 y1 ST AT
        have b7 := below_alloc w6 (.cells #[.int .i64 0, .int .i64 0, .int .i64 0] 38)
        have T7 := hide (T6.out.below b7)
        have X7 := hide (heap_below X6.out b7)
        have Y7 := hide (heap_new w6 (.cells #[.int .i64 0, .int .i64 0, .int .i64 0] 38))
        have B7 := hide b7
        clear b7
        have y6 : w6.cell? ⟨X, 1, none⟩ = some (.int .i64 (j : Int)) := cell_of X6.out 1
        have hX6 := heap_lt X6.out
        go_wp2_with fail
        generalize w6.alloc (.cells #[.int .i64 0, .int .i64 0, .int .i64 0] 38) = W7 at T7 X7 Y7 B7 ⊢
        generalize hYY : w6.heap.size = Y at Y7 B7 hX6 ⊢
        have HYY := hide hYY
        clear hYY
        refine (HS.out _ _ T7.out.r).mono ?_
        rintro r w7 ⟨rfl, rfl⟩
        have y1 : w7.cell? ⟨X, 1, none⟩ = some (.int .i64 (j : Int)) := cell_of X7.out 1
        have z0 : w7.cell? ⟨Y, 0, none⟩ = some (.int .i64 0) := cell_of Y7.out 0
        have z1 : w7.cell? ⟨Y, 1, none⟩ = some (.int .i64 0) := cell_of Y7.out 1
        have z2 : w7.cell? ⟨Y, 2, none⟩ = some (.int .i64 0) := cell_of Y7.out 2
        have f0 := frozen_of Y7.out 0
        have f1 := frozen_of Y7.out 1
        have f2 := frozen_of Y7.out 2
        obtain ⟨og, cg, hgw⟩ := T7.out.r
        have yG : w7.cell? ⟨G, 0, none⟩ = some (.slice og l'.length cg) := cell_of hgw.hp 0
        obtain ⟨bo, rfl, p0, p1, p2⟩ := hgw.at.1 j y HY.out
        have hj' : (j : Int) < (l'.length : Int) := by omega
        clear hgw y6
        go_wp2_with fail
        go_region
        have Y8 : Hid ((((w7.setCell ⟨Y, 0, none⟩ (.int .i64 y.p)).setCell ⟨Y, 1, none⟩ (.int .i64 y.q)).setCell ⟨Y, 2, none⟩ (.int .i64 y.s)).drew.heap[Y]? = some (.cells #[.int .i64 y.p, .int .i64 y.q, .int .i64 y.s] 38 (0, 0))) := heap_below ((Ba.heap_setCell_same (Ba.heap_setCell_same (Ba.heap_setCell_same Y7.out _) _) _).trans rfl) (bdrew1 _)
        have B8 : Hid (Below w6.heap.size w6 (((w7.setCell ⟨Y, 0, none⟩ (.int .i64 y.p)).setCell ⟨Y, 1, none⟩ (.int .i64 y.q)).setCell ⟨Y, 2, none⟩ (.int .i64 y.s)).drew) := by
          show Below _ _ _
          rw [HYY.out]
          exact (((B7.out.setCell (Nat.le_refl _) _).setCell (Nat.le_refl _) _).setCell (Nat.le_refl _) _).trans ((bdrew1 _).mono (by have := B7.out.size; have := heap_lt Y7.out; simp [World.setCell]; omega))
        have TA := hide (T6.out.below B8.out)
        have XA := hide (heap_below X6.out B8.out)
        clear T7 X7 Y7 B7 y1 z0 z1 z2 f0 f1 f2 yG p0 p1 p2 B8 T6 X6
        generalize (((w7.setCell ⟨Y, 0, none⟩ (.int .i64 y.p)).setCell ⟨Y, 1, none⟩ (.int .i64 y.q)).setCell ⟨Y, 2, none⟩ (.int .i64 y.s)).drew = W8 at Y8 TA XA ⊢
        have y1 : W8.cell? ⟨X, 1, none⟩ = some (.int .i64 (j : Int)) := cell_of XA.out 1
        have z0 : W8.cell? ⟨Y, 0, none⟩ = some (.int .i64 y.p) := cell_of Y8.out 0
        have z1 : W8.cell? ⟨Y, 1, none⟩ = some (.int .i64 y.q) := cell_of Y8.out 1
        have z2 : W8.cell? ⟨Y, 2, none⟩ = some (.int .i64 y.s) := cell_of Y8.out 2
        obtain ⟨og, cg, hgw⟩ := TA.out.r
        have yG : W8.cell? ⟨G, 0, none⟩ = some (.slice og l'.length cg) := cell_of hgw.hp 0
        clear hgw
        have T8 := hide (TA.out.below (bdrew1 _))
        go_wp2_with fail
        try simp only [List.append_eq, List.cons_append, List.nil_append]
        go_region_held3 (fun w' => w'.cell? ⟨X, 1, none⟩ = some (.int .i64 (j : Int)) ∧ w'.cell? ⟨Y, 0, none⟩ = some (.int .i64 y.p) ∧ w'.cell? ⟨Y, 1, none⟩ = some (.int .i64 y.q) ∧ w'.cell? ⟨Y, 2, none⟩ = some (.int .i64 y.s) ∧ w'.cell? ⟨G, 0, none⟩ = some (.slice og l'.length cg))
            (first
              | go_keep
              | (go_split_ands; refine ⟨?_, ?_, ?_, ?_, ?_⟩ <;> (refine cellB ?_ c5; assumption))
              | (go_split_ands; refine ⟨?_, ?_, ?_, ?_, ?_⟩ <;> (refine cellB ?_ c4; assumption))
              | (go_split_ands; refine ⟨?_, ?_, ?_, ?_, ?_⟩ <;> (refine cellB ?_ c3; assumption))
              | (go_split_ands; refine ⟨?_, ?_, ?_, ?_, ?_⟩ <;> (refine cellB ?_ c2; assumption))
              | (go_split_ands; refine ⟨?_, ?_, ?_, ?_, ?_⟩ <;> (refine cellB ?_ c1; assumption)))
            (first
              | (go_at_call 13; refine (HS.out _ _ T8.out.r).mono ?_; rintro r v0 ⟨rfl, rfl⟩)
              | (go_at_call 14; refine (LN.out _ _ T8.out.p).mono ?_; rintro r v0 ⟨rfl, rfl⟩)
              | (go_at_call 15; refine (OV.out _ _ T8.out.p).mono ?_; rintro r v1 ⟨rfl, c1⟩)
              | (go_at_call 16; refine (RO.out _ _ (T8.out.below c1).r).mono ?_; rintro r v2 ⟨rfl, c2⟩)
              | (go_at_call 18; refine (AB.out _ _ ((T8.out.below c1).below c2).p).mono ?_; rintro r v3 ⟨o3, d3, rfl, a3, c3⟩)
              | (go_at_call 19; refine (RA.out _ _ (((T8.out.below c1).below c2).below c3).r).mono ?_; rintro r v4 ⟨o4, d4, rfl, a4, c4⟩)
              | (go_at_call 17; refine (ints_is _ _ A A _ _ _ _ true (by simp) rfl rfl _ (a3.below c4) a4 (by omega) (by omega)).mono ?_; rintro r v5 ⟨rfl, c5⟩))
        have T9 := hide (T8.out.below (btr c1 (btr c2 (btr c3 (btr c4 c5)))))
        clear c1 c2 c3 c4 c5 a3 a4 T8
        go_wp2_with fail
        go_roundw
        case rel => exact ⟨k + 1, l', F4, H4, by omega, by go_num, BN2.out, T9.out⟩
        case measure => simp [intOf]; omega
    · have hlt' : ¬ ((k : Int) < (L.length : Int)) := by omega
      go_wp2_with fail
      refine (two_any _).mono ?_
      rintro r w7 ⟨rfl, b7⟩
      have B7 := hide (btr T2.out.b b7)
      clear b7
      go_wp2_with fail
      go_ret
      exact ⟨rfl, B7.out⟩

/-! ### the row -/
set_option maxRecDepth 100000 in
theorem lifted (os : Os) (started : os.Started) (H : Type) (enc : TypeId × Value → H) :
    ReturnsInHanded {} Try.checked os 3 .any (Rows.crewStepsSpec.pre6 enc Try.prog Try.f3 Rows.crewStepsRow.domain false) (Rows.crewStepsSpec.post enc Try.prog Try.f3 false true false false) := by
  refine returnsInHanded_of_change (C := Try.checked) own started (by kernel_rfl) Try.func3
    (ChangeSpec.witness6 (enc := enc) (C := Try.checked) false ⟨#[], #[.slice none 0 0], []⟩ 8 (by kernel_rfl) (by kernel_rfl) (by kernel_rfl) (by kernel_rfl)) ?_
  intro W base args ds gs before hval0 hW hcnd _
  have hval : ∀ (j : Nat) t v, Try.f3.params[j]? = some t → args[j]? = some v → Value.okWide Try.prog W .any base t v := hval0
  have hW' := hW
  obtain ⟨p, q, hA0, hV, rfl, hfz, hnd⟩ := hW
  have hA : DataW.TrodAll enc Try.prog W 0 (fun _ => true) true Try.f3.params.toList args.toList ds p := hA0
  rw [Try.params3] at hA hval
  obtain ⟨v0, vs0, d0, ds0, p0, q0, hargs, rfl, rfl, h0, r0⟩ := trodAll_cons hA
  obtain ⟨rfl, rfl, rfl⟩ := trodAll_nil r0
  obtain rfl : args = #[v0] := by cases args; simp_all
  obtain ⟨rfl, rfl⟩ := trodVars_none hV
  obtain ⟨oa0, n0, c0, rfl⟩ := okWide_slice Try.underlying22 (hval 0 22 v0 rfl rfl)
  have k0 := h0
  have lt0 : ∀ x ∈ p0, x.block < W.heap.size := by obtain ⟨m, hm⟩ := k0; exact DataW.trod_lt m _ _ _ hm
  obtain ⟨l0, rfl, A0, C0, M0⟩ := h0.elim fun _ hf => steps_open hf
  clear hA0 hval0
  refine (core (w := W) oa0 l0 c0 A0 (Nat.le_trans C0 M0)).mono fun e W' ⟨he, bel⟩ => ?_
  subst he
  exact ⟨_, rfl, _, _, _, [], _, [], hW', trodAll_mk1 (shut_bool Try.underlying4 _), (trodAll_cons_mk (Below.trod laidOut (by kernel_rfl) (of_decide_eq_true (by kernel_rfl)) k0 bel lt0) trodAll_mk0), rfl, bel.frame _, fun h => by cases h⟩

theorem over : Rows.crewStepsRow.holds Try.pinned (OpenSpec.ofChange Rows.crewStepsSpec) :=
  OpenClaim.holds_of_wide 3 Try.f3 rfl rfl rfl rfl rfl rfl rfl ⟨rfl, rfl, rfl, rfl, rfl⟩ rfl rfl rfl rfl rfl (by kernel_rfl) Try.func3 (by kernel_rfl)
    (of_decide_eq_true (by kernel_rfl)) (by unfold Func.isWrapper; first | (rw [if_pos (by decide +kernel)]; kernel_rfl) | (rw [if_neg (by decide +kernel)]; exact ⟨rfl, rfl⟩))
    (fun os started H enc _ => lifted os started H enc)

/-- the statement -/
theorem proved : Rows.CrewStepsSaid := over
#print axioms proved
end Go.Proofs.Ytgpmefbmbfbjcaa.crewSteps
