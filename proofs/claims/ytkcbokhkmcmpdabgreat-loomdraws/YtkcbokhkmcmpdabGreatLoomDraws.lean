/- Other draws change nothing where nothing is drawn. -/
import Derived.Test.YtkcbokhkmcmpdabGreatZjLb10
import Derived.ShutString
import Derived.ChangeOld
import Derived.Below
namespace Go.Proofs.YtkcbokhkmcmpdabGreat.loomDraws
open Go.ChangeShapes Go.WideShapes Go.ChangeAt Go.RowKit
open Go.ChangeMaps (open_string shut_string)
open Lo Ba Sh

theorem own : ownKnob Tryz.prog.godebug = none := by kernel_rfl
theorem laidOut : laidOutB Tryz.prog = true := by kernel_rfl

/-- what comes back of sheet.Check -/
def CkP (w : World) (z : Int) (r : Ending) (w' : World) : Prop := r = .returned (.int .i64 z) ∧ Below w.heap.size w w'
set_option maxRecDepth 100000 in
set_option maxHeartbeats 3200000 in
theorem core {w : World} (T M : Int) (ps : List (List De.OpD)) (pl dr : List Int) (pa la da : Option Addr) (pc lc dc : Nat) (hS : Sh.SAt w ⟨T, M, ps, pl, dr⟩ pa la da) (hH : Sh.Held ps) (oa : Option Addr) (l : List Int) (c : Nat) (hA : At w oa l) (hl : l.length ≤ maxLen) :
    Calls Tryz.prog 4 #[.agg #[.int .i64 T, .int .i64 M, .slice pa ps.length pc, .slice la pl.length lc, .slice da dr.length dc], .slice oa l.length c] w fun r w' => r = .returned (.bool true) ∧ Below w.heap.size w w' := by
  have LG := hide (large13 T M ps pl dr pa la da pc lc dc (w.alloc (.cells #[.int .i64 T, .int .i64 M, .slice pa ps.length pc, .slice la pl.length lc, .slice da dr.length dc] 25)) (hS.below (below_alloc _ _)) hH)
  have HS := hide hS
  have HX := hide (sat_draws hS hA hl)
  have HH := hide hH
  clear hS hH hA
  unfold maxLen at hl
  go_enter Tryz.func4, Tryz.ntmps4
  go_wp2_with fail
  refine LG.out.mono ?_
  rintro r w1 ⟨⟨b, rfl, hb⟩, b1⟩
  have E1 := hide (heap_below (heap_new w (.cells #[.int .i64 T, .int .i64 M, .slice pa ps.length pc, .slice la pl.length lc, .slice da dr.length dc] 25)) b1)
  have B1 := hide (btr (below_alloc w (.cells #[.int .i64 T, .int .i64 M, .slice pa ps.length pc, .slice la pl.length lc, .slice da dr.length dc] 25)) b1)
  have x0 := cell_of E1.out 0
  have x1 := cell_of E1.out 1
  have x2 := cell_of E1.out 2
  have x3 := cell_of E1.out 3
  have x4 := cell_of E1.out 4
  simp at x0 x1 x2 x3 x4
  clear b1 LG
  cases b
  case true =>
    go_wp2_with fail
    refine (hands_any _).mono ?_
    rintro r w2 ⟨rfl, b2⟩
    have B2 := hide (btr B1.out b2)
    clear b2
    go_wp2_with fail
    go_ret
    exact ⟨rfl, B2.out⟩
  case false =>
    have SM := hide (hb rfl)
    clear hb
    have hpl : ps.length ≤ 20 := SM.out.n
    by_cases hd : 100 < l.length
    · have g0 : decide (100 < (l.length : Int)) = true := by simp; omega
      go_wp2_with fail
      refine (hands_any _).mono ?_
      rintro r w2 ⟨rfl, b2⟩
      have B2 := hide (btr B1.out b2)
      clear b2
      go_wp2_with fail
      go_ret
      exact ⟨rfl, B2.out⟩
    have g0 : decide (100 < (l.length : Int)) = false := by simp; omega
    have S1 := hide (HS.out.below B1.out)
    go_wp2_with fail
    go_loopw [25] (fun i wr => ∃ (k : Nat), k ≤ ps.length ∧ i = .int .i64 k ∧ (∀ (t : Nat) (q : List De.OpD), t < k → ps[t]? = some q → ∀ o ∈ q, o.kind = 6 → o.cases.length ≤ 1) ∧ Below w1.heap.size w1 wr) (fun i _ => ps.length - (intOf i).toNat)
    case atStart => exact ⟨0, Nat.zero_le _, rfl, fun t q ht => absurd ht (Nat.not_lt_zero _), Below.refl _ _⟩
    case round =>
      rename World => w5
      obtain ⟨k, hk, rfl, hall, b5⟩ := hrel
      have HE := hide hall
      have B5 := hide b5
      clear hall b5
      by_cases hlt : k < ps.length
      · have hlt' : (k : Int) < (ps.length : Int) := by omega
        obtain ⟨q, hq⟩ : ∃ q, ps[k]? = some q := ⟨ps[k], by simp [hlt]⟩
        obtain ⟨b, off, qa, qc, e1, c1, hO, m1⟩ := (S1.out.below B5.out).ps k q hq
        subst e1
        have HQ := hide hq
        have HO := hide hO
        have hql : q.length ≤ 100 := SM.out.q q (List.mem_of_getElem? hq)
        clear hq hO
        go_wp2_with fail
        go_loopw [31] (fun i wr => ∃ (j : Nat), j ≤ q.length ∧ i = .int .i64 j ∧ (∀ (t : Nat) (o : De.OpD), t < j → q[t]? = some o → o.kind = 6 → o.cases.length ≤ 1) ∧ Below w5.heap.size w5 wr) (fun i _ => q.length - (intOf i).toNat)
        case atStart => exact ⟨0, Nat.zero_le _, rfl, fun t o ht => absurd ht (Nat.not_lt_zero _), Below.refl _ _⟩
        case round =>
          obtain ⟨j, hj, rfl, hal2, b6⟩ := hrel
          have HF := hide hal2
          have B6 := hide b6
          clear hal2 b6
          by_cases hjl : j < q.length
          · have hjl' : (j : Int) < (q.length : Int) := by omega
            obtain ⟨o, ho⟩ : ∃ o, q[j]? = some o := ⟨q[j], by simp [hjl]⟩
            obtain ⟨b', off', ca, cc, e2, ⟨y0, y1, y2, y3, y4⟩, hC, hM⟩ := (HO.out.below B6.out) j o ho
            subst e2
            have hM2 := HH.out q (List.mem_of_getElem? HQ.out) o (List.mem_of_getElem? ho)
            have HY := hide ho
            have B7 := hide (btr B6.out (below_alloc wr (.cells #[.int .i64 o.kind, .int .i64 o.a, .int .i64 o.b, .slice ca o.cases.length cc, .bool o.def_] 38)))
            clear ho hC hM
            by_cases h6 : o.kind = 6
            · have h6' : (o.kind == 6) = true := by simp [h6]
              have H6 := hide h6
              clear h6
              by_cases hc : 1 < o.cases.length
              · have hc' : decide (1 < (o.cases.length : Int)) = true := by simp; omega
                go_wp2_with fail
                refine (hands_any _).mono ?_
                rintro r w8 ⟨rfl, b8⟩
                have B8 := hide (btr B1.out (btr B5.out (btr B7.out b8)))
                clear b8
                go_wp2_with fail
                go_ret
                exact ⟨rfl, B8.out⟩
              · have hc' : decide (1 < (o.cases.length : Int)) = false := by simp; omega
                go_wp2_with fail
                go_roundw
                case rel => exact ⟨j + 1, by omega, by go_num, fun t x ht hx => by
                  by_cases e : t = j
                  · subst e; rw [HY.out] at hx; cases hx; intro _; omega
                  · exact HF.out t x (by omega) hx, B7.out⟩
                case measure => simp [intOf]; omega
            · have h6' : (o.kind == 6) = false := by simp [h6]
              go_wp2_with fail
              go_roundw
              case rel => exact ⟨j + 1, by omega, by go_num, fun t x ht hx => by
                by_cases e : t = j
                · subst e; rw [HY.out] at hx; cases hx; intro z; exact absurd z h6
                · exact HF.out t x (by omega) hx, B7.out⟩
              case measure => simp [intOf]; omega
          · have hjl' : ¬ ((j : Int) < (q.length : Int)) := by omega
            go_wp2_with fail
            go_roundw
            case rel => exact ⟨k + 1, by omega, by go_num, fun t x ht hx => by
              by_cases e : t = k
              · subst e; rw [HQ.out] at hx; cases hx
                exact fun o ho => by
                  obtain ⟨i, hi⟩ := List.mem_iff_getElem?.1 ho
                  exact HF.out i o (by have := (List.getElem?_eq_some_iff.1 hi).1; omega) hi
              · exact HE.out t x (by omega) hx, btr B5.out B6.out⟩
            case measure => simp [intOf]; omega
      · have hlt' : ¬ ((k : Int) < (ps.length : Int)) := by omega
        have FW : Hid (Fews ps) := fun q hq => by
          obtain ⟨t, ht⟩ := List.mem_iff_getElem?.1 hq
          exact HE.out t q (by have := (List.getElem?_eq_some_iff.1 ht).1; omega) ht
        have E5 := hide (heap_below E1.out B5.out)
        have B15 := hide (btr B1.out B5.out)
        have x0 := cell_of E5.out 0
        have x1 := cell_of E5.out 1
        have x2 := cell_of E5.out 2
        have x3 := cell_of E5.out 3
        have x4 := cell_of E5.out 4
        simp at x0 x1 x2 x3 x4
        have Z5 := hide (heap_below E5.out (below_alloc w5 (.cells #[.int .i64 T, .int .i64 M, .slice pa ps.length pc, .slice la pl.length lc, .slice oa l.length c] 25)))
        have z0 := cell_of Z5.out 0
        have z1 := cell_of Z5.out 1
        have z2 := cell_of Z5.out 2
        have z3 := cell_of Z5.out 3
        have z4 := cell_of Z5.out 4
        simp at z0 z1 z2 z3 z4
        clear HE S1
        have CK := hide (fun u (q : Sh.SAt u ⟨T, M, ps, pl, dr⟩ pa la da) => Sh.scheck_any T M ps pl dr pa la da pc lc dc u q)
        have CX := hide (fun u (q : Sh.SAt u ⟨T, M, ps, pl, l⟩ pa la oa) => Sh.scheck_any T M ps pl l pa la oa pc lc c u q)
        by_cases hs : Sh.schk ⟨T, M, ps, pl, dr⟩ = 0
        case neg =>
          generalize Sh.schk ⟨T, M, ps, pl, dr⟩ = z at CK hs
          have hs' : (z != 0) = true := by simp [hs]
          go_wp2_with fail
          have B6 := hide (below_alloc w5 (.cells #[.int .i64 T, .int .i64 M, .slice pa ps.length pc, .slice la pl.length lc, .slice oa l.length c] 25))
          have B7 := hide (btr B15.out B6.out)
          refine (CK.out _ (HS.out.below B7.out)).mono ?_
          rintro r w8 ⟨rfl, b8⟩
          have B8 := hide (btr B7.out b8)
          clear b8
          go_wp2_with fail
          refine (hands_any _).mono ?_
          rintro r w9 ⟨rfl, b9⟩
          have B9 := hide (btr B8.out b9)
          clear b9
          go_wp2_with fail
          go_ret
          exact ⟨rfl, B9.out⟩
        case pos =>
          rw [hs] at CK
          by_cases hx : Sh.schk ⟨T, M, ps, pl, l⟩ = 0
          case neg =>
            generalize Sh.schk ⟨T, M, ps, pl, l⟩ = z at CX hx
            have hx' : (z != 0) = true := by simp [hx]
            go_wp2_with fail
            have B6 := hide (below_alloc w5 (.cells #[.int .i64 T, .int .i64 M, .slice pa ps.length pc, .slice la pl.length lc, .slice oa l.length c] 25))
            have B7 := hide (btr B15.out B6.out)
            have Y7 := hide (heap_new w5 (.cells #[.int .i64 T, .int .i64 M, .slice pa ps.length pc, .slice la pl.length lc, .slice oa l.length c] 25))
            refine (CK.out _ (HS.out.below B7.out)).mono ?_
            rintro r w8 ⟨rfl, b8⟩
            have B8 := hide (btr B7.out b8)
            have Y8 := hide (heap_below Y7.out b8)
            have y0 := cell_of Y8.out 0
            have y1 := cell_of Y8.out 1
            have y2 := cell_of Y8.out 2
            have y3 := cell_of Y8.out 3
            have y4 := cell_of Y8.out 4
            simp at y0 y1 y2 y3 y4
            have CX8 := hide (CX.out w8 (HX.out.below B8.out))
            clear b8 CX
            go_wp2_with fail
            refine CX8.out.mono ?_
            rintro r w9 ⟨rfl, b9⟩
            have B9 := hide (btr B8.out b9)
            clear b9
            go_wp2_with fail
            refine (hands_any _).mono ?_
            rintro r w10 ⟨rfl, b10⟩
            have B10 := hide (btr B9.out b10)
            clear b10
            go_wp2_with fail
            go_ret
            exact ⟨rfl, B10.out⟩
          case pos =>
            rw [hx] at CX
            obtain ⟨R, hR⟩ : ∃ R, runF ⟨T, M, ps, pl, dr⟩ = R := ⟨_, rfl⟩
            obtain ⟨R2, hR2⟩ : ∃ R2, runF ⟨T, M, ps, pl, l⟩ = R2 := ⟨_, rfl⟩
            obtain ⟨e1, e2⟩ := draws_tr (T := T) (M := M) (pl := pl) (dr := dr) l FW.out
            rw [hR, hR2] at e1 e2
            have hlen : R.tr.length ≤ 80400 := by
              obtain ⟨k, -, i, -⟩ := Inv.steps hs pl.length
              have h1 := kn_le (i.n200 hs)
              have h2 := i.b.bw.tn
              have h3 : (stepsF pl.length (newS ⟨T, M, ps, pl, dr⟩)).tr.length = R.tr.length := by rw [← hR]; rfl
              omega
            have RN := hide (fun u (q : Sh.SAt u ⟨T, M, ps, pl, dr⟩ pa la da) => run_yes T M ps pl dr pa la da pc lc dc u q hs R hR)
            have RB := hide (fun u (q : Sh.SAt u ⟨T, M, ps, pl, l⟩ pa la oa) => run_yes T M ps pl l pa la oa pc lc c u q hx R2 hR2)
            rw [e1, e2] at RB
            clear hR hR2 e1 e2
            generalize verd R = V at RN RB
            go_wp2_with fail
            have B6 := hide (below_alloc w5 (.cells #[.int .i64 T, .int .i64 M, .slice pa ps.length pc, .slice la pl.length lc, .slice oa l.length c] 25))
            have B7 := hide (btr B15.out B6.out)
            have E7 := hide (heap_below E5.out B6.out)
            have Y7 := hide (heap_new w5 (.cells #[.int .i64 T, .int .i64 M, .slice pa ps.length pc, .slice la pl.length lc, .slice oa l.length c] 25))
            refine (CK.out _ (HS.out.below B7.out)).mono ?_
            rintro r w8 ⟨rfl, b8⟩
            have B8 := hide (btr B7.out b8)
            have E8 := hide (heap_below E7.out b8)
            have Y8 := hide (heap_below Y7.out b8)
            have y0 := cell_of Y8.out 0
            have y1 := cell_of Y8.out 1
            have y2 := cell_of Y8.out 2
            have y3 := cell_of Y8.out 3
            have y4 := cell_of Y8.out 4
            simp at y0 y1 y2 y3 y4
            have CX8 := hide (CX.out w8 (HX.out.below B8.out))
            clear b8 CX
            go_wp2_with fail
            refine CX8.out.mono ?_
            rintro r w9 ⟨rfl, b9⟩
            have B9 := hide (btr B8.out b9)
            have E9 := hide (heap_below E8.out b9)
            have Y9 := hide (heap_below Y8.out b9)
            have x0 := cell_of E9.out 0
            have x1 := cell_of E9.out 1
            have x2 := cell_of E9.out 2
            have x3 := cell_of E9.out 3
            have x4 := cell_of E9.out 4
            simp at x0 x1 x2 x3 x4
            have RN9 := hide (RN.out w9 (HS.out.below B9.out))
            clear b9 RN
            go_wp2_with fail
            refine RN9.out.mono ?_
            rintro r w10 ⟨ob, d, rfl, es10, -, b10⟩
            have B10 := hide (btr B9.out b10)
            have Y10 := hide (heap_below Y9.out b10)
            have ES10 := hide es10
            have y0 := cell_of Y10.out 0
            have y1 := cell_of Y10.out 1
            have y2 := cell_of Y10.out 2
            have y3 := cell_of Y10.out 3
            have y4 := cell_of Y10.out 4
            simp at y0 y1 y2 y3 y4
            have RB10 := hide (RB.out w10 (HX.out.below B10.out))
            clear b10 es10 RN9 RB
            go_wp2_with fail
            refine RB10.out.mono ?_
            rintro r w11 ⟨oc, e, rfl, es11, -, b11⟩
            have B11 := hide (btr B10.out b11)
            have EQ := hide (events_same ob oc R.tr d e w11 (ES10.out.below b11) es11 (by omega))
            clear b11 es11 RB10
            go_wp2_with fail
            refine EQ.out.mono ?_
            rintro r w12 ⟨rfl, b12⟩
            have B12 := hide (btr B11.out b12)
            clear b12 EQ
            go_wp2_with fail
            refine (hands_any _).mono ?_
            rintro r w13 ⟨rfl, b13⟩
            have B13 := hide (btr B12.out b13)
            clear b13
            go_wp2_with fail
            go_ret
            exact ⟨ret_bool (by simp), B13.out⟩

/-! ### the row -/
set_option maxRecDepth 100000 in
theorem lifted (os : Os) (started : os.Started) (H : Type) (enc : TypeId × Value → H) :
    ReturnsInHanded {} Tryz.checked os 4 .any (Rows.loomDrawsSpec.pre6 enc Tryz.prog Tryz.f4 Rows.loomDrawsRow.domain false) (Rows.loomDrawsSpec.post enc Tryz.prog Tryz.f4 false true false false) := by
  refine returnsInHanded_of_change_sized (C := Tryz.checked) own started (by kernel_rfl) Tryz.func4
    (ChangeSpec.witness6 (enc := enc) (C := Tryz.checked) false ⟨#[], #[.agg #[.int .i64 0, .int .i64 0, .slice none 0 0, .slice none 0 0, .slice none 0 0], .slice none 0 0], []⟩ 8 (by kernel_rfl) (by kernel_rfl) (by kernel_rfl) (by kernel_rfl)) ?_
  intro W base args ds gs before hval0 hW hcnd hsz0 _
  have hval : ∀ (j : Nat) t v, Tryz.f4.params[j]? = some t → args[j]? = some v → Value.okWide Tryz.prog W .any base t v := hval0
  have hW' := hW
  obtain ⟨p, q, hA0, hV, rfl, hfz, hnd⟩ := hW
  have hA : DataW.TrodAll enc Tryz.prog W 0 (fun _ => true) true Tryz.f4.params.toList args.toList ds p := hA0
  rw [Tryz.params4] at hA hval
  have hsz : (DataW.weightsEach Tryz.prog (Tryz.f4.params.toList ++ Rows.loomDrawsSpec.plain.varTypes Tryz.prog) (ds ++ gs)).all (· ≤ reachBytes) = true := hsz0
  clear hsz0
  rw [Tryz.params4] at hsz
  obtain ⟨v0, vs0, d0, ds0, p0, q0, hargs, rfl, rfl, h0, r0⟩ := trodAll_cons hA
  obtain ⟨v1, vs1, d1, ds1, p1, q1, rfl, rfl, rfl, h1, r1⟩ := trodAll_cons r0
  obtain ⟨rfl, rfl, rfl⟩ := trodAll_nil r1
  obtain rfl : args = #[v0, v1] := by cases args; simp_all
  obtain ⟨rfl, rfl⟩ := trodVars_none hV
  have k0 := h0
  have lt0 : ∀ x ∈ p0, x.block < W.heap.size := by obtain ⟨m, hm⟩ := k0; exact DataW.trod_lt m _ _ _ hm
  have z0 : WL 25 d0 := fun m hm => by
    have := List.all_eq_true.1 hsz _ (DataW.weights_mem_each (j := 0) (t := 25) (d := d0) rfl rfl m hm)
    simpa using this
  obtain ⟨T0, M0, ps0, pl0, dr0, pa0, la0, da0, pc0, lc0, dc0, rfl, S0, H0⟩ := h0.elim fun _ hf => script_open hf z0
  obtain ⟨oa1, n1, c1, rfl⟩ := okWide_slice Tryz.underlying23 (hval 1 23 v1 rfl rfl)
  have k1 := h1
  have lt1 : ∀ x ∈ p1, x.block < W.heap.size := by obtain ⟨m, hm⟩ := k1; exact DataW.trod_lt m _ _ _ hm
  obtain ⟨l1, rfl, A1, C1, M1⟩ := h1.elim fun _ hf => ints_open hf
  clear hA0 hval0
  refine (core (w := W) T0 M0 ps0 pl0 dr0 pa0 la0 da0 pc0 lc0 dc0 S0 H0 oa1 l1 c1 A1 (Nat.le_trans C1 M1)).mono fun e W' ⟨he, bel⟩ => ?_
  subst he
  exact ⟨_, rfl, _, _, _, [], _, [], hW', trodAll_mk1 (shut_bool Tryz.underlying4 _), (trodAll_cons_mk (Below.trod laidOut (by kernel_rfl) (of_decide_eq_true (by kernel_rfl)) k0 bel lt0) (trodAll_cons_mk (Below.trod laidOut (by kernel_rfl) (of_decide_eq_true (by kernel_rfl)) k1 bel lt1) trodAll_mk0)), rfl, bel.frame _, fun h => by cases h⟩

theorem over : Rows.loomDrawsRow.holds Tryz.pinned (OpenSpec.ofChange Rows.loomDrawsSpec) :=
  OpenClaim.holds_of_wide 4 Tryz.f4 rfl rfl rfl rfl rfl rfl rfl ⟨rfl, rfl, rfl, rfl, rfl⟩ rfl rfl rfl rfl rfl (by kernel_rfl) Tryz.func4 (by kernel_rfl)
    (of_decide_eq_true (by kernel_rfl)) (by unfold Func.isWrapper; first | (rw [if_pos (by decide +kernel)]; kernel_rfl) | (rw [if_neg (by decide +kernel)]; exact ⟨rfl, rfl⟩))
    (fun os started H enc _ => lifted os started H enc)

/-- the statement -/
theorem proved : Rows.LoomDrawsSaid := over
#print axioms proved
end Go.Proofs.YtkcbokhkmcmpdabGreat.loomDraws
