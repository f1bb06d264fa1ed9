/- Each script has the same trace and verdict in the loom and in the document's own answer, for every script; no conditions. -/
import Derived.Test.YtddchcekljndmaaGreatZjLr14
import Derived.ShutString
import Derived.ChangeOld
import Derived.Below
namespace Go.Proofs.YtddchcekljndmaaGreat.loomRuns
open Go.ChangeShapes Go.WideShapes Go.ChangeAt Go.RowKit
open Go.ChangeMaps (open_string shut_string)
open Lo Ba Sh

theorem own : ownKnob Tryz.prog.godebug = none := by kernel_rfl
theorem laidOut : laidOutB Tryz.prog = true := by kernel_rfl

set_option maxRecDepth 100000 in
set_option maxHeartbeats 3200000 in
theorem core {w : World} (T M : Int) (ps : List (List De.OpD)) (pl dr : List Int) (pa la da : Option Addr) (pc lc dc : Nat) (hS : Sh.SAt w ⟨T, M, ps, pl, dr⟩ pa la da) (hH : Sh.Held ps) :
    Calls Tryz.prog 3 #[.agg #[.int .i64 T, .int .i64 M, .slice pa ps.length pc, .slice la pl.length lc, .slice da dr.length dc]] w fun r w' => r = .returned (.bool true) ∧ Below w.heap.size w w' := by
  have LG := hide (large13 T M ps pl dr pa la da pc lc dc (w.alloc (.cells #[.int .i64 T, .int .i64 M, .slice pa ps.length pc, .slice la pl.length lc, .slice da dr.length dc] 25)) (hS.below (below_alloc _ _)) hH)
  have HS := hide hS
  clear hS hH
  go_enter Tryz.func3, Tryz.ntmps3
  go_wp2_with fail
  refine LG.out.mono ?_
  rintro r w1 ⟨⟨b, rfl, hb⟩, b1⟩
  have E1 := hide (heap_below (heap_new w (.cells #[.int .i64 T, .int .i64 M, .slice pa ps.length pc, .slice la pl.length lc, .slice da dr.length dc] 25)) b1)
  have B1 := hide (btr (below_alloc w (.cells #[.int .i64 T, .int .i64 M, .slice pa ps.length pc, .slice la pl.length lc, .slice da dr.length dc] 25)) b1)
  have x0 := cell_of E1.out 0
  have x1 := cell_of E1.out 1
  have x2 := cell_of E1.out 2
  have x3 := cell_of E1.out 3
  have x4 := cell_of E1.out 4
  simp at x0 x1 x2 x3 x4
  clear b1 LG
  cases b
  case true =>
    clear hb
    go_wp2_with fail
    refine (hands_any _).mono ?_
    rintro r w2 ⟨rfl, b2⟩
    have B2 := hide (btr B1.out b2)
    clear b2
    go_wp2_with fail
    go_ret
    exact ⟨rfl, B2.out⟩
  case false =>
    clear hb
    by_cases hs : Sh.schk ⟨T, M, ps, pl, dr⟩ = 0
    case neg =>
      have RN := hide (run_no T M ps pl dr pa la da pc lc dc w1 (HS.out.below B1.out) hs)
      have RR := hide (fun u (q : Sh.SAt u ⟨T, M, ps, pl, dr⟩ pa la da) => Rlo.rlrun_no T M ps pl dr pa la da pc lc dc u q hs)
      go_wp2_with fail
      refine RN.out.mono ?_
      rintro r w2 ⟨rfl, b2⟩
      have B2 := hide (btr B1.out b2)
      have E2 := hide (heap_below E1.out b2)
      have x0 := cell_of E2.out 0
      have x1 := cell_of E2.out 1
      have x2 := cell_of E2.out 2
      have x3 := cell_of E2.out 3
      have x4 := cell_of E2.out 4
      simp at x0 x1 x2 x3 x4
      have RR2 := hide (RR.out w2 (HS.out.below B2.out))
      clear b2 RN RR
      go_wp2_with fail
      refine RR2.out.mono ?_
      rintro r w3 ⟨rfl, b3⟩
      have B3 := hide (btr (btr B2.out b3) (below_alloc w3 (.cells #[.slice none 0 0, .int .i64 0] 32)))
      have V3 := hide (heap_new w3 (.cells #[.slice none 0 0, .int .i64 0] 32))
      have EQ := hide (events_same none none [] 0 0 (w3.alloc (.cells #[.slice none 0 0, .int .i64 0] 32)) (Lo.EsAt.nil _ _) (Lo.EsAt.nil _ _) (by simp))
      simp only [List.length_nil] at EQ
      clear b3 RR2 x0 x1 x2 x3 x4 E2 E1
      go_wp2_with fail
      refine EQ.out.mono ?_
      rintro r w4 ⟨rfl, b4⟩
      have B4 := hide (btr B3.out b4)
      have y1 := cell_of (heap_below V3.out b4) 1
      simp at y1
      clear b4 EQ
      go_wp2_with fail
      refine (hands_any _).mono ?_
      rintro r w5 ⟨rfl, b5⟩
      have B5 := hide (btr B4.out b5)
      clear b5
      go_wp2_with fail
      go_ret
      exact ⟨rfl, B5.out⟩
    case pos =>
      obtain ⟨R, hR⟩ : ∃ R, runF ⟨T, M, ps, pl, dr⟩ = R := ⟨_, rfl⟩
      have hlen : R.tr.length ≤ 80400 := by
        obtain ⟨k, -, i, -⟩ := Inv.steps hs pl.length
        have h1 := kn_le (i.n200 hs)
        have h2 := i.b.bw.tn
        have h3 : (stepsF pl.length (newS ⟨T, M, ps, pl, dr⟩)).tr.length = R.tr.length := by rw [← hR]; rfl
        omega
      have RN := hide (run_yes T M ps pl dr pa la da pc lc dc w1 (HS.out.below B1.out) hs R hR)
      have RR := hide (fun u (q : Sh.SAt u ⟨T, M, ps, pl, dr⟩ pa la da) => Rlo.rlrun_yes T M ps pl dr pa la da pc lc dc u q hs R hR)
      clear hR
      generalize verd R = V at RN RR
      go_wp2_with fail
      refine RN.out.mono ?_
      rintro r w2 ⟨ob, d, rfl, es2, -, b2⟩
      have B2 := hide (btr B1.out b2)
      have E2 := hide (heap_below E1.out b2)
      have ES2 := hide es2
      have x0 := cell_of E2.out 0
      have x1 := cell_of E2.out 1
      have x2 := cell_of E2.out 2
      have x3 := cell_of E2.out 3
      have x4 := cell_of E2.out 4
      simp at x0 x1 x2 x3 x4
      have RR2 := hide (RR.out w2 (HS.out.below B2.out))
      clear b2 es2 RN RR
      go_wp2_with fail
      refine RR2.out.mono ?_
      rintro r w3 ⟨oc, e, rfl, es3, -, b3⟩
      have BA := below_alloc w3 (.cells #[.slice oc R.tr.length e, .int .i64 V] 32)
      have B3 := hide (btr (btr B2.out b3) BA)
      have V3 := hide (heap_new w3 (.cells #[.slice oc R.tr.length e, .int .i64 V] 32))
      have EQ := hide (events_same ob oc R.tr d e _ ((ES2.out.below b3).below BA) (es3.below BA) (by omega))
      clear b3 es3 RR2 x0 x1 x2 x3 x4 E2 E1 BA
      go_wp2_with fail
      refine EQ.out.mono ?_
      rintro r w4 ⟨rfl, b4⟩
      have B4 := hide (btr B3.out b4)
      have y1 := cell_of (heap_below V3.out b4) 1
      simp at y1
      have vv : (V == V) = true := by simp
      clear b4 EQ
      go_wp2_with fail
      refine (hands_any _).mono ?_
      rintro r w5 ⟨rfl, b5⟩
      have B5 := hide (btr B4.out b5)
      clear b5
      go_wp2_with fail
      go_ret
      exact ⟨ret_bool (by simp), B5.out⟩

/-! ### the row -/
set_option maxRecDepth 100000 in
theorem lifted (os : Os) (started : os.Started) (H : Type) (enc : TypeId × Value → H) :
    ReturnsInHanded {} Tryz.checked os 3 .any (Rows.loomRunsSpec.pre6 enc Tryz.prog Tryz.f3 Rows.loomRunsRow.domain false) (Rows.loomRunsSpec.post enc Tryz.prog Tryz.f3 false true false false) := by
  refine returnsInHanded_of_change_sized (C := Tryz.checked) own started (by kernel_rfl) Tryz.func3
    (ChangeSpec.witness6 (enc := enc) (C := Tryz.checked) false ⟨#[], #[.agg #[.int .i64 0, .int .i64 0, .slice none 0 0, .slice none 0 0, .slice none 0 0]], []⟩ 8 (by kernel_rfl) (by kernel_rfl) (by kernel_rfl) (by kernel_rfl)) ?_
  intro W base args ds gs before hval0 hW hcnd hsz0 _
  have hval : ∀ (j : Nat) t v, Tryz.f3.params[j]? = some t → args[j]? = some v → Value.okWide Tryz.prog W .any base t v := hval0
  have hW' := hW
  obtain ⟨p, q, hA0, hV, rfl, hfz, hnd⟩ := hW
  have hA : DataW.TrodAll enc Tryz.prog W 0 (fun _ => true) true Tryz.f3.params.toList args.toList ds p := hA0
  rw [Tryz.params3] at hA hval
  have hsz : (DataW.weightsEach Tryz.prog (Tryz.f3.params.toList ++ Rows.loomRunsSpec.plain.varTypes Tryz.prog) (ds ++ gs)).all (· ≤ reachBytes) = true := hsz0
  clear hsz0
  rw [Tryz.params3] at hsz
  obtain ⟨v0, vs0, d0, ds0, p0, q0, hargs, rfl, rfl, h0, r0⟩ := trodAll_cons hA
  obtain ⟨rfl, rfl, rfl⟩ := trodAll_nil r0
  obtain rfl : args = #[v0] := by cases args; simp_all
  obtain ⟨rfl, rfl⟩ := trodVars_none hV
  have k0 := h0
  have lt0 : ∀ x ∈ p0, x.block < W.heap.size := by obtain ⟨m, hm⟩ := k0; exact DataW.trod_lt m _ _ _ hm
  have z0 : WL 25 d0 := fun m hm => by
    have := List.all_eq_true.1 hsz _ (DataW.weights_mem_each (j := 0) (t := 25) (d := d0) rfl rfl m hm)
    simpa using this
  obtain ⟨T0, M0, ps0, pl0, dr0, pa0, la0, da0, pc0, lc0, dc0, rfl, S0, H0⟩ := h0.elim fun _ hf => script_open hf z0
  clear hA0 hval0
  refine (core (w := W) T0 M0 ps0 pl0 dr0 pa0 la0 da0 pc0 lc0 dc0 S0 H0).mono fun e W' ⟨he, bel⟩ => ?_
  subst he
  exact ⟨_, rfl, _, _, _, [], _, [], hW', trodAll_mk1 (shut_bool Tryz.underlying4 _), (trodAll_cons_mk (Below.trod laidOut (by kernel_rfl) (of_decide_eq_true (by kernel_rfl)) k0 bel lt0) trodAll_mk0), rfl, bel.frame _, fun h => by cases h⟩

theorem over : Rows.loomRunsRow.holds Tryz.pinned (OpenSpec.ofChange Rows.loomRunsSpec) :=
  OpenClaim.holds_of_wide 3 Tryz.f3 rfl rfl rfl rfl rfl rfl rfl ⟨rfl, rfl, rfl, rfl, rfl⟩ rfl rfl rfl rfl rfl (by kernel_rfl) Tryz.func3 (by kernel_rfl)
    (of_decide_eq_true (by kernel_rfl)) (by unfold Func.isWrapper; first | (rw [if_pos (by decide +kernel)]; kernel_rfl) | (rw [if_neg (by decide +kernel)]; exact ⟨rfl, rfl⟩))
    (fun os started H enc _ => lifted os started H enc)

/-- the statement -/
theorem proved : Rows.LoomRunsSaid := over
#print axioms proved
end Go.Proofs.YtddchcekljndmaaGreat.loomRuns
