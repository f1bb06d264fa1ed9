/- For every number, the law CrewNil returns true, so a nil crew has no goroutines: under no condition. -/
import Derived.Test.YtgpmefbmbfbjcaaMh
import Derived.ShutString
import Derived.ChangeOld
import Derived.Below
namespace Go.Proofs.Ytgpmefbmbfbjcaa.crewNil
open Go.ChangeShapes Go.WideShapes Go.ChangeAt Go.RowKit
open Go.ChangeMaps (open_string shut_string)
open Cr Ba

theorem own : ownKnob Try.prog.godebug = none := by kernel_rfl
theorem laidOut : laidOutB Try.prog = true := by kernel_rfl

set_option maxRecDepth 100000 in
set_option maxHeartbeats 3200000 in
theorem core {w : World} (g : Int) :
    Calls Try.prog 6 #[.int .i64 g] w fun r w' => r = .returned (.bool true) ∧ Below w.heap.size w w' := by
  have SP := hide (spawn_nil g w)
  by_cases hg : g < 0
  · rw [if_pos hg] at SP
    have d1 : decide (g < 0) = true := decide_eq_true hg
    have d2 : decide (0 ≤ g) = false := decide_eq_false (by omega)
    clear hg
    go_enter Try.func6, Try.ntmps6
    go_wp2_with fail
    refine SP.out.mono ?_
    rintro r w1 ⟨rfl, rfl⟩
    go_wp2_with fail
    refine (state_nil g _).mono ?_
    rintro r w1 ⟨rfl, rfl⟩
    go_wp2_with fail
    refine (at_nil g _).mono ?_
    rintro r w1 ⟨rfl, rfl⟩
    go_wp2_with fail
    refine (go_nil g _).mono ?_
    rintro r w2 ⟨rfl, b2⟩
    have B2 := hide b2
    clear b2
    go_wp2_with fail
    refine (park_nil g _).mono ?_
    rintro r w3 ⟨rfl, b3⟩
    have B3 := hide (btr B2.out b3)
    clear b3
    go_wp2_with fail
    refine (wake_nil g _).mono ?_
    rintro r w4 ⟨rfl, b4⟩
    have B4 := hide (btr B3.out b4)
    clear b4
    go_wp2_with fail
    refine (exit_nil g _).mono ?_
    rintro r w5 ⟨rfl, b5⟩
    have B5 := hide (btr B4.out b5)
    clear b5
    go_wp2_with fail
    refine (able_nil _).mono ?_
    rintro r w6 ⟨rfl, rfl⟩
    go_wp2_with fail
    refine (len_nil _).mono ?_
    rintro r w6 ⟨rfl, rfl⟩
    go_wp2_with fail
    refine (over_nil _).mono ?_
    rintro r w7 ⟨rfl, b7⟩
    have B7 := hide (btr B5.out b7)
    clear b7
    go_wp2_with fail
    refine (two_any _).mono ?_
    rintro r w8 ⟨rfl, b8⟩
    have B8 := hide (btr B7.out b8)
    clear b8
    go_wp2_with fail
    go_ret
    exact ⟨rfl, B8.out⟩
  · rw [if_neg hg] at SP
    have d1 : decide (g < 0) = false := decide_eq_false hg
    have d2 : decide (0 ≤ g) = true := decide_eq_true (by omega)
    clear hg
    go_enter Try.func6, Try.ntmps6
    go_wp2_with fail
    refine SP.out.mono ?_
    rintro r w1 ⟨rfl, rfl⟩
    go_wp2_with fail
    refine (state_nil g _).mono ?_
    rintro r w1 ⟨rfl, rfl⟩
    go_wp2_with fail
    refine (at_nil g _).mono ?_
    rintro r w1 ⟨rfl, rfl⟩
    go_wp2_with fail
    refine (go_nil g _).mono ?_
    rintro r w2 ⟨rfl, b2⟩
    have B2 := hide b2
    clear b2
    go_wp2_with fail
    refine (park_nil g _).mono ?_
    rintro r w3 ⟨rfl, b3⟩
    have B3 := hide (btr B2.out b3)
    clear b3
    go_wp2_with fail
    refine (wake_nil g _).mono ?_
    rintro r w4 ⟨rfl, b4⟩
    have B4 := hide (btr B3.out b4)
    clear b4
    go_wp2_with fail
    refine (exit_nil g _).mono ?_
    rintro r w5 ⟨rfl, b5⟩
    have B5 := hide (btr B4.out b5)
    clear b5
    go_wp2_with fail
    refine (able_nil _).mono ?_
    rintro r w6 ⟨rfl, rfl⟩
    go_wp2_with fail
    refine (len_nil _).mono ?_
    rintro r w6 ⟨rfl, rfl⟩
    go_wp2_with fail
    refine (over_nil _).mono ?_
    rintro r w7 ⟨rfl, b7⟩
    have B7 := hide (btr B5.out b7)
    clear b7
    go_wp2_with fail
    refine (two_any _).mono ?_
    rintro r w8 ⟨rfl, b8⟩
    have B8 := hide (btr B7.out b8)
    clear b8
    go_wp2_with fail
    go_ret
    exact ⟨rfl, B8.out⟩

/-! ### the row -/
set_option maxRecDepth 100000 in
theorem lifted (os : Os) (started : os.Started) (H : Type) (enc : TypeId × Value → H) :
    ReturnsInHanded {} Try.checked os 6 .any (Rows.crewNilSpec.pre6 enc Try.prog Try.f6 Rows.crewNilRow.domain false) (Rows.crewNilSpec.post enc Try.prog Try.f6 false true false false) := by
  refine returnsInHanded_of_change (C := Try.checked) own started (by kernel_rfl) Try.func6
    (ChangeSpec.witness6 (enc := enc) (C := Try.checked) false ⟨#[], #[.int .i64 0], []⟩ 8 (by kernel_rfl) (by kernel_rfl) (by kernel_rfl) (by kernel_rfl)) ?_
  intro W base args ds gs before hval0 hW hcnd _
  have hval : ∀ (j : Nat) t v, Try.f6.params[j]? = some t → args[j]? = some v → Value.okWide Try.prog W .any base t v := hval0
  have hW' := hW
  obtain ⟨p, q, hA0, hV, rfl, hfz, hnd⟩ := hW
  have hA : DataW.TrodAll enc Try.prog W 0 (fun _ => true) true Try.f6.params.toList args.toList ds p := hA0
  rw [Try.params6] at hA hval
  obtain ⟨v0, vs0, d0, ds0, p0, q0, hargs, rfl, rfl, h0, r0⟩ := trodAll_cons hA
  obtain ⟨rfl, rfl, rfl⟩ := trodAll_nil r0
  obtain rfl : args = #[v0] := by cases args; simp_all
  obtain ⟨rfl, rfl⟩ := trodVars_none hV
  obtain ⟨a0, rfl, rfl, rfl, w0⟩ := open_int Try.underlying3 (hval 0 3 v0 rfl rfl) h0
  clear hA0 hval0
  refine (core (w := W) a0).mono fun e W' ⟨he, bel⟩ => ?_
  subst he
  exact ⟨_, rfl, _, _, _, [], _, [], hW', trodAll_mk1 (shut_bool Try.underlying4 _), (trodAll_cons_mk (shut_int Try.underlying3 w0) trodAll_mk0), rfl, bel.frame _, fun h => by cases h⟩

theorem over : Rows.crewNilRow.holds Try.pinned (OpenSpec.ofChange Rows.crewNilSpec) :=
  OpenClaim.holds_of_wide 6 Try.f6 rfl rfl rfl rfl rfl rfl rfl ⟨rfl, rfl, rfl, rfl, rfl⟩ rfl rfl rfl rfl rfl (by kernel_rfl) Try.func6 (by kernel_rfl)
    (of_decide_eq_true (by kernel_rfl)) (by unfold Func.isWrapper; first | (rw [if_pos (by decide +kernel)]; kernel_rfl) | (rw [if_neg (by decide +kernel)]; exact ⟨rfl, rfl⟩))
    (fun os started H enc _ => lifted os started H enc)

/-- the statement -/
theorem proved : Rows.CrewNilSaid := over
#print axioms proved
end Go.Proofs.Ytgpmefbmbfbjcaa.crewNil
