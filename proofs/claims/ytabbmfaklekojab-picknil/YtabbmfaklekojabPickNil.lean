/- For every number, the law PickNil returns true, so of a nil cursor nothing is left, and it draws nought: under no condition. -/
import Derived.Test.YtabbmfaklekojabRows
import Derived.WalkKit
import Derived.ProofKit
import Derived.OpenShut
import Derived.Test.YtabbmfaklekojabPd
import Derived.ChangeOld
import Derived.Below
import Derived.ShutString
namespace Go.Proofs.Ytabbmfaklekojab.pickNil
open Go.ChangeShapes Go.WideShapes Go.ChangeAt Go.RowKit
open Go.ChangeMaps (open_string shut_string)
set_option linter.unusedVariables false      -- a walk need not use every 'w<i>' (that an integer argument fits its kind)

theorem own : ownKnob Try.prog.godebug = none := by kernel_rfl

open Pk Ba
set_option maxHeartbeats 1600000
set_option maxRecDepth 100000

theorem draw_nil_any (n : Int) (w : World) : Calls Try.prog 11 #[.pointer none, .int .i64 n] w fun r w' => r = .returned (.tuple #[.int .i64 0, .int .i64 (bif decide (1 ≤ n) && decide (n ≤ 64) then 0 else 1)]) ∧ Below w.heap.size w w' := by
  by_cases h : n < 1 ∨ 64 < n
  · refine (draw_arg none n w h).mono ?_
    rintro r w1 ⟨rfl, rfl⟩
    have : (decide (1 ≤ n) && decide (n ≤ 64)) = false := by simp; omega
    rw [this]
    exact ⟨rfl, Below.refl _ _⟩
  · have : (decide (1 ≤ n) && decide (n ≤ 64)) = true := by simp; omega
    rw [this]
    by_cases h1 : n = 1
    · subst h1
      refine (draw_one none w).mono ?_
      rintro r w1 ⟨rfl, rfl⟩
      exact ⟨rfl, Below.refl _ _⟩
    · exact draw_nil n w (by omega)

/-! ### the walk -/
theorem walk (a0 : Int) (w0 : (Lit.int .i64 a0).wf = true) (w : World) :
    Calls Try.prog 7 #[.int .i64 a0] w fun e w' => e = .returned (.bool true) ∧ Below w.heap.size w w' := by
  go_enter Try.func7, Try.ntmps7
  go_wp2_with fail
  refine (next_nil _).mono ?_
  rintro r w1 ⟨rfl, b1⟩
  have B1 := hide b1
  clear b1
  go_wp2_with fail
  refine (draw_nil_any _ _).mono ?_
  rintro r w2 ⟨rfl, b2⟩
  have B2 := hide (btr B1.out b2)
  clear b2
  go_wp2_with fail
  refine (left_nil _).mono ?_
  rintro r w3 ⟨rfl, rfl⟩
  cases h1 : decide (1 ≤ a0) <;> cases h2 : decide (a0 ≤ 64) <;> simp only [Bool.and_true, Bool.and_false, cond_true, cond_false]
  all_goals
    go_wp2_with fail
    refine (copy_nil _).mono ?_
    rintro r w4 ⟨rfl, rfl⟩
    go_wp2_with fail
    refine (draws_any _).mono ?_
    rintro r w5 ⟨rfl, b5⟩
    have B5 := hide (btr B2.out b5)
    clear b5
    go_wp2_with fail
    go_ret
    exact ⟨rfl, B5.out⟩

/-! ### the row -/
set_option maxRecDepth 100000 in
theorem lifted (os : Os) (started : os.Started) (H : Type) (enc : TypeId × Value → H) :
    ReturnsInHanded {} Try.checked os 7 .any (Rows.pickNilSpec.pre6 enc Try.prog Try.f7 Rows.pickNilRow.domain false) (Rows.pickNilSpec.post enc Try.prog Try.f7 false true false false) := by
  refine returnsInHanded_of_change (C := Try.checked) own started (by kernel_rfl) Try.func7
    (ChangeSpec.witness6 (enc := enc) (C := Try.checked) false ⟨#[], #[.int .i64 0], []⟩ 8 (by kernel_rfl) (by kernel_rfl) (by kernel_rfl) (by kernel_rfl)) ?_
  intro W base args ds gs before hval0 hW hcnd _
  have hval : ∀ (j : Nat) t v, Try.f7.params[j]? = some t → args[j]? = some v → Value.okWide Try.prog W .any base t v := hval0
  have hW' := hW
  obtain ⟨p, q, hA0, hV, rfl, hfz, hnd⟩ := hW
  have hA : DataW.TrodAll enc Try.prog W 0 (fun _ => true) true Try.f7.params.toList args.toList ds p := hA0
  rw [Try.params7] at hA hval
  obtain ⟨v0, vs0, d0, ds0, p0, q0, hargs, rfl, rfl, h0, r0⟩ := trodAll_cons hA
  obtain ⟨rfl, rfl, rfl⟩ := trodAll_nil r0
  obtain rfl : args = #[v0] := by cases args; simp_all
  obtain ⟨rfl, rfl⟩ := trodVars_none hV
  obtain ⟨a0, rfl, rfl, rfl, w0⟩ := open_int Try.underlying3 (hval 0 3 v0 rfl rfl) h0
  clear hA0 hval0
  refine (walk a0 w0 W).mono fun e W' ⟨he, bel⟩ => ?_
  subst he
  exact ⟨_, rfl, _, _, _, [], _, [], hW', trodAll_mk1 (shut_bool Try.underlying4 _), (trodAll_cons_mk (shut_int Try.underlying3 w0) trodAll_mk0), rfl, bel.frame _, fun h => by cases h⟩

theorem over : Rows.pickNilRow.holds Try.pinned (OpenSpec.ofChange Rows.pickNilSpec) :=
  OpenClaim.holds_of_wide 7 Try.f7 rfl rfl rfl rfl rfl rfl rfl ⟨rfl, rfl, rfl, rfl, rfl⟩ rfl rfl rfl rfl rfl (by kernel_rfl) Try.func7 (by kernel_rfl)
    (of_decide_eq_true (by kernel_rfl)) (by unfold Func.isWrapper; first | (rw [if_pos (by decide +kernel)]; kernel_rfl) | (rw [if_neg (by decide +kernel)]; exact ⟨rfl, rfl⟩))
    (fun os started H enc _ => lifted os started H enc)

/-- ████ THE STATEMENT ████ -/
theorem proved : Rows.PickNilSaid :=
  over
#print axioms proved
end Go.Proofs.Ytabbmfaklekojab.pickNil
