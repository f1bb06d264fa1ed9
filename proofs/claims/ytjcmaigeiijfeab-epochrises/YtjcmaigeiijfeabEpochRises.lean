/- For every tid and every count, the law EpochRises returns true, so so many times the next one raises the clock by so much, the tid the same, up to the greatest one: under no condition. -/
import Derived.Test.YtjcmaigeiijfeabRows
import Derived.WalkKit
import Derived.ProofKit
import Derived.OpenShut
import Derived.WalkLawsBesides
import Derived.WalkSpells
import Derived.Test.YtjcmaigeiijfeabEp
namespace Go.Proofs.Ytjcmaigeiijfeab.epochRises
open Go.ChangeShapes Go.WideShapes Go.ChangeAt Go.RowKit
set_option linter.unusedVariables false      -- a walk need not use every 'w<i>' (that an integer argument fits its kind)

theorem own : ownKnob Try.prog.godebug = none := by kernel_rfl

open Ep
set_option maxHeartbeats 1600000
theorem own_at (a k : Int) (h0 : 0 ≤ a) (h1 : a < 256) (h2 : 0 ≤ k) (h3 : k ≤ 1048575) : ownB ((a + 1) * 4294967296 + (1 + k)) = true := by
  simp [ownB]; omega

/-! ### the walk -/
theorem walk (a0 : Int) (a1 : Int) (w0 : (Lit.int .i64 a0).wf = true) (w1 : (Lit.int .i64 a1).wf = true) (w : World) :
    Calls Try.prog 3 #[.int .i64 a0, .int .i64 a1] w fun e w' => e = .returned (.bool true) ∧ Grown w w' := by
  have w0' := bounds_i64 w0
  have w1' := bounds_i64 w1
  clear w0 w1
  by_cases h : 0 ≤ a0 ∧ a0 < 256
  · obtain ⟨h0, h1⟩ := h
    by_cases t0 : a1 < 0
    · go_enter Try.func3, Try.ntmps3
      go_wp2_with (first | (go_at_call 9; refine (pack_ok a0 1 h0 h1 (by decide) (by decide) _).mono ?_; rintro r w' ⟨rfl, rfl⟩) | (go_at_call 10; refine (two_any _).mono ?_; rintro r w' ⟨rfl, rfl⟩))
      go_ret
      exact ⟨rfl, Grown.refl _⟩
    by_cases t1 : 300 < a1
    · go_enter Try.func3, Try.ntmps3
      go_wp2_with (first | (go_at_call 9; refine (pack_ok a0 1 h0 h1 (by decide) (by decide) _).mono ?_; rintro r w' ⟨rfl, rfl⟩) | (go_at_call 10; refine (two_any _).mono ?_; rintro r w' ⟨rfl, rfl⟩))
      go_ret
      exact ⟨rfl, Grown.refl _⟩
    go_enter Try.func3, Try.ntmps3
    go_wp2_with (first | (go_at_call 9; refine (pack_ok a0 1 h0 h1 (by decide) (by decide) _).mono ?_; rintro r w' ⟨rfl, rfl⟩))
    go_loop [5, 7] (fun e i => ∃ k : Int, 0 ≤ k ∧ k ≤ a1 ∧ i = .int .i64 k ∧ e = .int .u64 ((a0 + 1) * 4294967296 + (1 + k))) (fun _ i => (a1 - intOf i).toNat)
    case atStart => exact ⟨0, by omega, by omega, rfl, rfl⟩
    case round =>
      obtain ⟨k, hk0, hk1, rfl, rfl⟩ := hrel
      by_cases hlt : k < a1
      · have ho := own_at a0 k h0 h1 hk0 (by omega)
        by_cases hl : k + 1 < a1
        · have H : Hid (((a0 + 1) * 4294967296 + (1 + k)) % 4294967296 < a1) := by show _ < _; omega
          go_wp2_with (first | (go_at_call 11; refine (next_ok _ a1 ho (by omega) H.out _).mono ?_; rintro r w' ⟨rfl, rfl⟩))
          go_round
          case rel => exact ⟨k + 1, by omega, by omega, rfl, by rw [show (a0 + 1) * 4294967296 + (1 + k) + 1 = (a0 + 1) * 4294967296 + (1 + (k + 1)) from by omega]⟩
          case measure => simp [intOf]; omega
        · have H : Hid (a1 ≤ ((a0 + 1) * 4294967296 + (1 + k)) % 4294967296) := by show _ ≤ _; omega
          have f0 : 0 ≤ (a0 + 1) * 4294967296 + (1 + k) := by omega
          have f1 : (a0 + 1) * 4294967296 + (1 + k) ≤ 18446744073709551615 := by omega
          have ht : tidOf ((a0 + 1) * 4294967296 + (1 + k)) = a0 := by rw [tid_own _ ho]; omega
          have hc : clkOf ((a0 + 1) * 4294967296 + (1 + k)) = a1 := by rw [clk_own _ ho]; omega
          go_wp2_with (first | (go_at_call 11; refine (next_full _ a1 f0 f1 ho (by omega) (by omega) H.out _).mono ?_; rintro r w' ⟨rfl, rfl⟩) | (go_at_call 13; refine (tid_any _ f0 f1 _).mono ?_; rw [ht]; rintro r w' ⟨rfl, rfl⟩) | (go_at_call 12; refine (clk_any _ f0 f1 _).mono ?_; rw [hc]; rintro r w' ⟨rfl, rfl⟩) | (go_at_call 10; refine (two_any _).mono ?_; rintro r w' ⟨rfl, rfl⟩))
          go_ret
          exact ⟨rfl, Grown.refl _⟩
      · go_wp2_with (go_at_call 10; refine (two_any _).mono ?_; rintro r w' ⟨rfl, rfl⟩)
        go_ret
        exact ⟨rfl, Grown.refl _⟩
  · have H : Hid (a0 < 0 ∨ 256 ≤ a0 ∨ (1 : Int) < 1 ∨ (1048576 : Int) < 1) := by show _ ∨ _; omega
    clear h
    go_enter Try.func3, Try.ntmps3
    go_wp2_with (first | (go_at_call 9; refine (pack_no a0 1 H.out _).mono ?_; rintro r w' ⟨rfl, rfl⟩) | (go_at_call 10; refine (two_any _).mono ?_; rintro r w' ⟨rfl, rfl⟩))
    go_ret
    exact ⟨rfl, Grown.refl _⟩

/-! ### the row -/
set_option maxRecDepth 100000 in
theorem lifted (os : Os) (started : os.Started) (H : Type) (enc : TypeId × Value → H) :
    ReturnsInHanded {} Try.checked os 3 .any (Rows.epochRisesSpec.pre6 enc Try.prog Try.f3 Rows.epochRisesRow.domain false) (Rows.epochRisesSpec.post enc Try.prog Try.f3 false true false false) := by
  refine returnsInHanded_of_change (C := Try.checked) own started (by kernel_rfl) Try.func3
    (ChangeSpec.witness6 (enc := enc) (C := Try.checked) false ⟨#[], #[.int .i64 0, .int .i64 0], []⟩ 8 (by kernel_rfl) (by kernel_rfl) (by kernel_rfl) (by kernel_rfl)) ?_
  intro W base args ds gs before hval0 hW hcnd _
  have hval : ∀ (j : Nat) t v, Try.f3.params[j]? = some t → args[j]? = some v → Value.okWide Try.prog W .any base t v := hval0
  have hW' := hW
  obtain ⟨p, q, hA0, hV, rfl, hfz, hnd⟩ := hW
  have hA : DataW.TrodAll enc Try.prog W 0 (fun _ => true) true Try.f3.params.toList args.toList ds p := hA0
  rw [Try.params3] at hA hval
  obtain ⟨v0, vs0, d0, ds0, p0, q0, hargs, rfl, rfl, h0, r0⟩ := trodAll_cons hA
  obtain ⟨v1, vs1, d1, ds1, p1, q1, rfl, rfl, rfl, h1, r1⟩ := trodAll_cons r0
  obtain ⟨rfl, rfl, rfl⟩ := trodAll_nil r1
  obtain rfl : args = #[v0, v1] := by cases args; simp_all
  obtain ⟨rfl, rfl⟩ := trodVars_none hV
  obtain ⟨a0, rfl, rfl, rfl, w0⟩ := open_int Try.underlying3 (hval 0 3 v0 rfl rfl) h0
  obtain ⟨a1, rfl, rfl, rfl, w1⟩ := open_int Try.underlying3 (hval 1 3 v1 rfl rfl) h1
  clear hA0 hval0
  simp only [List.append_nil] at hW'
  refine (walk a0 a1 w0 w1 W).mono fun e W' ⟨he, hg⟩ => ?_
  subst he
  exact ⟨_, rfl, post_of_same (pa := []) (pv := []) hW' (fun _ _ _ => (trodAll_cons_mk (shut_bool Try.underlying4 _) trodAll_mk0)) (fun sp _ => (trodAll_cons_mk (shut_int Try.underlying3 w0) (trodAll_cons_mk (shut_int Try.underlying3 w1) trodAll_mk0))) (fun _ _ => rfl) rfl
    (hg.frame _) hg.2.1 (ok_one (by kernel_rfl) rfl (okWide_bool_mk Try.underlying4 _))⟩

theorem over : Rows.epochRisesRow.holds Try.pinned (OpenSpec.ofChange Rows.epochRisesSpec) :=
  OpenClaim.holds_of_wide 3 Try.f3 rfl rfl rfl rfl rfl rfl rfl ⟨rfl, rfl, rfl, rfl, rfl⟩ rfl rfl rfl rfl rfl (by kernel_rfl) Try.func3 (by kernel_rfl)
    (of_decide_eq_true (by kernel_rfl)) (by unfold Func.isWrapper; first | (rw [if_pos (by decide +kernel)]; kernel_rfl) | (rw [if_neg (by decide +kernel)]; exact ⟨rfl, rfl⟩))
    (fun os started H enc _ => lifted os started H enc)

/-- ████ THE STATEMENT ████ -/
theorem proved : Rows.EpochRisesSaid :=
  over
#print axioms proved
end Go.Proofs.Ytjcmaigeiijfeab.epochRises
