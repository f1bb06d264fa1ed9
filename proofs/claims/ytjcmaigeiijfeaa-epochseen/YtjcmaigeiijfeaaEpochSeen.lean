/- For every 64 bits and every clock, the law EpochSeen returns true, so Seen answers what the document says: under no condition. -/
import Derived.Test.YtjcmaigeiijfeaaRows
import Derived.WalkKit
import Derived.ProofKit
import Derived.OpenShut
import Derived.WalkLawsBesides
import Derived.WalkSpells
import Derived.Test.YtjcmaigeiijfeaaEp
import Derived.Test.YtjcmaigeiijfeaaRf
import Derived.Deep.RegionWith
import Derived.Deep.QuietTactic
import Derived.BigQuiet
namespace Go.Proofs.Ytjcmaigeiijfeaa.epochSeen
open Go.ChangeShapes Go.WideShapes Go.ChangeAt Go.RowKit
set_option linter.unusedVariables false      -- a walk need not use every 'w<i>' (that an integer argument fits its kind)

theorem own : ownKnob Try.prog.godebug = none := by kernel_rfl

open Ep
set_option maxHeartbeats 1600000

/-! ### the walk -/
theorem walk (a0 : Int) (a1 : Int) (w0 : (Lit.int .u64 a0).wf = true) (w1 : (Lit.int .i64 a1).wf = true) (w : World) :
    Calls Try.prog 6 #[.int .u64 a0, .int .i64 a1] w fun e w' => e = .returned (.bool true) ∧ Grown w w' := by
  obtain ⟨e0, e1⟩ := bounds_u64 w0
  clear w0 w1
  by_cases hn : a0 = 0
  · subst hn
    go_enter Try.func6, Try.ntmps6
    go_wp2_with (first | (go_at_call 12; refine (read_none _).mono ?_; rintro r w' ⟨rfl, rfl⟩))
    go_region_with (first | (go_at_call 22; go_in) | (go_at_call 21; refine (seen_none _ _).mono ?_; rintro r w' ⟨rfl, rfl⟩) | (go_at_call 11; refine (two_any _).mono ?_; rintro r w' ⟨rfl, rfl⟩))
    all_goals
      go_wp2
      go_ret
      exact ⟨rfl, by repeat (first | exact Grown.refl _ | apply Grown.drew | apply Grown.alloc)⟩
  by_cases hl : a0 = 18446744073709551615
  · subst hl
    have hc : clkOf 18446744073709551615 = 0 := clk_not _ (by decide)
    have H : Hid ((decide (1 ≤ clkOf 18446744073709551615) && decide (clkOf 18446744073709551615 ≤ a1)) = false) := by show _ = _; rw [hc]; rfl
    clear hn hc
    go_enter Try.func6, Try.ntmps6
    go_wp2_with (first | (go_at_call 12; refine (read_tail _).mono ?_; rintro r w' ⟨rfl, rfl⟩))
    go_region_with (first | (go_at_call 22; go_in) | (go_at_call 21; refine (seen_any _ _ e0 e1 (by decide) _).mono ?_; rw [H.out]; rintro r w' ⟨rfl, rfl⟩) | (go_at_call 11; refine (two_any _).mono ?_; rintro r w' ⟨rfl, rfl⟩))
    all_goals
      go_wp2
      go_ret
      exact ⟨rfl, by repeat (first | exact Grown.refl _ | apply Grown.drew | apply Grown.alloc)⟩
  cases ho : ownB a0
  · have hc : clkOf a0 = 0 := clk_not _ ho
    have H : Hid ((decide (1 ≤ clkOf a0) && decide (clkOf a0 ≤ a1)) = false) := by show _ = _; rw [hc]; rfl
    clear hc
    go_enter Try.func6, Try.ntmps6
    go_wp2_with (first | (go_at_call 12; refine (read_bad a0 e0 e1 ho hn hl _).mono ?_; rintro r w' ⟨rfl, rfl⟩))
    go_region_with (first | (go_at_call 22; go_in) | (go_at_call 21; refine (seen_any _ _ e0 e1 hn _).mono ?_; rw [H.out]; rintro r w' ⟨rfl, rfl⟩) | (go_at_call 11; refine (two_any _).mono ?_; rintro r w' ⟨rfl, rfl⟩))
    all_goals
      go_wp2
      go_ret
      exact ⟨rfl, by repeat (first | exact Grown.refl _ | apply Grown.drew | apply Grown.alloc)⟩
  have hb := own_bd a0 ho
  have hc : clkOf a0 = a0 % 4294967296 := clk_own _ ho
  by_cases hd : a0 % 4294967296 ≤ a1
  · have H : Hid ((decide (1 ≤ clkOf a0) && decide (clkOf a0 ≤ a1)) = true) := by show _ = _; rw [hc]; simp; omega
    have hd2 : decide (a0 % 4294967296 ≤ a1) = true := by simp; omega
    clear hc hb
    go_enter Try.func6, Try.ntmps6
    go_wp2_with (first | (go_at_call 12; refine (read_own a0 ho _).mono ?_; rintro r w' ⟨rfl, rfl⟩))
    go_region_with (first | (go_at_call 22; go_in) | (go_at_call 21; refine (seen_any _ _ e0 e1 hn _).mono ?_; rw [H.out]; rintro r w' ⟨rfl, rfl⟩) | (go_at_call 11; refine (two_any _).mono ?_; rintro r w' ⟨rfl, rfl⟩))
    all_goals
      go_wp2
      go_ret
      exact ⟨rfl, by repeat (first | exact Grown.refl _ | apply Grown.drew | apply Grown.alloc)⟩
  · have H : Hid ((decide (1 ≤ clkOf a0) && decide (clkOf a0 ≤ a1)) = false) := by show _ = _; rw [hc]; simp; omega
    have hd2 : decide (a0 % 4294967296 ≤ a1) = false := by simp; omega
    clear hc hb
    go_enter Try.func6, Try.ntmps6
    go_wp2_with (first | (go_at_call 12; refine (read_own a0 ho _).mono ?_; rintro r w' ⟨rfl, rfl⟩))
    go_region_with (first | (go_at_call 22; go_in) | (go_at_call 21; refine (seen_any _ _ e0 e1 hn _).mono ?_; rw [H.out]; rintro r w' ⟨rfl, rfl⟩) | (go_at_call 11; refine (two_any _).mono ?_; rintro r w' ⟨rfl, rfl⟩))
    all_goals
      go_wp2
      go_ret
      exact ⟨rfl, by repeat (first | exact Grown.refl _ | apply Grown.drew | apply Grown.alloc)⟩

/-! ### the row -/
set_option maxRecDepth 100000 in
theorem lifted (os : Os) (started : os.Started) (H : Type) (enc : TypeId × Value → H) :
    ReturnsInHanded {} Try.checked os 6 .any (Rows.epochSeenSpec.pre6 enc Try.prog Try.f6 Rows.epochSeenRow.domain false) (Rows.epochSeenSpec.post enc Try.prog Try.f6 false true false false) := by
  refine returnsInHanded_of_change (C := Try.checked) own started (by kernel_rfl) Try.func6
    (ChangeSpec.witness6 (enc := enc) (C := Try.checked) false ⟨#[], #[.int .u64 0, .int .i64 0], []⟩ 8 (by kernel_rfl) (by kernel_rfl) (by kernel_rfl) (by kernel_rfl)) ?_
  intro W base args ds gs before hval0 hW hcnd _
  have hval : ∀ (j : Nat) t v, Try.f6.params[j]? = some t → args[j]? = some v → Value.okWide Try.prog W .any base t v := hval0
  have hW' := hW
  obtain ⟨p, q, hA0, hV, rfl, hfz, hnd⟩ := hW
  have hA : DataW.TrodAll enc Try.prog W 0 (fun _ => true) true Try.f6.params.toList args.toList ds p := hA0
  rw [Try.params6] at hA hval
  obtain ⟨v0, vs0, d0, ds0, p0, q0, hargs, rfl, rfl, h0, r0⟩ := trodAll_cons hA
  obtain ⟨v1, vs1, d1, ds1, p1, q1, rfl, rfl, rfl, h1, r1⟩ := trodAll_cons r0
  obtain ⟨rfl, rfl, rfl⟩ := trodAll_nil r1
  obtain rfl : args = #[v0, v1] := by cases args; simp_all
  obtain ⟨rfl, rfl⟩ := trodVars_none hV
  obtain ⟨a0, rfl, rfl, rfl, w0⟩ := open_int Try.underlying23 (hval 0 23 v0 rfl rfl) h0
  obtain ⟨a1, rfl, rfl, rfl, w1⟩ := open_int Try.underlying3 (hval 1 3 v1 rfl rfl) h1
  clear hA0 hval0
  simp only [List.append_nil] at hW'
  refine (walk a0 a1 w0 w1 W).mono fun e W' ⟨he, hg⟩ => ?_
  subst he
  exact ⟨_, rfl, post_of_same (pa := []) (pv := []) hW' (fun _ _ _ => (trodAll_cons_mk (shut_bool Try.underlying4 _) trodAll_mk0)) (fun sp _ => (trodAll_cons_mk (shut_int Try.underlying23 w0) (trodAll_cons_mk (shut_int Try.underlying3 w1) trodAll_mk0))) (fun _ _ => rfl) rfl
    (hg.frame _) hg.2.1 (ok_one (by kernel_rfl) rfl (okWide_bool_mk Try.underlying4 _))⟩

theorem over : Rows.epochSeenRow.holds Try.pinned (OpenSpec.ofChange Rows.epochSeenSpec) :=
  OpenClaim.holds_of_wide 6 Try.f6 rfl rfl rfl rfl rfl rfl rfl ⟨rfl, rfl, rfl, rfl, rfl⟩ rfl rfl rfl rfl rfl (by kernel_rfl) Try.func6 (by kernel_rfl)
    (of_decide_eq_true (by kernel_rfl)) (by unfold Func.isWrapper; first | (rw [if_pos (by decide +kernel)]; kernel_rfl) | (rw [if_neg (by decide +kernel)]; exact ⟨rfl, rfl⟩))
    (fun os started H enc _ => lifted os started H enc)

/-- ████ THE STATEMENT ████ -/
theorem proved : Rows.EpochSeenSaid :=
  over
#print axioms proved
end Go.Proofs.Ytjcmaigeiijfeaa.epochSeen
