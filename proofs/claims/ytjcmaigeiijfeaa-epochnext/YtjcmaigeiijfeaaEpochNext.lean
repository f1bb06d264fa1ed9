/- For every 64 bits and every greatest clock, the law EpochNext returns true, so Next answers the next clock of the same tid, or the document's error: under no condition. -/
import Derived.Test.YtjcmaigeiijfeaaRows
import Derived.WalkKit
import Derived.ProofKit
import Derived.OpenShut
import Derived.WalkLawsBesides
import Derived.WalkSpells
import Derived.Test.YtjcmaigeiijfeaaEp
import Derived.Test.YtjcmaigeiijfeaaRf
import Derived.Deep.RegionWith
import Derived.Deep.QuietTactic
import Derived.BigQuiet
namespace Go.Proofs.Ytjcmaigeiijfeaa.epochNext
open Go.ChangeShapes Go.WideShapes Go.ChangeAt Go.RowKit
set_option linter.unusedVariables false      -- a walk need not use every 'w<i>' (that an integer argument fits its kind)

theorem own : ownKnob Try.prog.godebug = none := by kernel_rfl

open Ep
set_option maxHeartbeats 1600000

/-! ### the walk -/
theorem walk (a0 : Int) (a1 : Int) (w0 : (Lit.int .u64 a0).wf = true) (w1 : (Lit.int .i64 a1).wf = true) (w : World) :
    Calls Try.prog 5 #[.int .u64 a0, .int .i64 a1] w fun e w' => e = .returned (.bool true) ∧ Grown w w' := by
  obtain ⟨e0, e1⟩ := bounds_u64 w0
  clear w0 w1
  by_cases hn : a0 = 0
  · subst hn
    go_enter Try.func5, Try.ntmps5
    go_wp2_with (first | (go_at_call 12; refine (read_none _).mono ?_; rintro r w' ⟨rfl, rfl⟩) | (go_at_call 19; refine (rnext_arg _ _ _ _ _ _ (Or.inl rfl) _).mono ?_; rintro r w' ⟨rfl, rfl⟩) | (go_at_call 18; refine (next_arg _ _ e0 e1 (Or.inl (by decide)) _).mono ?_; rintro r w' ⟨rfl, rfl⟩) | (go_at_call 11; refine (two_any _).mono ?_; rintro r w' ⟨rfl, rfl⟩))
    go_ret
    exact ⟨rfl, by repeat (first | exact Grown.refl _ | apply Grown.drew | apply Grown.alloc)⟩
  by_cases hl : a0 = 18446744073709551615
  · subst hl
    clear hn
    go_enter Try.func5, Try.ntmps5
    go_wp2_with (first | (go_at_call 12; refine (read_tail _).mono ?_; rintro r w' ⟨rfl, rfl⟩) | (go_at_call 19; refine (rnext_arg _ _ _ _ _ _ (Or.inl rfl) _).mono ?_; rintro r w' ⟨rfl, rfl⟩) | (go_at_call 18; refine (next_arg _ _ e0 e1 (Or.inl (by decide)) _).mono ?_; rintro r w' ⟨rfl, rfl⟩) | (go_at_call 11; refine (two_any _).mono ?_; rintro r w' ⟨rfl, rfl⟩))
    go_ret
    exact ⟨rfl, by repeat (first | exact Grown.refl _ | apply Grown.drew | apply Grown.alloc)⟩
  cases ho : ownB a0
  · go_enter Try.func5, Try.ntmps5
    go_wp2_with (first | (go_at_call 12; refine (read_bad a0 e0 e1 ho hn hl _).mono ?_; rintro r w' ⟨rfl, rfl⟩) | (go_at_call 19; refine (rnext_arg _ _ _ _ _ _ (Or.inl rfl) _).mono ?_; rintro r w' ⟨rfl, rfl⟩) | (go_at_call 18; refine (next_arg _ _ e0 e1 (Or.inl ho) _).mono ?_; rintro r w' ⟨rfl, rfl⟩) | (go_at_call 11; refine (two_any _).mono ?_; rintro r w' ⟨rfl, rfl⟩))
    go_ret
    exact ⟨rfl, by repeat (first | exact Grown.refl _ | apply Grown.drew | apply Grown.alloc)⟩
  have hb := own_bd a0 ho
  by_cases hm : 1 ≤ a1 ∧ a1 ≤ 1048576
  · obtain ⟨m0, m1⟩ := hm
    by_cases hd : a0 % 4294967296 < a1
    · have ho2 : ownB (a0 + 1) = true := by simp [ownB]; omega
      have ht : tidOf (a0 + 1) = a0 / 4294967296 - 1 := by rw [tid_own _ ho2]; omega
      have hc : clkOf (a0 + 1) = a0 % 4294967296 + 1 := by rw [clk_own _ ho2]; omega
      have H : Hid (((tidOf a0 == tidOf (a0 + 1)) && (decide (1 ≤ clkOf a0) && decide (clkOf a0 ≤ clkOf (a0 + 1) - 1))) = true) := by show _ = _; rw [tid_own a0 ho, clk_own a0 ho, ht, hc]; simp; omega
      have f0 : 0 ≤ a0 + 1 := by omega
      have f1 : a0 + 1 ≤ 18446744073709551615 := by omega
      have hq : 0 ≤ a0 % 4294967296 := by omega
      clear hb ho2
      go_enter Try.func5, Try.ntmps5
      go_wp2_with (first | (go_at_call 12; refine (read_own a0 ho _).mono ?_; rintro r w' ⟨rfl, rfl⟩) | (go_at_call 19; refine (rnext_ok _ _ _ hq m0 m1 hd _).mono ?_; rintro r w' ⟨rfl, rfl⟩) | (go_at_call 18; refine (next_ok _ _ ho m1 hd _).mono ?_; rintro r w' ⟨rfl, rfl⟩))
      go_quiet ((first | (go_at_call 14; exact Calls.quiet_of_same (tid_any _ f0 f1 _)) | (go_at_call 15; exact Calls.quiet_of_same (clk_any _ f0 f1 _)) | (go_at_call 20; exact Calls.quiet_of_same (less_yes _ _ e0 e1 f0 f1 H.out _)) | (go_at_call 11; exact Calls.quiet_of_same (two_any _))))
      all_goals
        go_wp2
        go_ret
        exact ⟨rfl, by repeat (first | exact Grown.refl _ | apply Grown.drew | apply Grown.alloc)⟩
    · have hd' : a1 ≤ a0 % 4294967296 := by omega
      clear hb hd
      go_enter Try.func5, Try.ntmps5
      go_wp2_with (first | (go_at_call 12; refine (read_own a0 ho _).mono ?_; rintro r w' ⟨rfl, rfl⟩) | (go_at_call 19; refine (rnext_full _ _ _ m0 m1 hd' _).mono ?_; rintro r w' ⟨rfl, rfl⟩) | (go_at_call 18; refine (next_full _ _ e0 e1 ho m0 m1 hd' _).mono ?_; rintro r w' ⟨rfl, rfl⟩) | (go_at_call 11; refine (two_any _).mono ?_; rintro r w' ⟨rfl, rfl⟩))
      go_ret
      exact ⟨rfl, by repeat (first | exact Grown.refl _ | apply Grown.drew | apply Grown.alloc)⟩
  · have hm' : a1 < 1 ∨ 1048576 < a1 := by omega
    clear hb hm
    go_enter Try.func5, Try.ntmps5
    go_wp2_with (first | (go_at_call 12; refine (read_own a0 ho _).mono ?_; rintro r w' ⟨rfl, rfl⟩) | (go_at_call 19; refine (rnext_arg _ _ _ _ _ _ (Or.inr hm') _).mono ?_; rintro r w' ⟨rfl, rfl⟩) | (go_at_call 18; refine (next_arg _ _ e0 e1 (Or.inr hm') _).mono ?_; rintro r w' ⟨rfl, rfl⟩) | (go_at_call 11; refine (two_any _).mono ?_; rintro r w' ⟨rfl, rfl⟩))
    go_ret
    exact ⟨rfl, by repeat (first | exact Grown.refl _ | apply Grown.drew | apply Grown.alloc)⟩

/-! ### the row -/
set_option maxRecDepth 100000 in
theorem lifted (os : Os) (started : os.Started) (H : Type) (enc : TypeId × Value → H) :
    ReturnsInHanded {} Try.checked os 5 .any (Rows.epochNextSpec.pre6 enc Try.prog Try.f5 Rows.epochNextRow.domain false) (Rows.epochNextSpec.post enc Try.prog Try.f5 false true false false) := by
  refine returnsInHanded_of_change (C := Try.checked) own started (by kernel_rfl) Try.func5
    (ChangeSpec.witness6 (enc := enc) (C := Try.checked) false ⟨#[], #[.int .u64 0, .int .i64 0], []⟩ 8 (by kernel_rfl) (by kernel_rfl) (by kernel_rfl) (by kernel_rfl)) ?_
  intro W base args ds gs before hval0 hW hcnd _
  have hval : ∀ (j : Nat) t v, Try.f5.params[j]? = some t → args[j]? = some v → Value.okWide Try.prog W .any base t v := hval0
  have hW' := hW
  obtain ⟨p, q, hA0, hV, rfl, hfz, hnd⟩ := hW
  have hA : DataW.TrodAll enc Try.prog W 0 (fun _ => true) true Try.f5.params.toList args.toList ds p := hA0
  rw [Try.params5] at hA hval
  obtain ⟨v0, vs0, d0, ds0, p0, q0, hargs, rfl, rfl, h0, r0⟩ := trodAll_cons hA
  obtain ⟨v1, vs1, d1, ds1, p1, q1, rfl, rfl, rfl, h1, r1⟩ := trodAll_cons r0
  obtain ⟨rfl, rfl, rfl⟩ := trodAll_nil r1
  obtain rfl : args = #[v0, v1] := by cases args; simp_all
  obtain ⟨rfl, rfl⟩ := trodVars_none hV
  obtain ⟨a0, rfl, rfl, rfl, w0⟩ := open_int Try.underlying23 (hval 0 23 v0 rfl rfl) h0
  obtain ⟨a1, rfl, rfl, rfl, w1⟩ := open_int Try.underlying3 (hval 1 3 v1 rfl rfl) h1
  clear hA0 hval0
  simp only [List.append_nil] at hW'
  refine (walk a0 a1 w0 w1 W).mono fun e W' ⟨he, hg⟩ => ?_
  subst he
  exact ⟨_, rfl, post_of_same (pa := []) (pv := []) hW' (fun _ _ _ => (trodAll_cons_mk (shut_bool Try.underlying4 _) trodAll_mk0)) (fun sp _ => (trodAll_cons_mk (shut_int Try.underlying23 w0) (trodAll_cons_mk (shut_int Try.underlying3 w1) trodAll_mk0))) (fun _ _ => rfl) rfl
    (hg.frame _) hg.2.1 (ok_one (by kernel_rfl) rfl (okWide_bool_mk Try.underlying4 _))⟩

theorem over : Rows.epochNextRow.holds Try.pinned (OpenSpec.ofChange Rows.epochNextSpec) :=
  OpenClaim.holds_of_wide 5 Try.f5 rfl rfl rfl rfl rfl rfl rfl ⟨rfl, rfl, rfl, rfl, rfl⟩ rfl rfl rfl rfl rfl (by kernel_rfl) Try.func5 (by kernel_rfl)
    (of_decide_eq_true (by kernel_rfl)) (by unfold Func.isWrapper; first | (rw [if_pos (by decide +kernel)]; kernel_rfl) | (rw [if_neg (by decide +kernel)]; exact ⟨rfl, rfl⟩))
    (fun os started H enc _ => lifted os started H enc)

/-- ████ THE STATEMENT ████ -/
theorem proved : Rows.EpochNextSaid :=
  over
#print axioms proved
end Go.Proofs.Ytjcmaigeiijfeaa.epochNext
