/- For every 64 bits, the law EpochReads returns true, so Tid, Clock and Check answer what the document says of them: under no condition. -/
import Derived.Test.YtjcmaigeiijfeaaRows
import Derived.WalkKit
import Derived.ProofKit
import Derived.OpenShut
import Derived.WalkLawsBesides
import Derived.WalkSpells
import Derived.Test.YtjcmaigeiijfeaaEp
import Derived.Test.YtjcmaigeiijfeaaRf
namespace Go.Proofs.Ytjcmaigeiijfeaa.epochReads
open Go.ChangeShapes Go.WideShapes Go.ChangeAt Go.RowKit
set_option linter.unusedVariables false      -- a walk need not use every 'w<i>' (that an integer argument fits its kind)

theorem own : ownKnob Try.prog.godebug = none := by kernel_rfl

open Ep
set_option maxHeartbeats 1600000

/-! ### the walk -/
theorem walk (a0 : Int) (w0 : (Lit.int .u64 a0).wf = true) (w : World) :
    Calls Try.prog 4 #[.int .u64 a0] w fun e w' => e = .returned (.bool true) ∧ Grown w w' := by
  obtain ⟨e0, e1⟩ := bounds_u64 w0
  clear w0
  by_cases hn : a0 = 0
  · subst hn
    have ho : ownB 0 = false := by decide
    have ht : tidOf 0 = -1 := tid_not 0 ho
    have hc : clkOf 0 = 0 := clk_not 0 ho
    go_enter Try.func4, Try.ntmps4
    go_wp2_with (first | (go_at_call 12; refine (read_none _).mono ?_; rintro r w' ⟨rfl, rfl⟩) | (go_at_call 13; go_in) | (go_at_call 17; go_in) | (go_at_call 14; refine (tid_any 0 e0 e1 _).mono ?_; rintro r w' ⟨rfl, rfl⟩) | (go_at_call 15; refine (clk_any 0 e0 e1 _).mono ?_; rintro r w' ⟨rfl, rfl⟩) | (go_at_call 16; refine (check_ok 0 e0 e1 (Or.inl rfl) _).mono ?_; rintro r w' ⟨rfl, rfl⟩) | (go_at_call 11; refine (two_any _).mono ?_; rintro r w' ⟨rfl, rfl⟩))
    go_ret
    exact ⟨rfl, by repeat (first | exact Grown.refl _ | apply Grown.drew | apply Grown.alloc)⟩
  by_cases hl : a0 = 18446744073709551615
  · subst hl
    have ho : ownB 18446744073709551615 = false := by decide
    have ht : tidOf 18446744073709551615 = -1 := tid_not _ ho
    have hc : clkOf 18446744073709551615 = 0 := clk_not _ ho
    clear hn
    go_enter Try.func4, Try.ntmps4
    go_wp2_with (first | (go_at_call 12; refine (read_tail _).mono ?_; rintro r w' ⟨rfl, rfl⟩) | (go_at_call 13; go_in) | (go_at_call 17; go_in) | (go_at_call 14; refine (tid_any 18446744073709551615 e0 e1 _).mono ?_; rintro r w' ⟨rfl, rfl⟩) | (go_at_call 15; refine (clk_any 18446744073709551615 e0 e1 _).mono ?_; rintro r w' ⟨rfl, rfl⟩) | (go_at_call 16; refine (check_ok 18446744073709551615 e0 e1 (Or.inr (Or.inl rfl)) _).mono ?_; rintro r w' ⟨rfl, rfl⟩) | (go_at_call 11; refine (two_any _).mono ?_; rintro r w' ⟨rfl, rfl⟩))
    go_ret
    exact ⟨rfl, by repeat (first | exact Grown.refl _ | apply Grown.drew | apply Grown.alloc)⟩
  cases ho : ownB a0
  · have ht : tidOf a0 = -1 := tid_not _ ho
    have hc : clkOf a0 = 0 := clk_not _ ho
    go_enter Try.func4, Try.ntmps4
    go_wp2_with (first | (go_at_call 12; refine (read_bad a0 e0 e1 ho hn hl _).mono ?_; rintro r w' ⟨rfl, rfl⟩) | (go_at_call 13; go_in) | (go_at_call 17; go_in) | (go_at_call 14; refine (tid_any a0 e0 e1 _).mono ?_; rintro r w' ⟨rfl, rfl⟩) | (go_at_call 15; refine (clk_any a0 e0 e1 _).mono ?_; rintro r w' ⟨rfl, rfl⟩) | (go_at_call 16; refine (check_no a0 e0 e1 ho hn hl _).mono ?_; rintro r w' ⟨rfl, rfl⟩) | (go_at_call 11; refine (two_any _).mono ?_; rintro r w' ⟨rfl, rfl⟩))
    go_ret
    exact ⟨rfl, by repeat (first | exact Grown.refl _ | apply Grown.drew | apply Grown.alloc)⟩
  · have ht : tidOf a0 = a0 / 4294967296 - 1 := tid_own _ ho
    have hc : clkOf a0 = a0 % 4294967296 := clk_own _ ho
    go_enter Try.func4, Try.ntmps4
    go_wp2_with (first | (go_at_call 12; refine (read_own a0 ho _).mono ?_; rintro r w' ⟨rfl, rfl⟩) | (go_at_call 13; go_in) | (go_at_call 17; go_in) | (go_at_call 14; refine (tid_any a0 e0 e1 _).mono ?_; rintro r w' ⟨rfl, rfl⟩) | (go_at_call 15; refine (clk_any a0 e0 e1 _).mono ?_; rintro r w' ⟨rfl, rfl⟩) | (go_at_call 16; refine (check_ok a0 e0 e1 (Or.inr (Or.inr ho)) _).mono ?_; rintro r w' ⟨rfl, rfl⟩) | (go_at_call 11; refine (two_any _).mono ?_; rintro r w' ⟨rfl, rfl⟩))
    go_ret
    exact ⟨rfl, by repeat (first | exact Grown.refl _ | apply Grown.drew | apply Grown.alloc)⟩

/-! ### the row -/
set_option maxRecDepth 100000 in
theorem lifted (os : Os) (started : os.Started) (H : Type) (enc : TypeId × Value → H) :
    ReturnsInHanded {} Try.checked os 4 .any (Rows.epochReadsSpec.pre6 enc Try.prog Try.f4 Rows.epochReadsRow.domain false) (Rows.epochReadsSpec.post enc Try.prog Try.f4 false true false false) := by
  refine returnsInHanded_of_change (C := Try.checked) own started (by kernel_rfl) Try.func4
    (ChangeSpec.witness6 (enc := enc) (C := Try.checked) false ⟨#[], #[.int .u64 0], []⟩ 8 (by kernel_rfl) (by kernel_rfl) (by kernel_rfl) (by kernel_rfl)) ?_
  intro W base args ds gs before hval0 hW hcnd _
  have hval : ∀ (j : Nat) t v, Try.f4.params[j]? = some t → args[j]? = some v → Value.okWide Try.prog W .any base t v := hval0
  have hW' := hW
  obtain ⟨p, q, hA0, hV, rfl, hfz, hnd⟩ := hW
  have hA : DataW.TrodAll enc Try.prog W 0 (fun _ => true) true Try.f4.params.toList args.toList ds p := hA0
  rw [Try.params4] at hA hval
  obtain ⟨v0, vs0, d0, ds0, p0, q0, hargs, rfl, rfl, h0, r0⟩ := trodAll_cons hA
  obtain ⟨rfl, rfl, rfl⟩ := trodAll_nil r0
  obtain rfl : args = #[v0] := by cases args; simp_all
  obtain ⟨rfl, rfl⟩ := trodVars_none hV
  obtain ⟨a0, rfl, rfl, rfl, w0⟩ := open_int Try.underlying23 (hval 0 23 v0 rfl rfl) h0
  clear hA0 hval0
  simp only [List.append_nil] at hW'
  refine (walk a0 w0 W).mono fun e W' ⟨he, hg⟩ => ?_
  subst he
  exact ⟨_, rfl, post_of_same (pa := []) (pv := []) hW' (fun _ _ _ => (trodAll_cons_mk (shut_bool Try.underlying4 _) trodAll_mk0)) (fun sp _ => (trodAll_cons_mk (shut_int Try.underlying23 w0) trodAll_mk0)) (fun _ _ => rfl) rfl
    (hg.frame _) hg.2.1 (ok_one (by kernel_rfl) rfl (okWide_bool_mk Try.underlying4 _))⟩

theorem over : Rows.epochReadsRow.holds Try.pinned (OpenSpec.ofChange Rows.epochReadsSpec) :=
  OpenClaim.holds_of_wide 4 Try.f4 rfl rfl rfl rfl rfl rfl rfl ⟨rfl, rfl, rfl, rfl, rfl⟩ rfl rfl rfl rfl rfl (by kernel_rfl) Try.func4 (by kernel_rfl)
    (of_decide_eq_true (by kernel_rfl)) (by unfold Func.isWrapper; first | (rw [if_pos (by decide +kernel)]; kernel_rfl) | (rw [if_neg (by decide +kernel)]; exact ⟨rfl, rfl⟩))
    (fun os started H enc _ => lifted os started H enc)

/-- ████ THE STATEMENT ████ -/
theorem proved : Rows.EpochReadsSaid :=
  over
#print axioms proved
end Go.Proofs.Ytjcmaigeiijfeaa.epochReads
