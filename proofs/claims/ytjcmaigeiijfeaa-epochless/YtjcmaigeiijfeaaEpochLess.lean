/- For every two times 64 bits, the law EpochLess returns true, so Less answers what the document says: under no condition. -/
import Derived.Test.YtjcmaigeiijfeaaRows
import Derived.WalkKit
import Derived.ProofKit
import Derived.OpenShut
import Derived.WalkLawsBesides
import Derived.WalkSpells
import Derived.Test.YtjcmaigeiijfeaaEp
import Derived.Test.YtjcmaigeiijfeaaRf
import Derived.Test.YtjcmaigeiijfeaaRg
import Derived.Deep.RegionWith
import Derived.Deep.QuietTactic
import Derived.BigQuiet
namespace Go.Proofs.Ytjcmaigeiijfeaa.epochLess
open Go.ChangeShapes Go.WideShapes Go.ChangeAt Go.RowKit
set_option linter.unusedVariables false      -- a walk need not use every 'w<i>' (that an integer argument fits its kind)

theorem own : ownKnob Try.prog.godebug = none := by kernel_rfl

open Ep
set_option maxHeartbeats 1600000

/-! ### the walk -/
theorem walk (a0 : Int) (a1 : Int) (w0 : (Lit.int .u64 a0).wf = true) (w1 : (Lit.int .u64 a1).wf = true) (w : World) :
    Calls Try.prog 7 #[.int .u64 a0, .int .u64 a1] w fun e w' => e = .returned (.bool true) ∧ Grown w w' := by
  obtain ⟨e0, e1⟩ := bounds_u64 w0
  obtain ⟨f0, f1⟩ := bounds_u64 w1
  clear w0 w1
  cases ho : ownB a0
  · have H : Hid (((tidOf a0 == tidOf a1) && (decide (1 ≤ clkOf a0) && decide (clkOf a0 ≤ clkOf a1 - 1))) = false) := by
      show _ = _
      rw [clk_not a0 ho]; simp
    go_enter Try.func7, Try.ntmps7
    go_wp2_with fail
    refine (read_any a0 e0 e1 _).mono ?_
    rintro r w' ⟨rfl, rfl⟩
    go_wp2_with fail
    refine (read_any a1 f0 f1 _).mono ?_
    rintro r w' ⟨rfl, rfl⟩
    go_wp2_with fail
    refine (plain_e a0 _).mono ?_
    rintro r w' ⟨rfl, rfl⟩
    go_wp2_with (first | (go_at_call 20; refine (less_is _ _ false e0 e1 f0 f1 H.out _).mono ?_; rintro r w' ⟨rfl, rfl⟩) | (go_at_call 11; refine (two_any _).mono ?_; rintro r w' ⟨rfl, rfl⟩))
    go_ret
    exact ⟨rfl, by repeat (first | exact Grown.refl _ | apply Grown.drew | apply Grown.alloc)⟩
  cases hp : ownB a1
  · have H : Hid (((tidOf a0 == tidOf a1) && (decide (1 ≤ clkOf a0) && decide (clkOf a0 ≤ clkOf a1 - 1))) = false) := by
      show _ = _
      have := clk_rng a0
      rw [clk_not a1 hp]; simp; omega
    go_enter Try.func7, Try.ntmps7
    go_wp2_with fail
    refine (read_any a0 e0 e1 _).mono ?_
    rintro r w' ⟨rfl, rfl⟩
    go_wp2_with fail
    refine (read_any a1 f0 f1 _).mono ?_
    rintro r w' ⟨rfl, rfl⟩
    go_wp2_with fail
    refine (plain_e a0 _).mono ?_
    rintro r w' ⟨rfl, rfl⟩
    go_wp2_with fail
    refine (plain_e a1 _).mono ?_
    rintro r w' ⟨rfl, rfl⟩
    go_wp2_with (first | (go_at_call 20; refine (less_is _ _ false e0 e1 f0 f1 H.out _).mono ?_; rintro r w' ⟨rfl, rfl⟩) | (go_at_call 11; refine (two_any _).mono ?_; rintro r w' ⟨rfl, rfl⟩))
    go_ret
    exact ⟨rfl, by repeat (first | exact Grown.refl _ | apply Grown.drew | apply Grown.alloc)⟩
  have r1 := (rd_own a0 ho).2.2.1
  have r2 := (rd_own a0 ho).2.2.2.1
  have r3 := (rd_own a1 hp).2.2.1
  have r4 := (rd_own a1 hp).2.2.2.1
  have hb := own_bd a0 ho
  have hb2 := own_bd a1 hp
  by_cases ht : a0 / 4294967296 = a1 / 4294967296
  · have t1 : (rdt a0 == rdt a1) = true := by simp; omega
    by_cases hc : a0 % 4294967296 < a1 % 4294967296
    · have c1 : decide (rdc a0 < rdc a1) = true := by simp; omega
      have H : Hid (((tidOf a0 == tidOf a1) && (decide (1 ≤ clkOf a0) && decide (clkOf a0 ≤ clkOf a1 - 1))) = true) := by
        show _ = _
        rw [tid_own a0 ho, tid_own a1 hp, clk_own a0 ho, clk_own a1 hp]; simp; omega
      clear r1 r2 r3 r4 hb hb2 ht hc
      go_enter Try.func7, Try.ntmps7
      go_wp2_with fail
      refine (read_any a0 e0 e1 _).mono ?_
      rintro r w' ⟨rfl, rfl⟩
      go_wp2_with fail
      refine (read_any a1 f0 f1 _).mono ?_
      rintro r w' ⟨rfl, rfl⟩
      go_wp2_with fail
      refine (plain_e a0 _).mono ?_
      rintro r w' ⟨rfl, rfl⟩
      go_wp2_with fail
      refine (plain_e a1 _).mono ?_
      rintro r w' ⟨rfl, rfl⟩
      go_wp2_with (first | (go_at_call 20; refine (less_is _ _ true e0 e1 f0 f1 H.out _).mono ?_; rintro r w' ⟨rfl, rfl⟩) | (go_at_call 11; refine (two_any _).mono ?_; rintro r w' ⟨rfl, rfl⟩))
      go_ret
      exact ⟨rfl, by repeat (first | exact Grown.refl _ | apply Grown.drew | apply Grown.alloc)⟩
    · have c1 : decide (rdc a0 < rdc a1) = false := by simp; omega
      have H : Hid (((tidOf a0 == tidOf a1) && (decide (1 ≤ clkOf a0) && decide (clkOf a0 ≤ clkOf a1 - 1))) = false) := by
        show _ = _
        rw [tid_own a0 ho, tid_own a1 hp, clk_own a0 ho, clk_own a1 hp]; simp; omega
      clear r1 r2 r3 r4 hb hb2 ht hc
      go_enter Try.func7, Try.ntmps7
      go_wp2_with fail
      refine (read_any a0 e0 e1 _).mono ?_
      rintro r w' ⟨rfl, rfl⟩
      go_wp2_with fail
      refine (read_any a1 f0 f1 _).mono ?_
      rintro r w' ⟨rfl, rfl⟩
      go_wp2_with fail
      refine (plain_e a0 _).mono ?_
      rintro r w' ⟨rfl, rfl⟩
      go_wp2_with fail
      refine (plain_e a1 _).mono ?_
      rintro r w' ⟨rfl, rfl⟩
      go_wp2_with (first | (go_at_call 20; refine (less_is _ _ false e0 e1 f0 f1 H.out _).mono ?_; rintro r w' ⟨rfl, rfl⟩) | (go_at_call 11; refine (two_any _).mono ?_; rintro r w' ⟨rfl, rfl⟩))
      go_ret
      exact ⟨rfl, by repeat (first | exact Grown.refl _ | apply Grown.drew | apply Grown.alloc)⟩
  · have t1 : (rdt a0 == rdt a1) = false := by simp; omega
    have H : Hid (((tidOf a0 == tidOf a1) && (decide (1 ≤ clkOf a0) && decide (clkOf a0 ≤ clkOf a1 - 1))) = false) := by
      show _ = _
      rw [tid_own a0 ho, tid_own a1 hp]; simp; omega
    clear r1 r2 r3 r4 hb hb2 ht
    go_enter Try.func7, Try.ntmps7
    go_wp2_with fail
    refine (read_any a0 e0 e1 _).mono ?_
    rintro r w' ⟨rfl, rfl⟩
    go_wp2_with fail
    refine (read_any a1 f0 f1 _).mono ?_
    rintro r w' ⟨rfl, rfl⟩
    go_wp2_with fail
    refine (plain_e a0 _).mono ?_
    rintro r w' ⟨rfl, rfl⟩
    go_wp2_with fail
    refine (plain_e a1 _).mono ?_
    rintro r w' ⟨rfl, rfl⟩
    go_wp2_with (first | (go_at_call 20; refine (less_is _ _ false e0 e1 f0 f1 H.out _).mono ?_; rintro r w' ⟨rfl, rfl⟩) | (go_at_call 11; refine (two_any _).mono ?_; rintro r w' ⟨rfl, rfl⟩))
    go_ret
    exact ⟨rfl, by repeat (first | exact Grown.refl _ | apply Grown.drew | apply Grown.alloc)⟩

/-! ### the row -/
set_option maxRecDepth 100000 in
theorem lifted (os : Os) (started : os.Started) (H : Type) (enc : TypeId × Value → H) :
    ReturnsInHanded {} Try.checked os 7 .any (Rows.epochLessSpec.pre6 enc Try.prog Try.f7 Rows.epochLessRow.domain false) (Rows.epochLessSpec.post enc Try.prog Try.f7 false true false false) := by
  refine returnsInHanded_of_change (C := Try.checked) own started (by kernel_rfl) Try.func7
    (ChangeSpec.witness6 (enc := enc) (C := Try.checked) false ⟨#[], #[.int .u64 0, .int .u64 0], []⟩ 8 (by kernel_rfl) (by kernel_rfl) (by kernel_rfl) (by kernel_rfl)) ?_
  intro W base args ds gs before hval0 hW hcnd _
  have hval : ∀ (j : Nat) t v, Try.f7.params[j]? = some t → args[j]? = some v → Value.okWide Try.prog W .any base t v := hval0
  have hW' := hW
  obtain ⟨p, q, hA0, hV, rfl, hfz, hnd⟩ := hW
  have hA : DataW.TrodAll enc Try.prog W 0 (fun _ => true) true Try.f7.params.toList args.toList ds p := hA0
  rw [Try.params7] at hA hval
  obtain ⟨v0, vs0, d0, ds0, p0, q0, hargs, rfl, rfl, h0, r0⟩ := trodAll_cons hA
  obtain ⟨v1, vs1, d1, ds1, p1, q1, rfl, rfl, rfl, h1, r1⟩ := trodAll_cons r0
  obtain ⟨rfl, rfl, rfl⟩ := trodAll_nil r1
  obtain rfl : args = #[v0, v1] := by cases args; simp_all
  obtain ⟨rfl, rfl⟩ := trodVars_none hV
  obtain ⟨a0, rfl, rfl, rfl, w0⟩ := open_int Try.underlying23 (hval 0 23 v0 rfl rfl) h0
  obtain ⟨a1, rfl, rfl, rfl, w1⟩ := open_int Try.underlying23 (hval 1 23 v1 rfl rfl) h1
  clear hA0 hval0
  simp only [List.append_nil] at hW'
  refine (walk a0 a1 w0 w1 W).mono fun e W' ⟨he, hg⟩ => ?_
  subst he
  exact ⟨_, rfl, post_of_same (pa := []) (pv := []) hW' (fun _ _ _ => (trodAll_cons_mk (shut_bool Try.underlying4 _) trodAll_mk0)) (fun sp _ => (trodAll_cons_mk (shut_int Try.underlying23 w0) (trodAll_cons_mk (shut_int Try.underlying23 w1) trodAll_mk0))) (fun _ _ => rfl) rfl
    (hg.frame _) hg.2.1 (ok_one (by kernel_rfl) rfl (okWide_bool_mk Try.underlying4 _))⟩

theorem over : Rows.epochLessRow.holds Try.pinned (OpenSpec.ofChange Rows.epochLessSpec) :=
  OpenClaim.holds_of_wide 7 Try.f7 rfl rfl rfl rfl rfl rfl rfl ⟨rfl, rfl, rfl, rfl, rfl⟩ rfl rfl rfl rfl rfl (by kernel_rfl) Try.func7 (by kernel_rfl)
    (of_decide_eq_true (by kernel_rfl)) (by unfold Func.isWrapper; first | (rw [if_pos (by decide +kernel)]; kernel_rfl) | (rw [if_neg (by decide +kernel)]; exact ⟨rfl, rfl⟩))
    (fun os started H enc _ => lifted os started H enc)

/-- ████ THE STATEMENT ████ -/
theorem proved : Rows.EpochLessSaid :=
  over
#print axioms proved
end Go.Proofs.Ytjcmaigeiijfeaa.epochLess
