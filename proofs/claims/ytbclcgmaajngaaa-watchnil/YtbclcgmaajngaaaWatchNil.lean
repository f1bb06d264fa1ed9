/- A nil watch has nobody: every call of it answers as the chapter says (16.2, R6), whatever the arguments. -/
import Derived.Test.YtbclcgmaajngaaaUg
import Derived.Test.YtbclcgmaajngaaaBo
import Derived.ShutString
import Derived.ChangeOld
import Derived.Below
namespace Go.Proofs.Ytbclcgmaajngaaa.watchNil
open Go.ChangeShapes Go.WideShapes Go.ChangeAt Go.RowKit
open Go.ChangeMaps (open_string shut_string)
open Wa Ck

theorem own : ownKnob Try.prog.godebug = none := by kernel_rfl
theorem laidOut : laidOutB Try.prog = true := by kernel_rfl

set_option maxRecDepth 100000 in
set_option maxHeartbeats 3200000 in
theorem core {w : World} (g k : Int) :
    Calls Try.prog 6 #[.int .i64 g, .int .i64 k] w fun r w' => r = .returned (.bool true) ∧ Below w.heap.size w w' := by
  go_enter Try.func6, Try.ntmps6
  go_wp2_with fail
  refine (spawn_nil _ _ _).mono ?_
  rintro r w1 ⟨rfl, b1⟩
  have B1 := hide b1
  clear b1
  go_wp2_with fail
  refine (tell_nil _ _).mono ?_
  rintro r w2 ⟨rfl, b2⟩
  have B2 := hide (btr B1.out b2)
  clear b2
  go_wp2_with fail
  refine (clock_nil _ _).mono ?_
  rintro r w3 ⟨rfl, b3⟩
  have B3 := hide (btr B2.out b3)
  clear b3
  go_wp2_with fail
  refine (tid_nil _ _).mono ?_
  rintro r w4 ⟨rfl, b4⟩
  have B4 := hide (btr B3.out b4)
  clear b4
  go_wp2_with fail
  refine (know_nil _ _ _).mono ?_
  rintro r w5 ⟨rfl, b5⟩
  have B5 := hide (btr B4.out b5)
  clear b5
  go_wp2_with fail
  refine (retire_nil _ _).mono ?_
  rintro r w6 ⟨rfl, b6⟩
  have B6 := hide (btr B5.out b6)
  clear b6
  go_wp2_with fail
  refine (epoch_nil _ _).mono ?_
  rintro r w7 ⟨rfl, b7⟩
  have B7 := hide (btr B6.out b7)
  clear b7
  go_wp2_with fail
  refine (can_nil _ _).mono ?_
  rintro r w8 ⟨rfl, b8⟩
  have B8 := hide (btr B7.out b8)
  clear b8
  go_wp2_with fail
  refine (room_nil _).mono ?_
  rintro r w9 ⟨rfl, b9⟩
  have B9 := hide (btr B8.out b9)
  clear b9
  go_wp2_with fail
  refine (inuse_nil _).mono ?_
  rintro r wa ⟨rfl, ea⟩
  obtain rfl := ea.symm
  go_wp2_with fail
  refine (all_nil _).mono ?_
  rintro r wa ⟨rfl, ea⟩
  obtain rfl := ea.symm
  go_wp2_with fail
  refine (two_any _).mono ?_
  rintro r wb ⟨rfl, bb⟩
  have BB := hide (btr B9.out bb)
  clear bb
  go_wp2_with fail
  go_ret
  exact ⟨rfl, BB.out⟩

/-! ### the row -/
set_option maxRecDepth 100000 in
theorem lifted (os : Os) (started : os.Started) (H : Type) (enc : TypeId × Value → H) :
    ReturnsInHanded {} Try.checked os 6 .any (Rows.watchNilSpec.pre6 enc Try.prog Try.f6 Rows.watchNilRow.domain false) (Rows.watchNilSpec.post enc Try.prog Try.f6 false true false false) := by
  refine returnsInHanded_of_change (C := Try.checked) own started (by kernel_rfl) Try.func6
    (ChangeSpec.witness6 (enc := enc) (C := Try.checked) false ⟨#[], #[.int .i64 0, .int .i64 0], []⟩ 8 (by kernel_rfl) (by kernel_rfl) (by kernel_rfl) (by kernel_rfl)) ?_
  intro W base args ds gs before hval0 hW hcnd _
  have hval : ∀ (j : Nat) t v, Try.f6.params[j]? = some t → args[j]? = some v → Value.okWide Try.prog W .any base t v := hval0
  have hW' := hW
  obtain ⟨p, q, hA0, hV, rfl, hfz, hnd⟩ := hW
  have hA : DataW.TrodAll enc Try.prog W 0 (fun _ => true) true Try.f6.params.toList args.toList ds p := hA0
  rw [Try.params6] at hA hval
  obtain ⟨v0, vs0, d0, ds0, p0, q0, hargs, rfl, rfl, h0, r0⟩ := trodAll_cons hA
  obtain ⟨v1, vs1, d1, ds1, p1, q1, rfl, rfl, rfl, h1, r1⟩ := trodAll_cons r0
  obtain ⟨rfl, rfl, rfl⟩ := trodAll_nil r1
  obtain rfl : args = #[v0, v1] := by cases args; simp_all
  obtain ⟨rfl, rfl⟩ := trodVars_none hV
  obtain ⟨a0, rfl, rfl, rfl, w0⟩ := open_int Try.underlying3 (hval 0 3 v0 rfl rfl) h0
  obtain ⟨a1, rfl, rfl, rfl, w1⟩ := open_int Try.underlying3 (hval 1 3 v1 rfl rfl) h1
  clear hA0 hval0
  refine (core (w := W) a0 a1).mono fun e W' ⟨he, bel⟩ => ?_
  subst he
  exact ⟨_, rfl, _, _, _, [], _, [], hW', trodAll_mk1 (shut_bool Try.underlying4 _), (trodAll_cons_mk (shut_int Try.underlying3 w0) (trodAll_cons_mk (shut_int Try.underlying3 w1) trodAll_mk0)), rfl, bel.frame _, fun h => by cases h⟩

theorem over : Rows.watchNilRow.holds Try.pinned (OpenSpec.ofChange Rows.watchNilSpec) :=
  OpenClaim.holds_of_wide 6 Try.f6 rfl rfl rfl rfl rfl rfl rfl ⟨rfl, rfl, rfl, rfl, rfl⟩ rfl rfl rfl rfl rfl (by kernel_rfl) Try.func6 (by kernel_rfl)
    (of_decide_eq_true (by kernel_rfl)) (by unfold Func.isWrapper; first | (rw [if_pos (by decide +kernel)]; kernel_rfl) | (rw [if_neg (by decide +kernel)]; exact ⟨rfl, rfl⟩))
    (fun os started H enc _ => lifted os started H enc)

/-- the statement -/
theorem proved : Rows.WatchNilSaid := over
#print axioms proved
end Go.Proofs.Ytbclcgmaajngaaa.watchNil
