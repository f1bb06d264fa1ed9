/- For every string and every bound, the law ReelTakesLists returns true, so TakeList answers the list with which the bytes begin, and what is behind, or the document's error: under no condition. -/
import Derived.Test.YtkgddkpolckacaaRows
import Derived.WalkKit
import Derived.ProofKit
import Derived.OpenShut
import Derived.Test.YtkgddkpolckacaaEk
import Derived.ChangeOld
import Derived.Below
import Derived.ShutString
namespace Go.Proofs.Ytkgddkpolckacaa.reelTakesLists
open Go.ChangeShapes Go.WideShapes Go.ChangeAt Go.RowKit
open Go.ChangeMaps (open_string shut_string)
set_option linter.unusedVariables false      -- a walk need not use every 'w<i>' (that an integer argument fits its kind)

theorem own : ownKnob Try.prog.godebug = none := by kernel_rfl

open Re Ba
set_option maxHeartbeats 1600000

/-! ### the walk -/
theorem walk (a0 : ByteArray) (a1 : Int) (w0 : a0.size ≤ maxLen) (w1 : (Lit.int .i64 a1).wf = true) (w : World) :
    Calls Try.prog 7 #[.string a0, .int .i64 a1] w fun e w' => e = .returned (.bool true) ∧ Below w.heap.size w w' := by
  clear w1
  unfold maxLen at w0
  by_cases h : a0.size ≤ 5000
  · have h' : decide ((5000 : Int) < (a0.size : Int)) = false := by simp; omega
    clear w0
    cases ht : tl (nbs a0) a1 with
    | error e =>
      have HT := hide ht
      have he : (e == 0) = false ∧ (e != 0) = true := by
        unfold tl at ht
        split at ht
        · simp at ht; subst ht; decide
        · split at ht
          · simp at ht; subst ht; decide
          · split at ht
            · simp at ht; subst ht; decide
            · simp at ht
      obtain ⟨he1, he2⟩ := he
      have hem : (bs []).toList.isEmpty = true := by rw [toList_is]; rfl
      clear ht
      go_enter Try.func7, Try.ntmps7
      go_wp2_with fail
      refine (takelist_err a0 a1 e _ HT.out (by omega)).mono ?_
      rintro r w1 ⟨rfl, hb1⟩
      have B1 := hide hb1
      clear hb1
      go_wp2_with fail
      refine (rtakelist_err a0 a1 e _ HT.out (by omega)).mono ?_
      rintro r w2 ⟨rfl, hb2⟩
      have B2 := hide (btr B1.out hb2)
      clear hb2
      go_wp2_with fail
      refine (ints_is _ _ [] [] _ _ _ _ true (by decide) rfl rfl _ (At.nil _ _) (At.nil _ _) (Nat.zero_le _) (Nat.zero_le _)).mono ?_
      rintro r w3 ⟨rfl, hb3⟩
      have B3 := hide (btr (btr B2.out (below_alloc _ _)) hb3)
      clear hb3
      go_wp2_with fail
      refine (long_any _).mono ?_
      rintro r w4 ⟨rfl, hb4⟩
      have B4 := hide (btr B3.out hb4)
      clear hb4
      go_wp2_with fail
      go_ret
      exact ⟨rfl, B4.out⟩
    | ok p =>
      obtain ⟨xs, z⟩ := p
      have HT := hide ht
      have hz := tl_size ht
      rw [nbs_length] at hz
      clear ht
      go_enter Try.func7, Try.ntmps7
      go_wp2_with fail
      refine (takelist_ok a0 a1 xs z _ HT.out (by omega)).mono ?_
      rintro r w1 ⟨b, rfl, hA, hb1⟩
      have B1 := hide hb1
      have A1 := hide hA
      clear hb1 hA
      go_wp2_with fail
      refine (rtakelist_ok a0 a1 xs z _ HT.out (by omega)).mono ?_
      rintro r w2 ⟨oa, c, rfl, hA2, hb2⟩
      have B2 := hide (btr B1.out hb2)
      have A2 := hide (A1.out.below (btr hb2 (below_alloc w2 (.cells #[.slice oa xs.length c, .int .i64 (z : Int)] 63))))
      have A3 := hide (hA2.below (below_alloc w2 (.cells #[.slice oa xs.length c, .int .i64 (z : Int)] 63)))
      have T3 := hide (heap_new w2 (.cells #[.slice oa xs.length c, .int .i64 (z : Int)] 63))
      clear hb2 hA2
      go_wp2_with fail
      refine (ints_is _ _ xs xs _ _ _ _ true (by simp) rfl rfl _ A2.out A3.out (by omega) (by omega)).mono ?_
      rintro r w3 ⟨rfl, hb3⟩
      have B3 := hide (btr (btr B2.out (below_alloc _ _)) hb3)
      have t1 := cell_of (heap_below T3.out hb3) 1
      simp at t1
      clear hb3
      go_wp2_with fail
      refine (long_any _).mono ?_
      rintro r w4 ⟨rfl, hb4⟩
      have B4 := hide (btr B3.out hb4)
      clear hb4
      go_wp2_with fail
      go_ret
      exact ⟨rfl, B4.out⟩
  · have h' : decide ((5000 : Int) < (a0.size : Int)) = true := by simp; omega
    go_enter Try.func7, Try.ntmps7
    go_wp2_with fail
    refine (long_any _).mono ?_
    rintro r w3 ⟨rfl, hb3⟩
    have B3 := hide hb3
    clear hb3
    go_wp2_with fail
    go_ret
    exact ⟨rfl, B3.out⟩

/-! ### the row -/
set_option maxRecDepth 100000 in
theorem lifted (os : Os) (started : os.Started) (H : Type) (enc : TypeId × Value → H) :
    ReturnsInHanded {} Try.checked os 7 .any (Rows.reelTakesListsSpec.pre6 enc Try.prog Try.f7 Rows.reelTakesListsRow.domain false) (Rows.reelTakesListsSpec.post enc Try.prog Try.f7 false true false false) := by
  refine returnsInHanded_of_change (C := Try.checked) own started (by kernel_rfl) Try.func7
    (ChangeSpec.witness6 (enc := enc) (C := Try.checked) false ⟨#[], #[.string ByteArray.empty, .int .i64 0], []⟩ 8 (by kernel_rfl) (by kernel_rfl) (by kernel_rfl) (by kernel_rfl)) ?_
  intro W base args ds gs before hval0 hW hcnd _
  have hval : ∀ (j : Nat) t v, Try.f7.params[j]? = some t → args[j]? = some v → Value.okWide Try.prog W .any base t v := hval0
  have hW' := hW
  obtain ⟨p, q, hA0, hV, rfl, hfz, hnd⟩ := hW
  have hA : DataW.TrodAll enc Try.prog W 0 (fun _ => true) true Try.f7.params.toList args.toList ds p := hA0
  rw [Try.params7] at hA hval
  obtain ⟨v0, vs0, d0, ds0, p0, q0, hargs, rfl, rfl, h0, r0⟩ := trodAll_cons hA
  obtain ⟨v1, vs1, d1, ds1, p1, q1, rfl, rfl, rfl, h1, r1⟩ := trodAll_cons r0
  obtain ⟨rfl, rfl, rfl⟩ := trodAll_nil r1
  obtain rfl : args = #[v0, v1] := by cases args; simp_all
  obtain ⟨rfl, rfl⟩ := trodVars_none hV
  obtain ⟨a0, rfl, rfl, rfl, w0⟩ := open_string Try.underlying9 (hval 0 9 v0 rfl rfl) h0
  obtain ⟨a1, rfl, rfl, rfl, w1⟩ := open_int Try.underlying3 (hval 1 3 v1 rfl rfl) h1
  clear hA0 hval0
  refine (walk a0 a1 w0 w1 W).mono fun e W' ⟨he, bel⟩ => ?_
  subst he
  exact ⟨_, rfl, _, _, _, [], _, [], hW', trodAll_mk1 (shut_bool Try.underlying4 _), (trodAll_cons_mk (shut_string Try.underlying9 w0) (trodAll_cons_mk (shut_int Try.underlying3 w1) trodAll_mk0)), rfl, bel.frame _, fun h => by cases h⟩

theorem over : Rows.reelTakesListsRow.holds Try.pinned (OpenSpec.ofChange Rows.reelTakesListsSpec) :=
  OpenClaim.holds_of_wide 7 Try.f7 rfl rfl rfl rfl rfl rfl rfl ⟨rfl, rfl, rfl, rfl, rfl⟩ rfl rfl rfl rfl rfl (by kernel_rfl) Try.func7 (by kernel_rfl)
    (of_decide_eq_true (by kernel_rfl)) (by unfold Func.isWrapper; first | (rw [if_pos (by decide +kernel)]; kernel_rfl) | (rw [if_neg (by decide +kernel)]; exact ⟨rfl, rfl⟩))
    (fun os started H enc _ => lifted os started H enc)

/-- ████ THE STATEMENT ████ -/
theorem proved : Rows.ReelTakesListsSaid :=
  over
#print axioms proved
end Go.Proofs.Ytkgddkpolckacaa.reelTakesLists
