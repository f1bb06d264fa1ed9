/- For every operation and every number of programs, the law DeedEncodes returns true, so Encode answers the document's bytes of the operation, or why it has none: under no condition. -/
import Derived.Test.YtkgddkpolckacabDr
import Derived.ShutString
import Derived.ChangeOld
import Derived.Below
namespace Go.Proofs.Ytkgddkpolckacab.deedEncodes
open Go.ChangeShapes Go.WideShapes Go.ChangeAt Go.RowKit
open Go.ChangeMaps (open_string shut_string)
open De Ba Re

theorem own : ownKnob Try.prog.godebug = none := by kernel_rfl
theorem laidOut : laidOutB Try.prog = true := by kernel_rfl

set_option maxHeartbeats 3200000

set_option maxRecDepth 100000 in
theorem core {w : World} (o : OpD) (oa : Option Addr) (c : Nat) (hA : CAt w oa o.cases) (hM : o.cases.length ≤ maxLen) (p : Int) :
    Calls Try.prog 5 #[.agg #[.int .i64 o.kind, .int .i64 o.a, .int .i64 o.b, .slice oa o.cases.length c, .bool o.def_], .int .i64 p] w fun r w' => r = .returned (.bool true) ∧ Below w.heap.size w w' := by
  obtain ⟨k, a, b, cs, d⟩ := o
  unfold maxLen at hM
  simp only at hA hM ⊢
  have A0 := hide (hA.below (below_alloc w (.cells #[.int .i64 k, .int .i64 a, .int .i64 b, .slice oa cs.length c, .bool d] 27)))
  have P0 := hide (heap_new w (.cells #[.int .i64 k, .int .i64 a, .int .i64 b, .slice oa cs.length c, .bool d] 27))
  have B0 := hide (below_alloc w (.cells #[.int .i64 k, .int .i64 a, .int .i64 b, .slice oa cs.length c, .bool d] 27))
  clear hA
  by_cases l1 : cs.length ≤ 100
  · have l1' : decide ((100 : Int) < (cs.length : Int)) = false := by simp; omega
    have ML : Hid (cs.length ≤ maxLen) := by show _ ≤ _; unfold maxLen; omega
    cases z : chk ⟨k, a, b, cs, d⟩ p == 0
    · have Z := hide z
      clear z
      go_enter Try.func5, Try.ntmps5
      go_wp2_with fail
      refine (encode_no ⟨k, a, b, cs, d⟩ _ _ p _ A0.out ML.out Z.out).mono ?_
      rintro r w1 ⟨rfl, e1⟩
      have P1 := hide (heap_below P0.out e1)
      have A1 := hide (A0.out.below e1)
      have B1 := hide (btr B0.out e1)
      obtain ⟨y0, y1, y2, y3, y4⟩ := op_cells P1.out
      clear e1
      go_wp2_with fail
      refine (rencode_no ⟨k, a, b, cs, d⟩ _ _ p _ A1.out ML.out Z.out).mono ?_
      rintro r w2 ⟨rfl, e2⟩
      have B2 := hide (btr B1.out e2)
      clear e2
      go_wp2_with fail
      refine (send_any _).mono ?_
      rintro r w9 ⟨rfl, b9⟩
      have B9 := hide (btr B2.out b9)
      clear b9
      go_wp2_with fail
      go_ret
      exact ⟨rfl, B9.out⟩
    · have Z : Hid (chk ⟨k, a, b, cs, d⟩ p = 0) := by show _ = _; simpa using z
      clear z
      go_enter Try.func5, Try.ntmps5
      go_wp2_with fail
      refine (encode_ok ⟨k, a, b, cs, d⟩ _ _ p _ A0.out (chk_zero Z.out).2.2.1 Z.out (nums_ok Z.out)).mono ?_
      rintro r w1 ⟨rfl, e1⟩
      have P1 := hide (heap_below P0.out e1)
      have A1 := hide (A0.out.below e1)
      have B1 := hide (btr B0.out e1)
      obtain ⟨y0, y1, y2, y3, y4⟩ := op_cells P1.out
      clear e1
      go_wp2_with fail
      refine (rencode_ok ⟨k, a, b, cs, d⟩ _ _ p _ A1.out (chk_zero Z.out).2.2.1 Z.out (nums_ok Z.out)).mono ?_
      rintro r w2 ⟨rfl, e2⟩
      have B2 := hide (btr B1.out e2)
      clear e2
      go_wp2_with fail
      refine (send_any _).mono ?_
      rintro r w9 ⟨rfl, b9⟩
      have B9 := hide (btr B2.out b9)
      clear b9
      go_wp2_with fail
      go_ret
      exact ⟨rfl, B9.out⟩
  · have l1' : decide ((100 : Int) < (cs.length : Int)) = true := by simp; omega
    go_enter Try.func5, Try.ntmps5
    go_wp2_with fail
    refine (send_any _).mono ?_
    rintro r w9 ⟨rfl, b9⟩
    have B9 := hide (btr B0.out b9)
    clear b9
    go_wp2_with fail
    go_ret
    exact ⟨rfl, B9.out⟩

/-! ### the row -/
set_option maxRecDepth 100000 in
theorem lifted (os : Os) (started : os.Started) (H : Type) (enc : TypeId × Value → H) :
    ReturnsInHanded {} Try.checked os 5 .any (Rows.deedEncodesSpec.pre6 enc Try.prog Try.f5 Rows.deedEncodesRow.domain false) (Rows.deedEncodesSpec.post enc Try.prog Try.f5 false true false false) := by
  refine returnsInHanded_of_change (C := Try.checked) own started (by kernel_rfl) Try.func5
    (ChangeSpec.witness6 (enc := enc) (C := Try.checked) false ⟨#[], #[.agg #[.int .i64 0, .int .i64 0, .int .i64 0, .slice none 0 0, .bool false], .int .i64 0], []⟩ 8 (by kernel_rfl) (by kernel_rfl) (by kernel_rfl) (by kernel_rfl)) ?_
  intro W base args ds gs before hval0 hW hcnd _
  have hval : ∀ (j : Nat) t v, Try.f5.params[j]? = some t → args[j]? = some v → Value.okWide Try.prog W .any base t v := hval0
  have hW' := hW
  obtain ⟨p, q, hA0, hV, rfl, hfz, hnd⟩ := hW
  have hA : DataW.TrodAll enc Try.prog W 0 (fun _ => true) true Try.f5.params.toList args.toList ds p := hA0
  rw [Try.params5] at hA hval
  obtain ⟨v0, vs0, d0, ds0, p0, q0, hargs, rfl, rfl, h0, r0⟩ := trodAll_cons hA
  obtain ⟨v1, vs1, d1, ds1, p1, q1, rfl, rfl, rfl, h1, r1⟩ := trodAll_cons r0
  obtain ⟨rfl, rfl, rfl⟩ := trodAll_nil r1
  obtain rfl : args = #[v0, v1] := by cases args; simp_all
  obtain ⟨rfl, rfl⟩ := trodVars_none hV
  have k0 := h0
  have lt0 : ∀ x ∈ p0, x.block < W.heap.size := by obtain ⟨m, hm⟩ := k0; exact DataW.trod_lt m _ _ _ hm
  obtain ⟨o0, oa0, c0, rfl, C0, M0⟩ : ∃ (o : OpD) (oa : Option Addr) (c : Nat), v0 = .agg #[.int .i64 o.kind, .int .i64 o.a, .int .i64 o.b, .slice oa o.cases.length c, .bool o.def_] ∧ CAt W oa o.cases ∧ o.cases.length ≤ maxLen := by
    obtain ⟨fuel, hf⟩ := h0
    exact op_open hf
  obtain ⟨a1, rfl, rfl, rfl, w1⟩ := open_int Try.underlying3 (hval 1 3 v1 rfl rfl) h1
  clear hA0 hval0
  refine (core (w := W) o0 oa0 c0 C0 M0 a1).mono fun e W' ⟨he, bel⟩ => ?_
  subst he
  exact ⟨_, rfl, _, _, _, [], _, [], hW', trodAll_mk1 (shut_bool Try.underlying4 _), (trodAll_cons_mk (Below.trod laidOut (by kernel_rfl) (of_decide_eq_true (by kernel_rfl)) k0 bel lt0) (trodAll_cons_mk (shut_int Try.underlying3 w1) trodAll_mk0)), rfl, bel.frame _, fun h => by cases h⟩

theorem over : Rows.deedEncodesRow.holds Try.pinned (OpenSpec.ofChange Rows.deedEncodesSpec) :=
  OpenClaim.holds_of_wide 5 Try.f5 rfl rfl rfl rfl rfl rfl rfl ⟨rfl, rfl, rfl, rfl, rfl⟩ rfl rfl rfl rfl rfl (by kernel_rfl) Try.func5 (by kernel_rfl)
    (of_decide_eq_true (by kernel_rfl)) (by unfold Func.isWrapper; first | (rw [if_pos (by decide +kernel)]; kernel_rfl) | (rw [if_neg (by decide +kernel)]; exact ⟨rfl, rfl⟩))
    (fun os started H enc _ => lifted os started H enc)

/-- the statement -/
theorem proved : Rows.DeedEncodesSaid := over
#print axioms proved
end Go.Proofs.Ytkgddkpolckacab.deedEncodes
