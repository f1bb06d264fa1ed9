/- For every waiter, the law PewNil returns true, so in a nil pew nobody waits: under no condition. -/
import Derived.Test.YtiefaihflmogpabVe
import Derived.Test.YtiefaihflmogpabVf
import Derived.ShutString
import Derived.ChangeOld
import Derived.Below
namespace Go.Proofs.Ytiefaihflmogpab.pewNil
open Go.ChangeShapes Go.WideShapes Go.ChangeAt Go.RowKit
open Go.ChangeMaps (open_string shut_string)
open Pe Ba

theorem own : ownKnob Try.prog.godebug = none := by kernel_rfl
theorem laidOut : laidOutB Try.prog = true := by kernel_rfl

set_option maxRecDepth 100000 in
set_option maxHeartbeats 1600000 in
theorem core {w : World} (x : Wt) :
    Calls Try.prog 5 #[wv x] w fun r w' => r = .returned (.bool true) ∧ Below w.heap.size w w' := by
  by_cases hx : x.g < 0 ∨ x.c < -1
  · have AD := hide fun w => add_arg none x w hx
    unfold wv at AD ⊢
    by_cases h1 : x.g < 0
    · have d1 : decide (0 ≤ x.g) = false := decide_eq_false (by omega)
      clear hx
      go_enter Try.func5, Try.ntmps5
      go_wp2_with fail
      refine (AD.out _).mono ?_
      rintro r w1 ⟨rfl, b1⟩
      have Q1 := hide (heap_below (heap_new w (.cells #[.int .i64 x.g, .int .i64 x.c, .int .i64 x.v] 31)) b1)
      have B1 := hide (btr (below_alloc w (.cells #[.int .i64 x.g, .int .i64 x.c, .int .i64 x.v] 31)) b1)
      clear b1
      go_wp2_with fail
      refine (take_nil _).mono ?_
      unfold wv
      rintro r w2 ⟨rfl, b2⟩
      have Q2 := hide (heap_below Q1.out b2)
      have B2 := hide (btr B1.out b2)
      clear b2 Q1 B1
      go_wp2_with fail
      refine (first_nil _).mono ?_
      unfold wv
      rintro r w3 ⟨rfl, b3⟩
      have Q3 := hide (heap_below Q2.out (btr (below_alloc _ _) b3))
      have B3 := hide (btr B2.out (btr (below_alloc _ _) b3))
      clear b3 Q2 B2
      have hs := heap_lt Q3.out
      have q0 := cell_of Q3.out 0
      have q1 := cell_of Q3.out 1
      have q2 := cell_of Q3.out 2
      simp at q0 q1 q2
      go_wp2_with fail
      refine (drop_nil x.g _).mono ?_
      rintro r w4 ⟨rfl, rfl⟩
      go_wp2_with fail
      refine (has_nil x.g _).mono ?_
      rintro r w4 ⟨rfl, rfl⟩
      go_wp2_with fail
      refine (len_nil _).mono ?_
      rintro r w4 ⟨rfl, rfl⟩
      go_wp2_with fail
      refine (list_nil _).mono ?_
      rintro r w5 ⟨⟨oa, rfl⟩, b5⟩
      have B5 := hide (btr B3.out (btr (below_alloc _ _) b5))
      clear b5
      go_wp2_with fail
      refine (three_any _).mono ?_
      rintro r w6 ⟨rfl, b6⟩
      have B6 := hide (btr B5.out b6)
      clear b6
      go_wp2_with fail
      go_ret
      exact ⟨rfl, B6.out⟩
    · have d1 : decide (0 ≤ x.g) = true := decide_eq_true (by omega)
      have d2 : decide (-1 ≤ x.c) = false := decide_eq_false (by omega)
      clear hx
      go_enter Try.func5, Try.ntmps5
      go_wp2_with fail
      refine (AD.out _).mono ?_
      rintro r w1 ⟨rfl, b1⟩
      have Q1 := hide (heap_below (heap_new w (.cells #[.int .i64 x.g, .int .i64 x.c, .int .i64 x.v] 31)) b1)
      have B1 := hide (btr (below_alloc w (.cells #[.int .i64 x.g, .int .i64 x.c, .int .i64 x.v] 31)) b1)
      clear b1
      go_wp2_with fail
      refine (take_nil _).mono ?_
      unfold wv
      rintro r w2 ⟨rfl, b2⟩
      have Q2 := hide (heap_below Q1.out b2)
      have B2 := hide (btr B1.out b2)
      clear b2 Q1 B1
      go_wp2_with fail
      refine (first_nil _).mono ?_
      unfold wv
      rintro r w3 ⟨rfl, b3⟩
      have Q3 := hide (heap_below Q2.out (btr (below_alloc _ _) b3))
      have B3 := hide (btr B2.out (btr (below_alloc _ _) b3))
      clear b3 Q2 B2
      have hs := heap_lt Q3.out
      have q0 := cell_of Q3.out 0
      have q1 := cell_of Q3.out 1
      have q2 := cell_of Q3.out 2
      simp at q0 q1 q2
      go_wp2_with fail
      refine (drop_nil x.g _).mono ?_
      rintro r w4 ⟨rfl, rfl⟩
      go_wp2_with fail
      refine (has_nil x.g _).mono ?_
      rintro r w4 ⟨rfl, rfl⟩
      go_wp2_with fail
      refine (len_nil _).mono ?_
      rintro r w4 ⟨rfl, rfl⟩
      go_wp2_with fail
      refine (list_nil _).mono ?_
      rintro r w5 ⟨⟨oa, rfl⟩, b5⟩
      have B5 := hide (btr B3.out (btr (below_alloc _ _) b5))
      clear b5
      go_wp2_with fail
      refine (three_any _).mono ?_
      rintro r w6 ⟨rfl, b6⟩
      have B6 := hide (btr B5.out b6)
      clear b6
      go_wp2_with fail
      go_ret
      exact ⟨rfl, B6.out⟩
  · have AD := hide fun w => add_nil x w (by omega)
    have d1 : decide (0 ≤ x.g) = true := decide_eq_true (by omega)
    have d2 : decide (-1 ≤ x.c) = true := decide_eq_true (by omega)
    unfold wv at AD ⊢
    clear hx
    go_enter Try.func5, Try.ntmps5
    go_wp2_with fail
    refine (AD.out _).mono ?_
    rintro r w1 ⟨rfl, b1⟩
    have Q1 := hide (heap_below (heap_new w (.cells #[.int .i64 x.g, .int .i64 x.c, .int .i64 x.v] 31)) b1)
    have B1 := hide (btr (below_alloc w (.cells #[.int .i64 x.g, .int .i64 x.c, .int .i64 x.v] 31)) b1)
    clear b1
    go_wp2_with fail
    refine (take_nil _).mono ?_
    unfold wv
    rintro r w2 ⟨rfl, b2⟩
    have Q2 := hide (heap_below Q1.out b2)
    have B2 := hide (btr B1.out b2)
    clear b2 Q1 B1
    go_wp2_with fail
    refine (first_nil _).mono ?_
    unfold wv
    rintro r w3 ⟨rfl, b3⟩
    have Q3 := hide (heap_below Q2.out (btr (below_alloc _ _) b3))
    have B3 := hide (btr B2.out (btr (below_alloc _ _) b3))
    clear b3 Q2 B2
    have hs := heap_lt Q3.out
    have q0 := cell_of Q3.out 0
    have q1 := cell_of Q3.out 1
    have q2 := cell_of Q3.out 2
    simp at q0 q1 q2
    go_wp2_with fail
    refine (drop_nil x.g _).mono ?_
    rintro r w4 ⟨rfl, rfl⟩
    go_wp2_with fail
    refine (has_nil x.g _).mono ?_
    rintro r w4 ⟨rfl, rfl⟩
    go_wp2_with fail
    refine (len_nil _).mono ?_
    rintro r w4 ⟨rfl, rfl⟩
    go_wp2_with fail
    refine (list_nil _).mono ?_
    rintro r w5 ⟨⟨oa, rfl⟩, b5⟩
    have B5 := hide (btr B3.out (btr (below_alloc _ _) b5))
    clear b5
    go_wp2_with fail
    refine (three_any _).mono ?_
    rintro r w6 ⟨rfl, b6⟩
    have B6 := hide (btr B5.out b6)
    clear b6
    go_wp2_with fail
    go_ret
    exact ⟨rfl, B6.out⟩

/-! ### the row -/
set_option maxRecDepth 100000 in
theorem lifted (os : Os) (started : os.Started) (H : Type) (enc : TypeId × Value → H) :
    ReturnsInHanded {} Try.checked os 5 .any (Rows.pewNilSpec.pre6 enc Try.prog Try.f5 Rows.pewNilRow.domain false) (Rows.pewNilSpec.post enc Try.prog Try.f5 false true false false) := by
  refine returnsInHanded_of_change (C := Try.checked) own started (by kernel_rfl) Try.func5
    (ChangeSpec.witness6 (enc := enc) (C := Try.checked) false ⟨#[], #[.agg #[.int .i64 0, .int .i64 0, .int .i64 0]], []⟩ 8 (by kernel_rfl) (by kernel_rfl) (by kernel_rfl) (by kernel_rfl)) ?_
  intro W base args ds gs before hval0 hW hcnd _
  have hval : ∀ (j : Nat) t v, Try.f5.params[j]? = some t → args[j]? = some v → Value.okWide Try.prog W .any base t v := hval0
  have hW' := hW
  obtain ⟨p, q, hA0, hV, rfl, hfz, hnd⟩ := hW
  have hA : DataW.TrodAll enc Try.prog W 0 (fun _ => true) true Try.f5.params.toList args.toList ds p := hA0
  rw [Try.params5] at hA hval
  obtain ⟨v0, vs0, d0, ds0, p0, q0, hargs, rfl, rfl, h0, r0⟩ := trodAll_cons hA
  obtain ⟨rfl, rfl, rfl⟩ := trodAll_nil r0
  obtain rfl : args = #[v0] := by cases args; simp_all
  obtain ⟨rfl, rfl⟩ := trodVars_none hV
  have k0 := h0
  have lt0 : ∀ x ∈ p0, x.block < W.heap.size := by obtain ⟨m, hm⟩ := k0; exact DataW.trod_lt m _ _ _ hm
  obtain ⟨x0, rfl⟩ := h0.elim fun _ hf => wt_open hf
  clear hA0 hval0
  refine (core (w := W) x0).mono fun e W' ⟨he, bel⟩ => ?_
  subst he
  exact ⟨_, rfl, _, _, _, [], _, [], hW', trodAll_mk1 (shut_bool Try.underlying4 _), (trodAll_cons_mk (Below.trod laidOut (by kernel_rfl) (of_decide_eq_true (by kernel_rfl)) k0 bel lt0) trodAll_mk0), rfl, bel.frame _, fun h => by cases h⟩

theorem over : Rows.pewNilRow.holds Try.pinned (OpenSpec.ofChange Rows.pewNilSpec) :=
  OpenClaim.holds_of_wide 5 Try.f5 rfl rfl rfl rfl rfl rfl rfl ⟨rfl, rfl, rfl, rfl, rfl⟩ rfl rfl rfl rfl rfl (by kernel_rfl) Try.func5 (by kernel_rfl)
    (of_decide_eq_true (by kernel_rfl)) (by unfold Func.isWrapper; first | (rw [if_pos (by decide +kernel)]; kernel_rfl) | (rw [if_neg (by decide +kernel)]; exact ⟨rfl, rfl⟩))
    (fun os started H enc _ => lifted os started H enc)

/-- the statement -/
theorem proved : Rows.PewNilSaid := over
#print axioms proved
end Go.Proofs.Ytiefaihflmogpab.pewNil
