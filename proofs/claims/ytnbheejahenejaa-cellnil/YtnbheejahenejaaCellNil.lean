/- A nil cell remembers nothing, for every epoch, tid and cut. -/
import Derived.Test.YtnbheejahenejaaAi
import Derived.Test.YtnbheejahenejaaAj
import Derived.Test.YtnbheejahenejaaBo
import Derived.ShutString
import Derived.ChangeOld
import Derived.Below
namespace Go.Proofs.Ytnbheejahenejaa.cellNil
open Go.ChangeShapes Go.WideShapes Go.ChangeAt Go.RowKit
open Go.ChangeMaps (open_string shut_string)
open Ce Ck
open Ep (ownB rdN rdT rdt rdc rdk)
open Ba (hide)

theorem own : ownKnob Try.prog.godebug = none := by kernel_rfl
theorem laidOut : laidOutB Try.prog = true := by kernel_rfl

set_option maxRecDepth 100000 in
set_option maxHeartbeats 6400000 in
theorem core {w : World} (e : Int) (hw : (Lit.int .u64 e).wf = true) (tid cut : Int) :
    Calls Try.prog 6 #[.int .u64 e, .int .i64 tid, .int .i64 cut] w fun r w' => r = .returned (.bool true) ∧ Below w.heap.size w w' := by
  have hb := hw
  simp only [Lit.wf, Bool.and_eq_true, decide_eq_true_eq] at hb
  have a0 : 0 ≤ e := hb.1
  have a1 : e ≤ 18446744073709551615 := hb.2
  clear hw hb
  have SP := hide (split_any e a0 a1 w)
  unfold SplR rdV at SP
  have R1 := hide (fun u => read_no e a0 a1 none (.pointer none) u (.inr rfl))
  have R2 := hide (fun u => write_no e a0 a1 none (.pointer none) u (.inr rfl))
  unfold accE at R1 R2
  generalize rdN e = x1 at *
  generalize rdT e = x2 at *
  generalize rdt e = x3 at *
  generalize rdc e = x4 at *
  have RC := hide races_any
  obtain ⟨z, hz⟩ : ∃ z, ownB e = z := ⟨_, rfl⟩
  rw [hz] at SP R1 R2
  clear hz
  cases z
  all_goals
    simp only [if_true, Bool.true_eq_false, if_false] at R1 R2
    by_cases d1 : tid < 0
    · have RT := hide (fun u => retire_arg none tid cut (.inl d1) u)
      have f1 : decide (0 ≤ tid) = false := by simp; omega
      clear d1
      go_enter Try.func6, Try.ntmps6
      go_wp2_with fail
      refine SP.out.mono ?_
      rintro r w1 ⟨rfl, b1⟩
      have B1 := hide (btr b1 (Ba.below_alloc w1 (.cells #[.bool x1, .bool x2, .int .i64 x3, .int .i64 x4] 65)))
      clear b1
      go_wp2_with fail
      refine (R1.out _).mono ?_
      rintro r w0 ⟨rfl, e0⟩
      obtain rfl := e0.symm
      go_wp2_with fail
      refine (R2.out _).mono ?_
      rintro r w0 ⟨rfl, e0⟩
      obtain rfl := e0.symm
      go_wp2_with fail
      refine (RT.out _).mono ?_
      rintro r w0 ⟨rfl, e0⟩
      obtain rfl := e0.symm
      go_wp2_with fail
      refine (last_nil _).mono ?_
      rintro r w0 ⟨rfl, e0⟩
      obtain rfl := e0.symm
      go_wp2_with fail
      refine (reads_nil _).mono ?_
      rintro r w0 ⟨rfl, e0⟩
      obtain rfl := e0.symm
      go_wp2_with fail
      refine (tailed_nil _).mono ?_
      rintro r w0 ⟨rfl, e0⟩
      obtain rfl := e0.symm
      go_wp2_with fail
      refine (wide_nil _).mono ?_
      rintro r w0 ⟨rfl, e0⟩
      obtain rfl := e0.symm
      go_wp2_with fail
      refine (RC.out _).mono ?_
      rintro r w2 ⟨rfl, b2⟩
      have B2 := hide (btr B1.out b2)
      clear b2
      go_wp2_with fail
      go_ret
      exact ⟨rfl, B2.out⟩
    by_cases d2 : 256 ≤ tid
    · have RT := hide (fun u => retire_arg none tid cut (.inr (.inl d2)) u)
      have f1 : decide (0 ≤ tid) = true := by simp; omega
      have f2 : decide (tid ≤ 255) = false := by simp; omega
      clear d1 d2
      go_enter Try.func6, Try.ntmps6
      go_wp2_with fail
      refine SP.out.mono ?_
      rintro r w1 ⟨rfl, b1⟩
      have B1 := hide (btr b1 (Ba.below_alloc w1 (.cells #[.bool x1, .bool x2, .int .i64 x3, .int .i64 x4] 65)))
      clear b1
      go_wp2_with fail
      refine (R1.out _).mono ?_
      rintro r w0 ⟨rfl, e0⟩
      obtain rfl := e0.symm
      go_wp2_with fail
      refine (R2.out _).mono ?_
      rintro r w0 ⟨rfl, e0⟩
      obtain rfl := e0.symm
      go_wp2_with fail
      refine (RT.out _).mono ?_
      rintro r w0 ⟨rfl, e0⟩
      obtain rfl := e0.symm
      go_wp2_with fail
      refine (last_nil _).mono ?_
      rintro r w0 ⟨rfl, e0⟩
      obtain rfl := e0.symm
      go_wp2_with fail
      refine (reads_nil _).mono ?_
      rintro r w0 ⟨rfl, e0⟩
      obtain rfl := e0.symm
      go_wp2_with fail
      refine (tailed_nil _).mono ?_
      rintro r w0 ⟨rfl, e0⟩
      obtain rfl := e0.symm
      go_wp2_with fail
      refine (wide_nil _).mono ?_
      rintro r w0 ⟨rfl, e0⟩
      obtain rfl := e0.symm
      go_wp2_with fail
      refine (RC.out _).mono ?_
      rintro r w2 ⟨rfl, b2⟩
      have B2 := hide (btr B1.out b2)
      clear b2
      go_wp2_with fail
      go_ret
      exact ⟨rfl, B2.out⟩
    by_cases d3 : cut < 0
    · have RT := hide (fun u => retire_arg none tid cut (.inr (.inr (.inl d3))) u)
      have f1 : decide (0 ≤ tid) = true := by simp; omega
      have f2 : decide (tid ≤ 255) = true := by simp; omega
      have f3 : decide (0 ≤ cut) = false := by simp; omega
      clear d1 d2 d3
      go_enter Try.func6, Try.ntmps6
      go_wp2_with fail
      refine SP.out.mono ?_
      rintro r w1 ⟨rfl, b1⟩
      have B1 := hide (btr b1 (Ba.below_alloc w1 (.cells #[.bool x1, .bool x2, .int .i64 x3, .int .i64 x4] 65)))
      clear b1
      go_wp2_with fail
      refine (R1.out _).mono ?_
      rintro r w0 ⟨rfl, e0⟩
      obtain rfl := e0.symm
      go_wp2_with fail
      refine (R2.out _).mono ?_
      rintro r w0 ⟨rfl, e0⟩
      obtain rfl := e0.symm
      go_wp2_with fail
      refine (RT.out _).mono ?_
      rintro r w0 ⟨rfl, e0⟩
      obtain rfl := e0.symm
      go_wp2_with fail
      refine (last_nil _).mono ?_
      rintro r w0 ⟨rfl, e0⟩
      obtain rfl := e0.symm
      go_wp2_with fail
      refine (reads_nil _).mono ?_
      rintro r w0 ⟨rfl, e0⟩
      obtain rfl := e0.symm
      go_wp2_with fail
      refine (tailed_nil _).mono ?_
      rintro r w0 ⟨rfl, e0⟩
      obtain rfl := e0.symm
      go_wp2_with fail
      refine (wide_nil _).mono ?_
      rintro r w0 ⟨rfl, e0⟩
      obtain rfl := e0.symm
      go_wp2_with fail
      refine (RC.out _).mono ?_
      rintro r w2 ⟨rfl, b2⟩
      have B2 := hide (btr B1.out b2)
      clear b2
      go_wp2_with fail
      go_ret
      exact ⟨rfl, B2.out⟩
    by_cases d4 : 1048576 < cut
    · have RT := hide (fun u => retire_arg none tid cut (.inr (.inr (.inr d4))) u)
      have f1 : decide (0 ≤ tid) = true := by simp; omega
      have f2 : decide (tid ≤ 255) = true := by simp; omega
      have f3 : decide (0 ≤ cut) = true := by simp; omega
      have f4 : decide (cut ≤ 1048576) = false := by simp; omega
      clear d1 d2 d3 d4
      go_enter Try.func6, Try.ntmps6
      go_wp2_with fail
      refine SP.out.mono ?_
      rintro r w1 ⟨rfl, b1⟩
      have B1 := hide (btr b1 (Ba.below_alloc w1 (.cells #[.bool x1, .bool x2, .int .i64 x3, .int .i64 x4] 65)))
      clear b1
      go_wp2_with fail
      refine (R1.out _).mono ?_
      rintro r w0 ⟨rfl, e0⟩
      obtain rfl := e0.symm
      go_wp2_with fail
      refine (R2.out _).mono ?_
      rintro r w0 ⟨rfl, e0⟩
      obtain rfl := e0.symm
      go_wp2_with fail
      refine (RT.out _).mono ?_
      rintro r w0 ⟨rfl, e0⟩
      obtain rfl := e0.symm
      go_wp2_with fail
      refine (last_nil _).mono ?_
      rintro r w0 ⟨rfl, e0⟩
      obtain rfl := e0.symm
      go_wp2_with fail
      refine (reads_nil _).mono ?_
      rintro r w0 ⟨rfl, e0⟩
      obtain rfl := e0.symm
      go_wp2_with fail
      refine (tailed_nil _).mono ?_
      rintro r w0 ⟨rfl, e0⟩
      obtain rfl := e0.symm
      go_wp2_with fail
      refine (wide_nil _).mono ?_
      rintro r w0 ⟨rfl, e0⟩
      obtain rfl := e0.symm
      go_wp2_with fail
      refine (RC.out _).mono ?_
      rintro r w2 ⟨rfl, b2⟩
      have B2 := hide (btr B1.out b2)
      clear b2
      go_wp2_with fail
      go_ret
      exact ⟨rfl, B2.out⟩
    · have RT := hide (fun u => retire_nil tid cut (by omega) (by omega) (by omega) (by omega) u)
      have f1 : decide (0 ≤ tid) = true := by simp; omega
      have f2 : decide (tid ≤ 255) = true := by simp; omega
      have f3 : decide (0 ≤ cut) = true := by simp; omega
      have f4 : decide (cut ≤ 1048576) = true := by simp; omega
      clear d1 d2 d3 d4
      go_enter Try.func6, Try.ntmps6
      go_wp2_with fail
      refine SP.out.mono ?_
      rintro r w1 ⟨rfl, b1⟩
      have B1 := hide (btr b1 (Ba.below_alloc w1 (.cells #[.bool x1, .bool x2, .int .i64 x3, .int .i64 x4] 65)))
      clear b1
      go_wp2_with fail
      refine (R1.out _).mono ?_
      rintro r w0 ⟨rfl, e0⟩
      obtain rfl := e0.symm
      go_wp2_with fail
      refine (R2.out _).mono ?_
      rintro r w0 ⟨rfl, e0⟩
      obtain rfl := e0.symm
      go_wp2_with fail
      refine (RT.out _).mono ?_
      rintro r w0 ⟨rfl, e0⟩
      obtain rfl := e0.symm
      go_wp2_with fail
      refine (last_nil _).mono ?_
      rintro r w0 ⟨rfl, e0⟩
      obtain rfl := e0.symm
      go_wp2_with fail
      refine (reads_nil _).mono ?_
      rintro r w0 ⟨rfl, e0⟩
      obtain rfl := e0.symm
      go_wp2_with fail
      refine (tailed_nil _).mono ?_
      rintro r w0 ⟨rfl, e0⟩
      obtain rfl := e0.symm
      go_wp2_with fail
      refine (wide_nil _).mono ?_
      rintro r w0 ⟨rfl, e0⟩
      obtain rfl := e0.symm
      go_wp2_with fail
      refine (RC.out _).mono ?_
      rintro r w2 ⟨rfl, b2⟩
      have B2 := hide (btr B1.out b2)
      clear b2
      go_wp2_with fail
      go_ret
      exact ⟨rfl, B2.out⟩

/-! ### the row -/
set_option maxRecDepth 100000 in
theorem lifted (os : Os) (started : os.Started) (H : Type) (enc : TypeId × Value → H) :
    ReturnsInHanded {} Try.checked os 6 .any (Rows.cellNilSpec.pre6 enc Try.prog Try.f6 Rows.cellNilRow.domain false) (Rows.cellNilSpec.post enc Try.prog Try.f6 false true false false) := by
  refine returnsInHanded_of_change (C := Try.checked) own started (by kernel_rfl) Try.func6
    (ChangeSpec.witness6 (enc := enc) (C := Try.checked) false ⟨#[], #[.int .u64 0, .int .i64 0, .int .i64 0], []⟩ 8 (by kernel_rfl) (by kernel_rfl) (by kernel_rfl) (by kernel_rfl)) ?_
  intro W base args ds gs before hval0 hW hcnd _
  have hval : ∀ (j : Nat) t v, Try.f6.params[j]? = some t → args[j]? = some v → Value.okWide Try.prog W .any base t v := hval0
  have hW' := hW
  obtain ⟨p, q, hA0, hV, rfl, hfz, hnd⟩ := hW
  have hA : DataW.TrodAll enc Try.prog W 0 (fun _ => true) true Try.f6.params.toList args.toList ds p := hA0
  rw [Try.params6] at hA hval
  obtain ⟨v0, vs0, d0, ds0, p0, q0, hargs, rfl, rfl, h0, r0⟩ := trodAll_cons hA
  obtain ⟨v1, vs1, d1, ds1, p1, q1, rfl, rfl, rfl, h1, r1⟩ := trodAll_cons r0
  obtain ⟨v2, vs2, d2, ds2, p2, q2, rfl, rfl, rfl, h2, r2⟩ := trodAll_cons r1
  obtain ⟨rfl, rfl, rfl⟩ := trodAll_nil r2
  obtain rfl : args = #[v0, v1, v2] := by cases args; simp_all
  obtain ⟨rfl, rfl⟩ := trodVars_none hV
  obtain ⟨a0, rfl, rfl, rfl, w0⟩ := open_int Try.underlying29 (hval 0 29 v0 rfl rfl) h0
  obtain ⟨a1, rfl, rfl, rfl, w1⟩ := open_int Try.underlying3 (hval 1 3 v1 rfl rfl) h1
  obtain ⟨a2, rfl, rfl, rfl, w2⟩ := open_int Try.underlying3 (hval 2 3 v2 rfl rfl) h2
  clear hA0 hval0
  refine (core (w := W) a0 w0 a1 a2).mono fun e W' ⟨he, bel⟩ => ?_
  subst he
  exact ⟨_, rfl, _, _, _, [], _, [], hW', trodAll_mk1 (shut_bool Try.underlying4 _), (trodAll_cons_mk (shut_int Try.underlying29 w0) (trodAll_cons_mk (shut_int Try.underlying3 w1) (trodAll_cons_mk (shut_int Try.underlying3 w2) trodAll_mk0))), rfl, bel.frame _, fun h => by cases h⟩

theorem over : Rows.cellNilRow.holds Try.pinned (OpenSpec.ofChange Rows.cellNilSpec) :=
  OpenClaim.holds_of_wide 6 Try.f6 rfl rfl rfl rfl rfl rfl rfl ⟨rfl, rfl, rfl, rfl, rfl⟩ rfl rfl rfl rfl rfl (by kernel_rfl) Try.func6 (by kernel_rfl)
    (of_decide_eq_true (by kernel_rfl)) (by unfold Func.isWrapper; first | (rw [if_pos (by decide +kernel)]; kernel_rfl) | (rw [if_neg (by decide +kernel)]; exact ⟨rfl, rfl⟩))
    (fun os started H enc _ => lifted os started H enc)

/-- the statement -/
theorem proved : Rows.CellNilSaid := over
#print axioms proved
end Go.Proofs.Ytnbheejahenejaa.cellNil
