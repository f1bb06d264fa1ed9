/- Of a nil matrix: every input: MatrixNil answers true. -/
import Derived.Test.YtdfjcmlafhannaaNb5
import Derived.Test.YtdfjcmlafhannaaBo
import Derived.ShutString
import Derived.ChangeOld
import Derived.Below
namespace Go.Proofs.Ytdfjcmlafhannaa.matrixNil
open Go.ChangeShapes Go.WideShapes Go.ChangeAt Go.RowKit
open Go.ChangeMaps (open_string shut_string)
open Mx

theorem own : ownKnob Try.prog.godebug = none := by kernel_rfl
theorem laidOut : laidOutB Try.prog = true := by kernel_rfl

set_option maxRecDepth 100000 in
set_option maxHeartbeats 1600000 in
theorem core {w : World} (i k : Int) : Calls Try.prog 6 #[.int .i64 i, .int .i64 k] w fun e w' => e = .returned (.bool true) ∧ Below w.heap.size w w' := by
  have NO : ∀ u : World, PO u none 0 (fun _ => 0) := fun u => ⟨by decide, .inl ⟨rfl, rfl⟩⟩
  have HA := Mx.hide (fun u : World => has_nil u i k)
  have LO := Mx.hide (fun u : World => loo_any (NO u))
  have RO := Mx.hide (fun u : World => row_any (NO u) i)
  have CO := Mx.hide (fun u : World => col_any (NO u) k)
  clear NO
  have key : ∀ (e : Int) (right : Bool), (∀ u : World, Calls Try.prog 11 #[.pointer none, .int .i64 i, .int .i64 k] u fun r w' => r = .returned (.int .i64 e) ∧ w' = u) → (decide (0 ≤ i) && decide (0 ≤ k)) = right → (e == 7) = right → (e == 1) = !right →
      Calls Try.prog 6 #[.int .i64 i, .int .i64 k] w fun e w' => e = .returned (.bool true) ∧ Below w.heap.size w w' := by
    intro e right hS hr h7 h1
    have SE := Mx.hide (hS w)
    clear hS
    have hA : ∃ a b : Bool, decide (0 ≤ i) = a ∧ decide (0 ≤ k) = b ∧ (a && b) = right := ⟨_, _, rfl, rfl, hr⟩
    obtain ⟨a, b, ha, hb, hab⟩ := hA
    clear hr
    cases a <;> cases b <;> (simp only [Bool.and_true, Bool.and_false] at hab; subst hab; simp only [Bool.not_true, Bool.not_false] at h1)
    all_goals
      go_enter Try.func6, Try.ntmps6
      go_wp2_with fail
      refine SE.out.mono ?_
      rintro r w1 ⟨rfl, e1⟩
      obtain rfl := e1.symm
      go_wp2_with fail
      refine (close_nil _).mono ?_
      rintro r w1 ⟨rfl, e1⟩
      obtain rfl := e1.symm
      go_wp2_with fail
      refine (HA.out _).mono ?_
      rintro r w1 ⟨rfl, q, e1⟩
      have B1 : Hid (Below w.heap.size w w1) := by rw [e1]; exact Ba.bdrew _ _
      clear e1
      go_wp2_with fail
      refine (LO.out _).mono ?_
      rintro r w2 ⟨oa, c, rfl, -, b2⟩
      have B2 := Mx.hide (Ba.btr B1.out b2)
      clear b2 B1
      simp only [show ps (fun k => hsI 0 (fun _ => 0) (k : Int) (k : Int)) 0 = [] from rfl, List.length_nil]
      go_wp2_with fail
      refine (RO.out _).mono ?_
      rintro r w3 ⟨oa, c, rfl, -, b3⟩
      have B3 := Mx.hide (Ba.btr B2.out b3)
      clear b3 B2
      simp only [show ∀ i : Int, ps (fun k => hsI 0 (fun _ => 0) i (k : Int)) 0 = [] from fun _ => rfl, List.length_nil]
      go_wp2_with fail
      refine (CO.out _).mono ?_
      rintro r w4 ⟨oa, c, rfl, -, b4⟩
      have B4 := Mx.hide (Ba.btr B3.out b4)
      clear b4 B3
      simp only [show ∀ i : Int, ps (fun k => hsI 0 (fun _ => 0) (k : Int) i) 0 = [] from fun _ => rfl, List.length_nil]
      go_wp2_with fail
      refine (count_nil _).mono ?_
      rintro r w5 ⟨rfl, rfl⟩
      go_wp2_with fail
      refine (copy_nil _).mono ?_
      rintro r w5 ⟨rfl, rfl⟩
      go_wp2_with fail
      refine (size_nil _).mono ?_
      rintro r w5 ⟨rfl, rfl⟩
      go_wp2_with fail
      refine (three_any _).mono ?_
      rintro r w5 ⟨rfl, b5⟩
      have B5 := Mx.hide (Ba.btr B4.out b5)
      clear b5 B4
      go_wp2_with fail
      go_ret
      exact ⟨rfl, B5.out⟩
  by_cases h : i < 0 ∨ k < 0
  · refine key 1 false (fun u => set_neg none i k h u) ?_ (by decide) (by decide)
    rcases h with h | h
    · simp [show ¬ (0 ≤ i) by omega]
    · simp [show ¬ (0 ≤ k) by omega]
  · exact key 7 true (fun u => set_nil i k (by omega) (by omega) u) (by simp; omega) (by decide) (by decide)

/-! ### the row -/
set_option maxRecDepth 100000 in
theorem lifted (os : Os) (started : os.Started) (H : Type) (enc : TypeId × Value → H) :
    ReturnsInHanded {} Try.checked os 6 .any (Rows.matrixNilSpec.pre6 enc Try.prog Try.f6 Rows.matrixNilRow.domain false) (Rows.matrixNilSpec.post enc Try.prog Try.f6 false true false false) := by
  refine returnsInHanded_of_change (C := Try.checked) own started (by kernel_rfl) Try.func6
    (ChangeSpec.witness6 (enc := enc) (C := Try.checked) false ⟨#[], #[.int .i64 0, .int .i64 0], []⟩ 8 (by kernel_rfl) (by kernel_rfl) (by kernel_rfl) (by kernel_rfl)) ?_
  intro W base args ds gs before hval0 hW hcnd _
  have hval : ∀ (j : Nat) t v, Try.f6.params[j]? = some t → args[j]? = some v → Value.okWide Try.prog W .any base t v := hval0
  have hW' := hW
  obtain ⟨p, q, hA0, hV, rfl, hfz, hnd⟩ := hW
  have hA : DataW.TrodAll enc Try.prog W 0 (fun _ => true) true Try.f6.params.toList args.toList ds p := hA0
  rw [Try.params6] at hA hval
  obtain ⟨v0, vs0, d0, ds0, p0, q0, hargs, rfl, rfl, h0, r0⟩ := trodAll_cons hA
  obtain ⟨v1, vs1, d1, ds1, p1, q1, rfl, rfl, rfl, h1, r1⟩ := trodAll_cons r0
  obtain ⟨rfl, rfl, rfl⟩ := trodAll_nil r1
  obtain rfl : args = #[v0, v1] := by cases args; simp_all
  obtain ⟨rfl, rfl⟩ := trodVars_none hV
  obtain ⟨a0, rfl, rfl, rfl, w0⟩ := open_int Try.underlying3 (hval 0 3 v0 rfl rfl) h0
  obtain ⟨a1, rfl, rfl, rfl, w1⟩ := open_int Try.underlying3 (hval 1 3 v1 rfl rfl) h1
  clear hA0 hval0
  refine (core (w := W) a0 a1).mono fun e W' ⟨he, bel⟩ => ?_
  subst he
  exact ⟨_, rfl, _, _, _, [], _, [], hW', trodAll_mk1 (shut_bool Try.underlying4 _), (trodAll_cons_mk (shut_int Try.underlying3 w0) (trodAll_cons_mk (shut_int Try.underlying3 w1) trodAll_mk0)), rfl, bel.frame _, fun h => by cases h⟩

theorem over : Rows.matrixNilRow.holds Try.pinned (OpenSpec.ofChange Rows.matrixNilSpec) :=
  OpenClaim.holds_of_wide 6 Try.f6 rfl rfl rfl rfl rfl rfl rfl ⟨rfl, rfl, rfl, rfl, rfl⟩ rfl rfl rfl rfl rfl (by kernel_rfl) Try.func6 (by kernel_rfl)
    (of_decide_eq_true (by kernel_rfl)) (by unfold Func.isWrapper; first | (rw [if_pos (by decide +kernel)]; kernel_rfl) | (rw [if_neg (by decide +kernel)]; exact ⟨rfl, rfl⟩))
    (fun os started H enc _ => lifted os started H enc)

/-- the statement -/
theorem proved : Rows.MatrixNilSaid := over
#print axioms proved
end Go.Proofs.Ytdfjcmlafhannaa.matrixNil
