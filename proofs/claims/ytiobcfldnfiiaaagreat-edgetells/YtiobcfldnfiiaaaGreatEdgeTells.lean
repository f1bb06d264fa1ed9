/- EdgeTells: which events tell. -/
import Derived.Test.YtiobcfldnfiiaaaGreatZjEg15
import Derived.ShutString
import Derived.ChangeOld
import Derived.Below
namespace Go.Proofs.YtiobcfldnfiiaaaGreat.edgeTells
open Go.ChangeShapes Go.WideShapes Go.ChangeAt Go.RowKit
open Go.ChangeMaps (open_string shut_string)
open Eg En Eo Ba

theorem own : ownKnob Tryz.prog.godebug = none := by kernel_rfl
theorem laidOut : laidOutB Tryz.prog = true := by kernel_rfl

set_option maxRecDepth 100000 in
set_option maxHeartbeats 3200000 in
theorem core {w : World} (e : Ev) :
    Calls Tryz.prog 6 #[evv e] w fun r w' => r = .returned (.bool true) ∧ Below w.heap.size w w' := by
  have TE := Ba.hide (fun u => tells_any e u)
  have FV := Ba.hide (fun u => five_any u)
  unfold evv evc tellB at TE
  unfold evv evc
  obtain ⟨k, g, c, a, v, m, s, o⟩ := e
  simp only at TE ⊢
  have B0 := Ba.hide (below_alloc w (.cells #[.int .i64 k, .int .i64 g, .int .i64 c, .int .i64 a, .int .i64 v, .int .i64 m, .bool s, .bool o] 42))
  by_cases h1 : k = 1
  · subst h1
    simp only [decide_true, Bool.true_or] at TE
    go_enter Tryz.func6, Tryz.ntmps6
    go_wp2_with fail
    refine (TE.out _).mono ?_
    rintro r w1 ⟨rfl, b1⟩
    have B1 := Ba.hide (Ba.btr B0.out b1)
    clear b1
    go_wp2_with fail
    refine (FV.out _).mono ?_
    rintro r w2 ⟨rfl, b2⟩
    have B2 := Ba.hide (Ba.btr B1.out b2)
    clear b2
    go_wp2_with fail
    go_ret
    exact ⟨rfl, B2.out⟩
  by_cases h3 : k = 3
  · subst h3
    simp only [decide_true, Bool.true_or, Bool.or_true] at TE
    go_enter Tryz.func6, Tryz.ntmps6
    go_wp2_with fail
    refine (TE.out _).mono ?_
    rintro r w1 ⟨rfl, b1⟩
    have B1 := Ba.hide (Ba.btr B0.out b1)
    clear b1
    go_wp2_with fail
    refine (FV.out _).mono ?_
    rintro r w2 ⟨rfl, b2⟩
    have B2 := Ba.hide (Ba.btr B1.out b2)
    clear b2
    go_wp2_with fail
    go_ret
    exact ⟨rfl, B2.out⟩
  by_cases h4 : k = 4
  · subst h4
    simp only [decide_true, Bool.true_or, Bool.or_true] at TE
    go_enter Tryz.func6, Tryz.ntmps6
    go_wp2_with fail
    refine (TE.out _).mono ?_
    rintro r w1 ⟨rfl, b1⟩
    have B1 := Ba.hide (Ba.btr B0.out b1)
    clear b1
    go_wp2_with fail
    refine (FV.out _).mono ?_
    rintro r w2 ⟨rfl, b2⟩
    have B2 := Ba.hide (Ba.btr B1.out b2)
    clear b2
    go_wp2_with fail
    go_ret
    exact ⟨rfl, B2.out⟩
  by_cases h5 : k = 5
  · subst h5
    simp only [decide_true, Bool.true_or, Bool.or_true] at TE
    go_enter Tryz.func6, Tryz.ntmps6
    go_wp2_with fail
    refine (TE.out _).mono ?_
    rintro r w1 ⟨rfl, b1⟩
    have B1 := Ba.hide (Ba.btr B0.out b1)
    clear b1
    go_wp2_with fail
    refine (FV.out _).mono ?_
    rintro r w2 ⟨rfl, b2⟩
    have B2 := Ba.hide (Ba.btr B1.out b2)
    clear b2
    go_wp2_with fail
    go_ret
    exact ⟨rfl, B2.out⟩
  by_cases h6 : k = 6
  · subst h6
    simp only [decide_true, Bool.or_true] at TE
    go_enter Tryz.func6, Tryz.ntmps6
    go_wp2_with fail
    refine (TE.out _).mono ?_
    rintro r w1 ⟨rfl, b1⟩
    have B1 := Ba.hide (Ba.btr B0.out b1)
    clear b1
    go_wp2_with fail
    refine (FV.out _).mono ?_
    rintro r w2 ⟨rfl, b2⟩
    have B2 := Ba.hide (Ba.btr B1.out b2)
    clear b2
    go_wp2_with fail
    go_ret
    exact ⟨rfl, B2.out⟩
  have b1 : (k == 1) = false := by simp [h1]
  have b3 : (k == 3) = false := by simp [h3]
  have b4 : (k == 4) = false := by simp [h4]
  have b5 : (k == 5) = false := by simp [h5]
  have b6 : (k == 6) = false := by simp [h6]
  have e0 : (decide (k = 1) || decide (k = 3) || decide (k = 4) || decide (k = 5) || decide (k = 6)) = false := by simp [h1, h3, h4, h5, h6]
  rw [e0] at TE
  clear e0 h1 h3 h4 h5 h6
  go_enter Tryz.func6, Tryz.ntmps6
  go_wp2_with fail
  refine (TE.out _).mono ?_
  rintro r w1 ⟨rfl, b1⟩
  have B1 := Ba.hide (Ba.btr B0.out b1)
  clear b1
  go_wp2_with fail
  refine (FV.out _).mono ?_
  rintro r w2 ⟨rfl, b2⟩
  have B2 := Ba.hide (Ba.btr B1.out b2)
  clear b2
  go_wp2_with fail
  go_ret
  exact ⟨rfl, B2.out⟩

/-! ### the row -/
set_option maxRecDepth 100000 in
theorem lifted (os : Os) (started : os.Started) (H : Type) (enc : TypeId × Value → H) :
    ReturnsInHanded {} Tryz.checked os 6 .any (Rows.edgeTellsSpec.pre6 enc Tryz.prog Tryz.f6 Rows.edgeTellsRow.domain false) (Rows.edgeTellsSpec.post enc Tryz.prog Tryz.f6 false true false false) := by
  refine returnsInHanded_of_change (C := Tryz.checked) own started (by kernel_rfl) Tryz.func6
    (ChangeSpec.witness6 (enc := enc) (C := Tryz.checked) false ⟨#[], #[.agg #[.int .i64 0, .int .i64 0, .int .i64 0, .int .i64 0, .int .i64 0, .int .i64 0, .bool false, .bool false]], []⟩ 8 (by kernel_rfl) (by kernel_rfl) (by kernel_rfl) (by kernel_rfl)) ?_
  intro W base args ds gs before hval0 hW hcnd _
  have hval : ∀ (j : Nat) t v, Tryz.f6.params[j]? = some t → args[j]? = some v → Value.okWide Tryz.prog W .any base t v := hval0
  have hW' := hW
  obtain ⟨p, q, hA0, hV, rfl, hfz, hnd⟩ := hW
  have hA : DataW.TrodAll enc Tryz.prog W 0 (fun _ => true) true Tryz.f6.params.toList args.toList ds p := hA0
  rw [Tryz.params6] at hA hval
  obtain ⟨v0, vs0, d0, ds0, p0, q0, hargs, rfl, rfl, h0, r0⟩ := trodAll_cons hA
  obtain ⟨rfl, rfl, rfl⟩ := trodAll_nil r0
  obtain rfl : args = #[v0] := by cases args; simp_all
  obtain ⟨rfl, rfl⟩ := trodVars_none hV
  have k0 := h0
  have lt0 : ∀ x ∈ p0, x.block < W.heap.size := by obtain ⟨m, hm⟩ := k0; exact DataW.trod_lt m _ _ _ hm
  obtain ⟨x0, rfl⟩ := h0.elim fun _ hf => ev_open hf
  clear hA0 hval0
  refine (core (w := W) x0).mono fun e W' ⟨he, bel⟩ => ?_
  subst he
  exact ⟨_, rfl, _, _, _, [], _, [], hW', trodAll_mk1 (shut_bool Tryz.underlying4 _), (trodAll_cons_mk (Below.trod laidOut (by kernel_rfl) (of_decide_eq_true (by kernel_rfl)) k0 bel lt0) trodAll_mk0), rfl, bel.frame _, fun h => by cases h⟩

theorem over : Rows.edgeTellsRow.holds Tryz.pinned (OpenSpec.ofChange Rows.edgeTellsSpec) :=
  OpenClaim.holds_of_wide 6 Tryz.f6 rfl rfl rfl rfl rfl rfl rfl ⟨rfl, rfl, rfl, rfl, rfl⟩ rfl rfl rfl rfl rfl (by kernel_rfl) Tryz.func6 (by kernel_rfl)
    (of_decide_eq_true (by kernel_rfl)) (by unfold Func.isWrapper; first | (rw [if_pos (by decide +kernel)]; kernel_rfl) | (rw [if_neg (by decide +kernel)]; exact ⟨rfl, rfl⟩))
    (fun os started H enc _ => lifted os started H enc)

/-- the statement -/
theorem proved : Rows.EdgeTellsSaid := over
#print axioms proved
end Go.Proofs.YtiobcfldnfiiaaaGreat.edgeTells
