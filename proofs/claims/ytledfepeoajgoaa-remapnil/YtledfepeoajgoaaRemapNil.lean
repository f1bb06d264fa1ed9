/- A nil table has no records, whatever step is done with it. -/
import Derived.Test.YtledfepeoajgoaaUa9
import Derived.ShutString
import Derived.ChangeOld
import Derived.Below
namespace Go.Proofs.Ytledfepeoajgoaa.remapNil
open Go.ChangeShapes Go.WideShapes Go.ChangeAt Go.RowKit
open Go.ChangeMaps (open_string shut_string)
open Rk Ba

theorem own : ownKnob Try.prog.godebug = none := by kernel_rfl
theorem laidOut : laidOutB Try.prog = true := by kernel_rfl

theorem bd_is (g n a : Int) : bdN g n a = !(decide (0 ≤ g) && (decide (0 ≤ n) && (decide (n ≤ 255) && decide (-1 ≤ a)))) := by
  unfold bdN isT
  rw [Bool.eq_iff_iff]
  simp
  omega
theorem gn_is (n a : Int) : gnN a n = !(decide (-1 ≤ a) && (decide (0 ≤ n) && decide (n ≤ 1048576))) := by
  unfold gnN
  rw [Bool.eq_iff_iff]
  simp
  omega
set_option maxRecDepth 100000 in
set_option maxHeartbeats 12800000 in
theorem core {w : World} (x : S4) :
    Calls Try.prog 5 #[sv x] w fun r w' => r = .returned (.bool true) ∧ Below w.heap.size w w' := by
  obtain ⟨q, g, n, a⟩ := x
  unfold sv
  simp only
  have TU := hide fun u => turns_any u
  have BL := hide (below_alloc w (.cells #[.int .i64 q, .int .i64 g, .int .i64 n, .int .i64 a] 29))
  have HN := hide (heap_new w (.cells #[.int .i64 q, .int .i64 g, .int .i64 n, .int .i64 a] 29))
  have OF := hide fun u => of_nil g u
  unfold rv zr at OF
  simp only at OF
  have eb := bd_is g n a
  have eg := gn_is n a
  cases h1 : decide (0 ≤ g) <;> cases h2 : decide (0 ≤ n) <;> cases h3 : decide (n ≤ 255) <;> cases h4 : decide (-1 ≤ a) <;> cases h5 : decide (n ≤ 1048576)
  all_goals first
    | (exfalso; simp at h1 h2 h3 h4 h5; omega)
    | skip
  all_goals
    rw [h1, h2, h3, h4] at eb
    rw [h2, h4, h5] at eg
    simp only [Bool.false_and, Bool.and_false, Bool.not_false, Bool.not_true, Bool.and_self] at eb eg
    first
      | have BN := hide fun u => born_arg (.pointer none) ⟨_, rfl⟩ g n a u eb
      | have BN := hide fun u => born_nil g n a u eb
    first
      | have GN := hide fun u => gone_arg (.pointer none) ⟨_, rfl⟩ g a n u eg
      | have GN := hide fun u => gone_nil g a n u eg
    clear eb eg
    go_enter Try.func5, Try.ntmps5
    go_wp2_with fail
    generalize w.alloc (.cells #[.int .i64 q, .int .i64 g, .int .i64 n, .int .i64 a] 29) = W at BL HN ⊢
    have c1 : W.cell? ⟨w.heap.size, 1, none⟩ = some (.int .i64 g) := cell_of HN.out 1
    have c2 : W.cell? ⟨w.heap.size, 2, none⟩ = some (.int .i64 n) := cell_of HN.out 2
    have c3 : W.cell? ⟨w.heap.size, 3, none⟩ = some (.int .i64 a) := cell_of HN.out 3
    refine (BN.out _).mono ?_
    rintro r w1 ⟨rfl, e1⟩
    obtain rfl := e1.symm
    go_wp2_with fail
    refine (GN.out _).mono ?_
    rintro r w1 ⟨rfl, e1⟩
    obtain rfl := e1.symm
    go_wp2_with fail
    refine (OF.out _).mono ?_
    rintro r w1 ⟨rfl, b1⟩
    have d2 := cellB c2 b1
    have d3 := cellB c3 b1
    have B1 := hide (btr BL.out b1)
    clear b1 c1 c2 c3
    have hlt := World.block_lt_of_cell? w1 _ d2
    go_wp2_with fail
    refine (owner_nil _ _ _).mono ?_
    rintro r w2 ⟨rfl, e2⟩
    obtain rfl := e2.symm
    go_wp2_with fail
    refine (all_nil _).mono ?_
    rintro r w2 ⟨rfl, e2⟩
    obtain rfl := e2.symm
    go_wp2_with fail
    refine (TU.out _).mono ?_
    rintro r w3 ⟨rfl, b3⟩
    have B3 := hide (btr (btr B1.out (below_alloc _ _)) b3)
    clear b3
    go_wp2_with fail
    go_ret
    exact ⟨rfl, B3.out⟩

/-! ### the row -/
set_option maxRecDepth 100000 in
theorem lifted (os : Os) (started : os.Started) (H : Type) (enc : TypeId × Value → H) :
    ReturnsInHanded {} Try.checked os 5 .any (Rows.remapNilSpec.pre6 enc Try.prog Try.f5 Rows.remapNilRow.domain false) (Rows.remapNilSpec.post enc Try.prog Try.f5 false true false false) := by
  refine returnsInHanded_of_change (C := Try.checked) own started (by kernel_rfl) Try.func5
    (ChangeSpec.witness6 (enc := enc) (C := Try.checked) false ⟨#[], #[.agg #[.int .i64 0, .int .i64 0, .int .i64 0, .int .i64 0]], []⟩ 8 (by kernel_rfl) (by kernel_rfl) (by kernel_rfl) (by kernel_rfl)) ?_
  intro W base args ds gs before hval0 hW hcnd _
  have hval : ∀ (j : Nat) t v, Try.f5.params[j]? = some t → args[j]? = some v → Value.okWide Try.prog W .any base t v := hval0
  have hW' := hW
  obtain ⟨p, q, hA0, hV, rfl, hfz, hnd⟩ := hW
  have hA : DataW.TrodAll enc Try.prog W 0 (fun _ => true) true Try.f5.params.toList args.toList ds p := hA0
  rw [Try.params5] at hA hval
  obtain ⟨v0, vs0, d0, ds0, p0, q0, hargs, rfl, rfl, h0, r0⟩ := trodAll_cons hA
  obtain ⟨rfl, rfl, rfl⟩ := trodAll_nil r0
  obtain rfl : args = #[v0] := by cases args; simp_all
  obtain ⟨rfl, rfl⟩ := trodVars_none hV
  have k0 := h0
  have lt0 : ∀ x ∈ p0, x.block < W.heap.size := by obtain ⟨m, hm⟩ := k0; exact DataW.trod_lt m _ _ _ hm
  obtain ⟨x0, rfl⟩ := h0.elim fun _ hf => step_open hf
  clear hA0 hval0
  refine (core (w := W) x0).mono fun e W' ⟨he, bel⟩ => ?_
  subst he
  exact ⟨_, rfl, _, _, _, [], _, [], hW', trodAll_mk1 (shut_bool Try.underlying4 _), (trodAll_cons_mk (Below.trod laidOut (by kernel_rfl) (of_decide_eq_true (by kernel_rfl)) k0 bel lt0) trodAll_mk0), rfl, bel.frame _, fun h => by cases h⟩

theorem over : Rows.remapNilRow.holds Try.pinned (OpenSpec.ofChange Rows.remapNilSpec) :=
  OpenClaim.holds_of_wide 5 Try.f5 rfl rfl rfl rfl rfl rfl rfl ⟨rfl, rfl, rfl, rfl, rfl⟩ rfl rfl rfl rfl rfl (by kernel_rfl) Try.func5 (by kernel_rfl)
    (of_decide_eq_true (by kernel_rfl)) (by unfold Func.isWrapper; first | (rw [if_pos (by decide +kernel)]; kernel_rfl) | (rw [if_neg (by decide +kernel)]; exact ⟨rfl, rfl⟩))
    (fun os started H enc _ => lifted os started H enc)

/-- the statement -/
theorem proved : Rows.RemapNilSaid := over
#print axioms proved
end Go.Proofs.Ytledfepeoajgoaa.remapNil
