/- Each turn by quarters: four of them are none, two are back, for every input. -/
import Derived.Test.YtgmkknaagbjcmaaFw5
import Derived.Test.YtgmkknaagbjcmaaBo
import Derived.ShutString
import Derived.ChangeOld
import Derived.Below
namespace Go.Proofs.Ytgmkknaagbjcmaa.walkTurns
open Go.ChangeShapes Go.WideShapes Go.ChangeAt Go.RowKit
open Go.ChangeMaps (open_string shut_string)
open Fw Fl

theorem own : ownKnob Try.prog.godebug = none := by kernel_rfl
theorem laidOut : laidOutB Try.prog = true := by kernel_rfl

set_option maxRecDepth 100000 in
set_option maxHeartbeats 1600000 in
theorem small {w : World} (k : Int) (h : k < -1099511627776 ∨ 1099511627776 < k) :
    Calls Try.prog 4 #[.int .i64 k] w fun e w' => e = .returned (.bool true) ∧ Below w.heap.size w w' := by
  have TH := Ba.hide (two_any w)
  by_cases h1 : k < -1099511627776
  · have d1 : decide (k < -1099511627776) = true := by simp [h1]
    clear h h1
    go_enter Try.func4, Try.ntmps4
    go_wp2_with fail
    refine TH.out.mono ?_
    rintro r w1 ⟨rfl, b1⟩
    have B1 := Ba.hide b1
    clear b1
    go_wp2_with fail
    go_ret
    exact ⟨rfl, B1.out⟩
  · have d1 : decide (k < -1099511627776) = false := by simp; omega
    have d2 : decide (1099511627776 < k) = true := by simp; omega
    clear h h1
    go_enter Try.func4, Try.ntmps4
    go_wp2_with fail
    refine TH.out.mono ?_
    rintro r w1 ⟨rfl, b1⟩
    have B1 := Ba.hide b1
    clear b1
    go_wp2_with fail
    go_ret
    exact ⟨rfl, B1.out⟩
theorem d_cases {j : Int} (hj : 0 ≤ j ∧ j < 4) : (dx ((j + 2) % 4) = -dx j ∧ dy ((j + 2) % 4) = -dy j) ∧ (((dx j * dx j - dy j * dy j) * dx j - (dx j * dy j + dy j * dx j) * dy j) * dx j - ((dx j * dx j - dy j * dy j) * dy j + (dx j * dy j + dy j * dx j) * dx j) * dy j = 1 ∧ ((dx j * dx j - dy j * dy j) * dx j - (dx j * dy j + dy j * dx j) * dy j) * dy j + ((dx j * dx j - dy j * dy j) * dy j + (dx j * dy j + dy j * dx j) * dx j) * dx j = 0) ∧ (dx j * dx j - dy j * dy j).natAbs ≤ 2 ∧ (dx j * dy j + dy j * dx j).natAbs ≤ 2 ∧ ((dx j * dx j - dy j * dy j) * dx j - (dx j * dy j + dy j * dx j) * dy j).natAbs ≤ 2 ∧ ((dx j * dx j - dy j * dy j) * dy j + (dx j * dy j + dy j * dx j) * dx j).natAbs ≤ 2 := by
  rcases (by omega : j = 0 ∨ j = 1 ∨ j = 2 ∨ j = 3) with rfl | rfl | rfl | rfl <;> decide +kernel
set_option maxRecDepth 100000 in
set_option maxHeartbeats 3200000 in
theorem core {w : World} (k : Int) :
    Calls Try.prog 4 #[.int .i64 k] w fun e w' => e = .returned (.bool true) ∧ Below w.heap.size w w' := by
  by_cases hs : k < -1099511627776 ∨ 1099511627776 < k
  · exact small k hs
  · have d1 : decide (k < -1099511627776) = false := by simp; omega
    have d2 : decide (1099511627776 < k) = false := by simp; omega
    have T1 := Ba.hide (fun u => turn_any k u)
    have T2 := Ba.hide (fun u => turn_any (k + 4) u)
    have T3 := Ba.hide (fun u => turn_any (k + 2) u)
    have T4 := Ba.hide (fun u => turned_any 1 0 k u (by decide) (by decide))
    obtain ⟨j, hj⟩ : ∃ j, k % 4 = j := ⟨_, rfl⟩
    rw [show (k + 4) % 4 = j from by omega] at T2
    rw [show (k + 2) % 4 = (j + 2) % 4 from by omega] at T3
    rw [hj] at T1 T4
    have hjb : 0 ≤ j ∧ j < 4 := by omega
    have RD := rt_dir 0 j (by decide) hjb
    rw [show dx 0 = 1 from rfl, show dy 0 = 0 from rfl, show (0 + j) % 4 = j from by omega] at RD
    rw [RD] at T4
    simp only at T4
    obtain ⟨⟨n1, n2⟩, ⟨p1, p2⟩, q1, q2, q3, q4⟩ := d_cases hjb
    have H1 := (tw_hi j).1
    have H2 := (tw_hi j).2
    have G1 := (tw_hi ((j + 2) % 4)).1
    have G2 := (tw_hi ((j + 2) % 4)).2
    rw [n1] at G1
    rw [n2] at G2
    have bx := dx_bd j
    have by' := dy_bd j
    have w4 : IntKind.i64.wrap (k + 4) = k + 4 := wrap_id (by omega) (by omega)
    have w2 : IntKind.i64.wrap (k + 2) = k + 2 := wrap_id (by omega) (by omega)
    have WH := Ba.hide (fun u => whole_any (tw j).1 (tw j).2 (dx j) (dy j) (dx j) (dy j) u H1 H2 (by omega) (by omega))
    simp only [decide_true, Bool.and_self] at WH
    generalize (tw j).1 = a at *
    generalize (tw j).2 = b at *
    generalize (tw ((j + 2) % 4)).1 = a2 at *
    generalize (tw ((j + 2) % 4)).2 = b2 at *
    obtain ⟨r2, i2, M2, R2, I2⟩ := cmul H1 H2 H1 H2 (by omega) (by omega) (by omega) (by omega)
    obtain ⟨r3, i3, M3, R3, I3⟩ := cmul R2 I2 H1 H2 (by omega) (by omega) (by omega) (by omega)
    obtain ⟨r4, i4, M4, R4, I4⟩ := cmul R3 I3 H1 H2 (by omega) (by omega) (by omega) (by omega)
    rw [p1] at R4
    rw [p2] at I4
    have U2 : ∀ u, (binOp .mul 28 (.complex .f64 a b) (.complex .f64 a b)).run Try.prog u = .ok (.complex .f64 r2 i2) u := fun u => run_complex_mul u _ _ _ _ _ _ _ M2
    have U3 : ∀ u, (binOp .mul 28 (.complex .f64 r2 i2) (.complex .f64 a b)).run Try.prog u = .ok (.complex .f64 r3 i3) u := fun u => run_complex_mul u _ _ _ _ _ _ _ M3
    have U4 : ∀ u, (binOp .mul 28 (.complex .f64 r3 i3) (.complex .f64 a b)).run Try.prog u = .ok (.complex .f64 r4 i4) u := fun u => run_complex_mul u _ _ _ _ _ _ _ M4
    have NG : ∀ u, (Op.unary .neg (.complex .f64 a b)).run Try.prog u = .ok (.complex .f64 (Op.negFloat .f64 a) (Op.negFloat .f64 b)) u := fun _ => rfl
    have o1 : (FloatKind.f64.format.order a a == some .eq) = true := (H1.eq H1).trans (by simp)
    have o2 : (FloatKind.f64.format.order b b == some .eq) = true := (H2.eq H2).trans (by simp)
    have o3 : (FloatKind.f64.format.order a2 (Op.negFloat .f64 a) == some .eq) = true := (G1.eq H1.neg).trans (by simp)
    have o4 : (FloatKind.f64.format.order b2 (Op.negFloat .f64 b) == some .eq) = true := (G2.eq H2.neg).trans (by simp)
    have o5 : (FloatKind.f64.format.order r4 4607182418800017408 == some .eq) = true := R4.eq Hi.one
    have o6 : (FloatKind.f64.format.order i4 0 == some .eq) = true := I4.eq Hi.zero
    clear hs n1 n2 p1 p2 q1 q2 q3 q4 H1 H2 G1 G2 M2 M3 M4 R2 R3 R4 I2 I3 I4 RD hj bx by'
    go_enter Try.func4, Try.ntmps4
    go_wp2_with fail
    refine (T1.out _).mono ?_
    rintro r w1 ⟨rfl, rfl⟩
    go_wp2_with fail
    refine (T4.out _).mono ?_
    rintro r w2 ⟨rfl, b2'⟩
    have B2 := Ba.hide b2'
    clear b2'
    go_wp2_with fail
    refine (WH.out _).mono ?_
    rintro r w3 ⟨rfl, b3⟩
    have B3 := Ba.hide (Ba.btr B2.out b3)
    clear b3
    go_wp2_with fail
    refine (T2.out _).mono ?_
    rintro r w4 ⟨rfl, rfl⟩
    go_wp2_with fail
    refine (T3.out _).mono ?_
    rintro r w4 ⟨rfl, rfl⟩
    go_wp2_with fail
    refine (two_any _).mono ?_
    rintro r w5 ⟨rfl, b5⟩
    have B5 := Ba.hide (Ba.btr B3.out b5)
    clear b5
    go_wp2_with fail
    go_ret
    exact ⟨rfl, B5.out⟩

/-! ### the row -/
set_option maxRecDepth 100000 in
theorem lifted (os : Os) (started : os.Started) (H : Type) (enc : TypeId × Value → H) :
    ReturnsInHanded {} Try.checked os 4 .any (Rows.walkTurnsSpec.pre6 enc Try.prog Try.f4 Rows.walkTurnsRow.domain false) (Rows.walkTurnsSpec.post enc Try.prog Try.f4 false true false false) := by
  refine returnsInHanded_of_change (C := Try.checked) own started (by kernel_rfl) Try.func4
    (ChangeSpec.witness6 (enc := enc) (C := Try.checked) false ⟨#[], #[.int .i64 0], []⟩ 8 (by kernel_rfl) (by kernel_rfl) (by kernel_rfl) (by kernel_rfl)) ?_
  intro W base args ds gs before hval0 hW hcnd _
  have hval : ∀ (j : Nat) t v, Try.f4.params[j]? = some t → args[j]? = some v → Value.okWide Try.prog W .any base t v := hval0
  have hW' := hW
  obtain ⟨p, q, hA0, hV, rfl, hfz, hnd⟩ := hW
  have hA : DataW.TrodAll enc Try.prog W 0 (fun _ => true) true Try.f4.params.toList args.toList ds p := hA0
  rw [Try.params4] at hA hval
  obtain ⟨v0, vs0, d0, ds0, p0, q0, hargs, rfl, rfl, h0, r0⟩ := trodAll_cons hA
  obtain ⟨rfl, rfl, rfl⟩ := trodAll_nil r0
  obtain rfl : args = #[v0] := by cases args; simp_all
  obtain ⟨rfl, rfl⟩ := trodVars_none hV
  obtain ⟨a0, rfl, rfl, rfl, w0⟩ := open_int Try.underlying3 (hval 0 3 v0 rfl rfl) h0
  clear hA0 hval0
  refine (core (w := W) a0).mono fun e W' ⟨he, bel⟩ => ?_
  subst he
  exact ⟨_, rfl, _, _, _, [], _, [], hW', trodAll_mk1 (shut_bool Try.underlying4 _), (trodAll_cons_mk (shut_int Try.underlying3 w0) trodAll_mk0), rfl, bel.frame _, fun h => by cases h⟩

theorem over : Rows.walkTurnsRow.holds Try.pinned (OpenSpec.ofChange Rows.walkTurnsSpec) :=
  OpenClaim.holds_of_wide 4 Try.f4 rfl rfl rfl rfl rfl rfl rfl ⟨rfl, rfl, rfl, rfl, rfl⟩ rfl rfl rfl rfl rfl (by kernel_rfl) Try.func4 (by kernel_rfl)
    (of_decide_eq_true (by kernel_rfl)) (by unfold Func.isWrapper; first | (rw [if_pos (by decide +kernel)]; kernel_rfl) | (rw [if_neg (by decide +kernel)]; exact ⟨rfl, rfl⟩))
    (fun os started H enc _ => lifted os started H enc)

/-- the statement -/
theorem proved : Rows.WalkTurnsSaid := over
#print axioms proved
end Go.Proofs.Ytgmkknaagbjcmaa.walkTurns
