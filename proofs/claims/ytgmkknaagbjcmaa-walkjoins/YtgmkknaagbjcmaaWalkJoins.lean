/- The path of two traces, one behind the other, is the first one s, then the second one s, turned and moved to where the first ends, for every two lists of events. -/
import Derived.Test.YtgmkknaagbjcmaaFwc
import Derived.Test.YtgmkknaagbjcmaaBo
import Derived.ShutString
import Derived.ChangeOld
import Derived.Below
namespace Go.Proofs.Ytgmkknaagbjcmaa.walkJoins
open Go.ChangeShapes Go.WideShapes Go.ChangeAt Go.RowKit
open Go.ChangeMaps (open_string shut_string)
open Fw Fl

theorem own : ownKnob Try.prog.godebug = none := by kernel_rfl
theorem laidOut : laidOutB Try.prog = true := by kernel_rfl

set_option maxRecDepth 100000 in
set_option maxHeartbeats 1600000 in
theorem big {w : World} (oa ob : Option Addr) (n m c d : Nat) (hn : n ≤ maxLen) (hm : m ≤ maxLen) (h : 500 < n ∨ 500 < m) :
    Calls Try.prog 6 #[.slice oa n c, .slice ob m d] w fun e w' => e = .returned (.bool true) ∧ Below w.heap.size w w' := by
  unfold maxLen at hn hm
  have TH := Ba.hide (two_any w)
  by_cases h1 : 500 < n
  · have d1 : decide ((500 : Int) < (n : Int)) = true := by simp; omega
    have d2 : decide (500 < n) = true := by simp; omega
    go_enter Try.func6, Try.ntmps6
    go_wp2_with fail
    refine TH.out.mono ?_
    rintro r w1 ⟨rfl, b1⟩
    have B1 := Ba.hide b1
    clear b1
    go_wp2_with fail
    go_ret
    exact ⟨rfl, B1.out⟩
  · have d1 : decide ((500 : Int) < (n : Int)) = false := by simp; omega
    have d2 : decide (500 < n) = false := by simp; omega
    have d3 : decide ((500 : Int) < (m : Int)) = true := by simp; omega
    have d4 : decide (500 < m) = true := by simp; omega
    clear h
    go_enter Try.func6, Try.ntmps6
    go_wp2_with fail
    refine TH.out.mono ?_
    rintro r w1 ⟨rfl, b1⟩
    have B1 := Ba.hide b1
    clear b1
    go_wp2_with fail
    go_ret
    exact ⟨rfl, B1.out⟩
set_option maxRecDepth 100000 in
set_option maxHeartbeats 12800000 in
theorem core {w : World} (oa : Option Addr) (a : List Ev) (c : Nat) (hA : EsAt w oa a) (hm : a.length ≤ maxLen) (ob : Option Addr) (b : List Ev) (d : Nat) (hB : EsAt w ob b) (hm2 : b.length ≤ maxLen) :
    Calls Try.prog 6 #[.slice oa a.length c, .slice ob b.length d] w fun e w' => e = .returned (.bool true) ∧ Below w.heap.size w w' := by
  by_cases hb : 500 < a.length ∨ 500 < b.length
  · exact big oa ob a.length b.length c d hm hm2 hb
  have HA := Ba.hide hA
  have HB := Ba.hide hB
  obtain ⟨v1, x1, w1, ap1, ow1, b1⟩ := app_es (m := []) (World.ownsRow_nil w w.heap.size 54 8) oa a c hA (Nat.zero_le _) (by omega) (Nat.le_refl _)
  obtain ⟨v2, x2, w2, ap2, ow2, b2⟩ := app_es ow1 ob b d (hB.below b1) (by simp; omega) (by omega) b1.size
  rw [List.nil_append] at ap1 ap2 ow2
  obtain ⟨oc, y2, e2, ES⟩ := own_es ow2
  simp only [Value.slice.injEq, true_and] at e2
  obtain ⟨rfl, rfl⟩ := e2
  have B2 : Hid (Below w.heap.size w w2) := b1.trans b2
  have P1 := Ba.hide (path_any oa a c w2 (hA.below B2.out) (by omega))
  have P2 := Ba.hide (fun u (h : Below w2.heap.size w2 u) => path_any ob b d u ((hB.below B2.out).below h) (by omega))
  have P3 := Ba.hide (fun u (h : Below w2.heap.size w2 u) => path_any v2 (a ++ b) x2 u (ES.below h) (by simp; omega))
  have P4 := Ba.hide (fun u (h : Below w2.heap.size w2 u) => end_any oa a c u ((hA.below B2.out).below h) (by omega))
  have PLL := Ba.hide (fun i (h : i ≤ a.length) => pl_left a b i h)
  have PLR := Ba.hide (fun i => pl_right a b i)
  have TD := Ba.hide (tw_hi (stI a).2.2)
  have BA := Ba.hide (st_bd a a.length (Nat.le_refl _))
  rw [List.take_length] at BA
  have BB := Ba.hide (fun i (h : i ≤ b.length) => st_bd b i h)
  unfold PaR at P1 P2 P3
  unfold EnR at P4
  rw [List.length_append] at ap2 P3
  obtain ⟨A, hAe⟩ : ∃ A, a.length = A := ⟨_, rfl⟩
  obtain ⟨B, hBe⟩ : ∃ B, b.length = B := ⟨_, rfl⟩
  rw [hAe] at ap1 ap2 P1 P3 P4 PLL PLR BA hb ⊢
  rw [hBe] at ap2 P2 P3 BB hb ⊢
  have hA5 : A ≤ 500 := by omega
  have hB5 : B ≤ 500 := by omega
  clear hA hB hm hm2 hb ow1 ow2 ES b1 b2 hAe hBe
  obtain ⟨P, hP⟩ : ∃ P, A + 1 = P := ⟨_, rfl⟩
  obtain ⟨Q, hQ⟩ : ∃ Q, B + 1 = Q := ⟨_, rfl⟩
  obtain ⟨R, hR⟩ : ∃ R, A + B + 1 = R := ⟨_, rfl⟩
  rw [hP] at P1
  rw [hQ] at P2
  rw [hR] at P3
  have l1 : (P : Int) + (Q : Int) - 1 = (R : Int) := by omega
  have l2 : (P : Int) - 1 = (A : Int) := by omega
  have l3 : ((R : Int) != (R : Int)) = false := by simp
  have d1 : decide ((500 : Int) < (A : Int)) = false := by simp; omega
  have d2 : decide (500 < A) = false := by simp; omega
  have d3 : decide ((500 : Int) < (B : Int)) = false := by simp; omega
  have d4 : decide (500 < B) = false := by simp; omega
  have hP5 : P ≤ 501 := by omega
  have hQ5 : Q ≤ 501 := by omega
  have hR5 : R ≤ 1001 := by omega
  have hPA := Ba.hide hP
  have hQB := Ba.hide hQ
  have hRAB := Ba.hide hR
  clear hP hQ hR
  go_enter Try.func6, Try.ntmps6
  go_wp2_with (at_builtin; first | refine wpL_app rfl _ _ 22 22 rfl _ _ rfl rfl _ _ ap1 ?_ | refine wpL_app rfl _ _ 22 22 rfl _ _ rfl rfl _ _ ap2 ?_)
  clear ap1 ap2
  refine P1.out.mono ?_
  rintro r w3 ⟨pa, pc, rfl, -, z1, b3⟩
  have B3 := Ba.hide b3
  have Z1 := Ba.hide z1
  clear z1 b3 P1
  go_wp2_with fail
  refine (P2.out _ B3.out).mono ?_
  rintro r w4 ⟨qa, qc, rfl, -, z2, b4⟩
  have B4 := Ba.hide (Ba.btr B3.out b4)
  have Z1' := Ba.hide (Z1.out.below b4)
  have Z2 := Ba.hide z2
  clear z2 b4 P2 B3 Z1
  go_wp2_with fail
  refine (P3.out _ B4.out).mono ?_
  rintro r w5 ⟨ra, rc, rfl, -, z3, b5⟩
  have B5 := Ba.hide (Ba.btr B4.out b5)
  have Z1 := Ba.hide (Z1'.out.below b5)
  have Z2' := Ba.hide (Z2.out.below b5)
  have Z3 := Ba.hide z3
  clear z3 b5 P3 B4 Z1' Z2
  go_wp2_with fail
  refine (P4.out _ B5.out).mono ?_
  rintro r w6 ⟨za, zb, rfl, h1, h2, b6⟩
  have B6 := Ba.hide (Ba.btr B2.out (Ba.btr B5.out b6))
  have Z1' := Ba.hide (Z1.out.below b6)
  have Z2 := Ba.hide (Z2'.out.below b6)
  have Z3' := Ba.hide (Z3.out.below b6)
  have H1 := Ba.hide h1
  have H2 := Ba.hide h2
  clear b6 P4 B5 B2 Z1 Z2' Z3 h1 h2
  obtain ⟨D1, hD1⟩ : ∃ D, (tw (stI a).2.2).1 = D := ⟨_, rfl⟩
  obtain ⟨D2, hD2⟩ : ∃ D, (tw (stI a).2.2).2 = D := ⟨_, rfl⟩
  rw [hD1, hD2] at TD ⊢
  clear hD1 hD2
  go_wp2_with fail
  go_loopw [80] (fun i wr => ∃ k : Nat, k ≤ P ∧ i = .int .i64 (k : Int) ∧ ∃ q, wr = w6.drewN q) (fun i _ => P - (intOf i).toNat)
  case atStart => exact ⟨0, Nat.zero_le _, rfl, 0, rfl⟩
  case round =>
    obtain ⟨k, hk, rfl, q, rfl⟩ := hrel
    by_cases hlt : k < P
    · have hlt' : (k : Int) < (P : Int) := by omega
      have hlr : (k : Int) < (R : Int) := by have := hPA.out; have := hRAB.out; omega
      have hlr2 : k < R := by omega
      obtain ⟨b1, o1, p, p', rfl, c1, u1, u2⟩ := Z1'.out k hlt
      obtain ⟨b3, o3, s, s', rfl, c3, u3, u4⟩ := Z3'.out k hlr2
      rw [PLL.out k (by have := hPA.out; omega)] at u3 u4
      have e1 : (FloatKind.f64.format.order s p == some .eq) = true := (u3.eq u1).trans (by simp)
      have e2 : (FloatKind.f64.format.order s' p' == some .eq) = true := (u4.eq u2).trans (by simp)
      clear u1 u2 u3 u4
      go_wp2_with fail
      go_quiet (fail)
      go_wp2_with fail
      go_roundw
      case rel => exact ⟨k + 1, by omega, by go_num, by first | exact ⟨_, rfl⟩ | (rw [World.drewN_drewN]; exact ⟨_, rfl⟩)⟩
      case measure => simp [intOf]; omega
    · have hlt' : ¬ ((k : Int) < (P : Int)) := by omega
      go_wp2_with fail
      go_loopw [95] (fun i wr => ∃ k : Nat, k ≤ Q ∧ i = .int .i64 (k : Int) ∧ ∃ q, wr = w6.drewN q) (fun i _ => Q - (intOf i).toNat)
      case atStart => exact ⟨0, Nat.zero_le _, rfl, q, rfl⟩
      case round =>
        clear hlt hlt' hk
        obtain ⟨j, hj, rfl, z, rfl⟩ := hrel
        by_cases hjq : j < Q
        · have hjq' : (j : Int) < (Q : Int) := by omega
          have hjr : (A : Int) + (j : Int) < (R : Int) := by have := hQB.out; have := hRAB.out; omega
          have hjr2 : A + j < R := by omega
          have hj0 : (0 : Int) ≤ (A : Int) + (j : Int) := by omega
          obtain ⟨b2, o2, p, p', rfl, c2, u1, u2⟩ := Z2.out j hjq
          obtain ⟨b3, o3, s, s', rfl, c3, u3, u4⟩ := Z3'.out (A + j) hjr2
          rw [PLR.out j] at u3 u4
          have bj := BB.out j (by have := hQB.out; omega)
          have ba := BA.out
          have t1 := dx_bd (stI a).2.2
          have t2 := dy_bd (stI a).2.2
          have hp1 : (pl b j).1 = (stI (b.take j)).1 := rfl
          have hp2 : (pl b j).2 = (stI (b.take j)).2.1 := rfl
          obtain ⟨re, im, M1, M2, M3⟩ := cmul TD.out.1 TD.out.2 u1 u2 (by omega) (by omega) (by omega) (by omega)
          have n1 := mul_bd (x := dx (stI a).2.2) (y := (pl b j).1) (by omega) (by omega)
          have n2 := mul_bd (x := dy (stI a).2.2) (y := (pl b j).2) (by omega) (by omega)
          have n3 := mul_bd (x := dx (stI a).2.2) (y := (pl b j).2) (by omega) (by omega)
          have n4 := mul_bd (x := dy (stI a).2.2) (y := (pl b j).1) (by omega) (by omega)
          obtain ⟨re2, im2, A1, A2, A3⟩ := cadd H1.out H2.out M2 M3 (by omega) (by omega)
          have MUL : ∀ u, (binOp .mul 28 (.complex .f64 D1 D2) (.complex .f64 p p')).run Try.prog u = .ok (.complex .f64 re im) u := fun u => run_complex_mul u _ _ _ _ _ _ _ M1
          have ADD : ∀ u, (binOp .add 28 (.complex .f64 za zb) (.complex .f64 re im)).run Try.prog u = .ok (.complex .f64 re2 im2) u := fun u => run_complex_sum u .add (.inl rfl) _ _ _ _ _ _ _ _ A1
          have e1 : (FloatKind.f64.format.order s re2 == some .eq) = true := (u3.eq A2).trans (by simp)
          have e2 : (FloatKind.f64.format.order s' im2 == some .eq) = true := (u4.eq A3).trans (by simp)
          clear u1 u2 u3 u4 bj ba t1 t2 hp1 hp2 M1 M2 M3 n1 n2 n3 n4 A1 A2 A3
          go_wp2_with fail
          go_quiet (fail)
          go_wp2_with fail
          go_roundw
          case rel => exact ⟨j + 1, by omega, by go_num, by first | exact ⟨_, rfl⟩ | (rw [World.drewN_drewN]; exact ⟨_, rfl⟩)⟩
          case measure => simp [intOf]; omega
        · have hjq' : ¬ ((j : Int) < (Q : Int)) := by omega
          go_wp2_with fail
          refine (two_any _).mono ?_
          rintro r w7 ⟨rfl, b7⟩
          have B7 := Ba.hide (Ba.btr (Ba.btr B6.out (Ba.bdrew _ _)) b7)
          clear b7
          go_wp2_with fail
          go_ret
          exact ⟨rfl, B7.out⟩

/-! ### the row -/
set_option maxRecDepth 100000 in
theorem lifted (os : Os) (started : os.Started) (H : Type) (enc : TypeId × Value → H) :
    ReturnsInHanded {} Try.checked os 6 .any (Rows.walkJoinsSpec.pre6 enc Try.prog Try.f6 Rows.walkJoinsRow.domain false) (Rows.walkJoinsSpec.post enc Try.prog Try.f6 false true false false) := by
  refine returnsInHanded_of_change (C := Try.checked) own started (by kernel_rfl) Try.func6
    (ChangeSpec.witness6 (enc := enc) (C := Try.checked) false ⟨#[], #[.slice none 0 0, .slice none 0 0], []⟩ 8 (by kernel_rfl) (by kernel_rfl) (by kernel_rfl) (by kernel_rfl)) ?_
  intro W base args ds gs before hval0 hW hcnd _
  have hval : ∀ (j : Nat) t v, Try.f6.params[j]? = some t → args[j]? = some v → Value.okWide Try.prog W .any base t v := hval0
  have hW' := hW
  obtain ⟨p, q, hA0, hV, rfl, hfz, hnd⟩ := hW
  have hA : DataW.TrodAll enc Try.prog W 0 (fun _ => true) true Try.f6.params.toList args.toList ds p := hA0
  rw [Try.params6] at hA hval
  obtain ⟨v0, vs0, d0, ds0, p0, q0, hargs, rfl, rfl, h0, r0⟩ := trodAll_cons hA
  obtain ⟨v1, vs1, d1, ds1, p1, q1, rfl, rfl, rfl, h1, r1⟩ := trodAll_cons r0
  obtain ⟨rfl, rfl, rfl⟩ := trodAll_nil r1
  obtain rfl : args = #[v0, v1] := by cases args; simp_all
  obtain ⟨rfl, rfl⟩ := trodVars_none hV
  obtain ⟨oa0, n0, c0, rfl⟩ := okWide_slice Try.underlying22 (hval 0 22 v0 rfl rfl)
  have k0 := h0
  have lt0 : ∀ x ∈ p0, x.block < W.heap.size := by obtain ⟨m, hm⟩ := k0; exact DataW.trod_lt m _ _ _ hm
  obtain ⟨l0, rfl, A0, C0, M0⟩ := h0.elim fun _ hf => events_open hf
  obtain ⟨oa1, n1, c1, rfl⟩ := okWide_slice Try.underlying22 (hval 1 22 v1 rfl rfl)
  have k1 := h1
  have lt1 : ∀ x ∈ p1, x.block < W.heap.size := by obtain ⟨m, hm⟩ := k1; exact DataW.trod_lt m _ _ _ hm
  obtain ⟨l1, rfl, A1, C1, M1⟩ := h1.elim fun _ hf => events_open hf
  clear hA0 hval0
  refine (core (w := W) oa0 l0 c0 A0 (Nat.le_trans C0 M0) oa1 l1 c1 A1 (Nat.le_trans C1 M1)).mono fun e W' ⟨he, bel⟩ => ?_
  subst he
  exact ⟨_, rfl, _, _, _, [], _, [], hW', trodAll_mk1 (shut_bool Try.underlying4 _), (trodAll_cons_mk (Below.trod laidOut (by kernel_rfl) (of_decide_eq_true (by kernel_rfl)) k0 bel lt0) (trodAll_cons_mk (Below.trod laidOut (by kernel_rfl) (of_decide_eq_true (by kernel_rfl)) k1 bel lt1) trodAll_mk0)), rfl, bel.frame _, fun h => by cases h⟩

theorem over : Rows.walkJoinsRow.holds Try.pinned (OpenSpec.ofChange Rows.walkJoinsSpec) :=
  OpenClaim.holds_of_wide 6 Try.f6 rfl rfl rfl rfl rfl rfl rfl ⟨rfl, rfl, rfl, rfl, rfl⟩ rfl rfl rfl rfl rfl (by kernel_rfl) Try.func6 (by kernel_rfl)
    (of_decide_eq_true (by kernel_rfl)) (by unfold Func.isWrapper; first | (rw [if_pos (by decide +kernel)]; kernel_rfl) | (rw [if_neg (by decide +kernel)]; exact ⟨rfl, rfl⟩))
    (fun os started H enc _ => lifted os started H enc)

/-- the statement -/
theorem proved : Rows.WalkJoinsSaid := over
#print axioms proved
end Go.Proofs.Ytgmkknaagbjcmaa.walkJoins
