/- For every number, the law CrewFull returns true, so just 512 goroutines are there at most: under no condition. -/
import Derived.Test.YtgpmefbmbfbjcaaMh
import Derived.ShutString
import Derived.ChangeOld
import Derived.Below
namespace Go.Proofs.Ytgpmefbmbfbjcaa.crewFull
open Go.ChangeShapes Go.WideShapes Go.ChangeAt Go.RowKit
open Go.ChangeMaps (open_string shut_string)
open Cr Ba

theorem own : ownKnob Try.prog.godebug = none := by kernel_rfl
theorem laidOut : laidOutB Try.prog = true := by kernel_rfl

set_option maxRecDepth 100000 in
set_option maxHeartbeats 3200000 in
theorem core {w : World} (more : Int) :
    Calls Try.prog 5 #[.int .i64 more] w fun r w' => r = .returned (.bool true) ∧ Below w.heap.size w w' := by
  by_cases hm : more < 0 ∨ 20 < more
  · by_cases h1 : more < 0
    · have d1 : decide (more < 0) = true := decide_eq_true h1
      clear hm
      go_enter Try.func5, Try.ntmps5
      go_wp2_with fail
      refine (new_any _).mono ?_
      rintro r w1 ⟨rfl, -, b1⟩
      have B1 := hide b1
      clear b1
      go_wp2_with fail
      refine (two_any _).mono ?_
      rintro r w2 ⟨rfl, b2⟩
      have B2 := hide (btr B1.out b2)
      clear b2
      go_wp2_with fail
      go_ret
      exact ⟨rfl, B2.out⟩
    · have d1 : decide (more < 0) = false := decide_eq_false h1
      have d2 : decide (20 < more) = true := decide_eq_true (by omega)
      clear hm
      go_enter Try.func5, Try.ntmps5
      go_wp2_with fail
      refine (new_any _).mono ?_
      rintro r w1 ⟨rfl, -, b1⟩
      have B1 := hide b1
      clear b1
      go_wp2_with fail
      refine (two_any _).mono ?_
      rintro r w2 ⟨rfl, b2⟩
      have B2 := hide (btr B1.out b2)
      clear b2
      go_wp2_with fail
      go_ret
      exact ⟨rfl, B2.out⟩
  obtain ⟨m, rfl⟩ := Int.eq_ofNat_of_zero_le (show 0 ≤ more by omega)
  have hm20 : m ≤ 20 := by omega
  have d1 : decide ((m : Int) < 0) = false := decide_eq_false (by omega)
  have d2 : decide (20 < (m : Int)) = false := decide_eq_false (by omega)
  clear hm
  go_enter Try.func5, Try.ntmps5
  go_wp2_with fail
  refine (new_any _).mono ?_
  rintro r w1 ⟨rfl, p1, b1⟩
  have L1 : Hid (Lv w w1 w.heap.size _ []) := ⟨p1, b1, fun x e => Nat.le_of_eq (Eq.symm e)⟩
  clear p1 b1
  generalize w.heap.size = B at L1 ⊢
  go_wp2_with fail
  go_loopw [4] (fun i wr => ∃ (l : List Mb) (F : Nat → Prop), i = .int .i64 l.length ∧ l.length ≤ 512 ∧ Az l ∧ Lv w wr B F l) (fun i _ => 512 - (intOf i).toNat)
  case atStart => exact ⟨[], _, rfl, by simp, fun x hx => by simp at hx, L1.out⟩
  case round =>
    clear L1
    obtain ⟨l, F, rfl, hl, az, l2⟩ := hrel
    have AZ := hide az
    have L2 := hide l2
    clear az l2
    by_cases hlt : l.length < 512
    · have hlt' : (l.length : Int) < 512 := by omega
      have hq : ((l.length : Int).tmod 8) = ((l.length % 8 : Nat) : Int) := by rw [Int.tmod_eq_emod_of_nonneg (by omega)]; omega
      obtain ⟨e1, e2, e3⟩ := sp_ok (l := l) (p := ((l.length % 8 : Nat) : Int)) (by omega) hlt
      have SP := hide (spawn_any B F l ((l.length % 8 : Nat) : Int) wr L2.out.p)
      rw [e1, e2, e3] at SP
      have AZ2 := hide (AZ.out.app ((l.length % 8 : Nat) : Int))
      have hlen : (l ++ [Mb.mk ((l.length % 8 : Nat) : Int) 0 0]).length = l.length + 1 := by simp
      have HLEN := hide hlen
      clear e1 e2 e3 hlen
      generalize l ++ [Mb.mk ((l.length % 8 : Nat) : Int) 0 0] = l' at SP AZ2 HLEN
      generalize l.length % 8 = q at hq SP
      go_wp2_with fail
      refine SP.out.mono ?_
      rintro r w3 ⟨rfl, q3⟩
      obtain ⟨F3, l3⟩ := L2.out.step q3
      have L3 := hide l3
      clear l3 q3 SP
      go_wp2_with fail
      go_roundw
      case rel => exact ⟨l', F3, by rw [HLEN.out]; go_num, by rw [HLEN.out]; omega, AZ2.out, L3.out⟩
      case measure => simp [intOf]; omega
    · have hlt' : ¬ ((l.length : Int) < 512) := by omega
      have HL : Hid (l.length = 512) := by show _ = _; omega
      obtain ⟨e1, e2, e3⟩ := sp_full HL.out
      have SPF : Hid (∀ F u, PC u B F l → Calls Try.prog 20 #[.pointer (some ⟨B, 0, none⟩), .int .i64 0] u fun r w' => r = .returned (.tuple #[.int .i64 0, .int .i64 5]) ∧ Po 52 59 u w' B F l) := by
        intro F u hu
        have q := spawn_any B F l 0 u hu
        rw [e1, e2, e3] at q
        exact q
      clear e1 e2 e3
      go_wp2_with fail
      go_loopw [7] (fun i wr => ∃ (k : Nat) (F : Nat → Prop), i = .int .i64 k ∧ k ≤ m ∧ Lv w wr B F l) (fun i _ => m - (intOf i).toNat)
      case atStart => exact ⟨0, F, rfl, Nat.zero_le _, L2.out⟩
      case round =>
        clear L2
        obtain ⟨k, F4, rfl, hk, l4⟩ := hrel
        have L4 := hide l4
        clear l4
        by_cases hkm : k < m
        · have hkm' : (k : Int) < (m : Int) := by omega
          go_wp2_with fail
          refine (SPF.out F4 _ L4.out.p).mono ?_
          rintro r w5 ⟨rfl, q5⟩
          obtain ⟨F5, l5⟩ := L4.out.step q5
          have L5 := hide l5
          clear l5 q5
          go_wp2_with fail
          go_roundw
          case rel => exact ⟨k + 1, F5, by go_num, by omega, L5.out⟩
          case measure => simp [intOf]; omega
        · have hkm' : ¬ ((k : Int) < (m : Int)) := by omega
          have LN := hide fun u (hu : PC u B F4 l) => len_any B F4 l u hu
          have AB := hide fun u (hu : PC u B F4 l) => able_any B F4 l u hu
          have hal : (abl l).length = 512 := (ablF_all 0 l AZ.out).trans HL.out
          rw [hal] at AB
          rw [HL.out] at LN
          rw [show (((512 : Nat) : Int)) = 512 from rfl] at LN
          clear hal hl hlt hlt'
          go_wp2_with fail
          refine (LN.out _ L4.out.p).mono ?_
          rintro r w5 ⟨rfl, rfl⟩
          go_wp2_with fail
          refine (AB.out _ L4.out.p).mono ?_
          rintro r w6 ⟨ob, d, rfl, -, b6⟩
          have B6 := hide (btr L4.out.b b6)
          clear b6
          go_wp2_with fail
          refine (two_any _).mono ?_
          rintro r w7 ⟨rfl, b7⟩
          have B7 := hide (btr B6.out b7)
          clear b7
          go_wp2_with fail
          go_ret
          exact ⟨rfl, B7.out⟩

/-! ### the row -/
set_option maxRecDepth 100000 in
theorem lifted (os : Os) (started : os.Started) (H : Type) (enc : TypeId × Value → H) :
    ReturnsInHanded {} Try.checked os 5 .any (Rows.crewFullSpec.pre6 enc Try.prog Try.f5 Rows.crewFullRow.domain false) (Rows.crewFullSpec.post enc Try.prog Try.f5 false true false false) := by
  refine returnsInHanded_of_change (C := Try.checked) own started (by kernel_rfl) Try.func5
    (ChangeSpec.witness6 (enc := enc) (C := Try.checked) false ⟨#[], #[.int .i64 0], []⟩ 8 (by kernel_rfl) (by kernel_rfl) (by kernel_rfl) (by kernel_rfl)) ?_
  intro W base args ds gs before hval0 hW hcnd _
  have hval : ∀ (j : Nat) t v, Try.f5.params[j]? = some t → args[j]? = some v → Value.okWide Try.prog W .any base t v := hval0
  have hW' := hW
  obtain ⟨p, q, hA0, hV, rfl, hfz, hnd⟩ := hW
  have hA : DataW.TrodAll enc Try.prog W 0 (fun _ => true) true Try.f5.params.toList args.toList ds p := hA0
  rw [Try.params5] at hA hval
  obtain ⟨v0, vs0, d0, ds0, p0, q0, hargs, rfl, rfl, h0, r0⟩ := trodAll_cons hA
  obtain ⟨rfl, rfl, rfl⟩ := trodAll_nil r0
  obtain rfl : args = #[v0] := by cases args; simp_all
  obtain ⟨rfl, rfl⟩ := trodVars_none hV
  obtain ⟨a0, rfl, rfl, rfl, w0⟩ := open_int Try.underlying3 (hval 0 3 v0 rfl rfl) h0
  clear hA0 hval0
  refine (core (w := W) a0).mono fun e W' ⟨he, bel⟩ => ?_
  subst he
  exact ⟨_, rfl, _, _, _, [], _, [], hW', trodAll_mk1 (shut_bool Try.underlying4 _), (trodAll_cons_mk (shut_int Try.underlying3 w0) trodAll_mk0), rfl, bel.frame _, fun h => by cases h⟩

theorem over : Rows.crewFullRow.holds Try.pinned (OpenSpec.ofChange Rows.crewFullSpec) :=
  OpenClaim.holds_of_wide 5 Try.f5 rfl rfl rfl rfl rfl rfl rfl ⟨rfl, rfl, rfl, rfl, rfl⟩ rfl rfl rfl rfl rfl (by kernel_rfl) Try.func5 (by kernel_rfl)
    (of_decide_eq_true (by kernel_rfl)) (by unfold Func.isWrapper; first | (rw [if_pos (by decide +kernel)]; kernel_rfl) | (rw [if_neg (by decide +kernel)]; exact ⟨rfl, rfl⟩))
    (fun os started H enc _ => lifted os started H enc)

/-- the statement -/
theorem proved : Rows.CrewFullSaid := over
#print axioms proved
end Go.Proofs.Ytgpmefbmbfbjcaa.crewFull
