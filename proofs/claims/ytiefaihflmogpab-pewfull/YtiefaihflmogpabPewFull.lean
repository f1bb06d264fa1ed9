/- For every number, the law PewFull returns true, so just 1024 wait at most: under no condition. -/
import Derived.Test.YtiefaihflmogpabVe
import Derived.ShutString
import Derived.ChangeOld
import Derived.Below
namespace Go.Proofs.Ytiefaihflmogpab.pewFull
open Go.ChangeShapes Go.WideShapes Go.ChangeAt Go.RowKit
open Go.ChangeMaps (open_string shut_string)
open Pe Ba

theorem own : ownKnob Try.prog.godebug = none := by kernel_rfl
theorem laidOut : laidOutB Try.prog = true := by kernel_rfl

/-- the waiters from 0 to k -/
def up (k : Nat) : List Wt := (List.range k).map fun (i : Nat) => (⟨(i : Int), 0, 0⟩ : Wt)
theorem up_len (k : Nat) : (up k).length = k := by simp [up]
theorem up_add (k : Nat) : up k ++ [⟨(k : Int), 0, 0⟩] = up (k + 1) := by simp [up, List.range_succ]
theorem up_drop : (dr 7 (up 1024)).length = 1023 := by decide +kernel

set_option maxRecDepth 100000 in
set_option maxHeartbeats 1600000 in
theorem core {w : World} (more : Int) :
    Calls Try.prog 6 #[.int .i64 more] w fun r w' => r = .returned (.bool true) ∧ Below w.heap.size w w' := by
  by_cases hm : more < 0 ∨ 20 < more
  · by_cases h1 : more < 0
    · have d1 : decide (more < 0) = true := decide_eq_true h1
      clear hm
      go_enter Try.func6, Try.ntmps6
      go_wp2_with fail
      refine (new_any _).mono ?_
      rintro r w1 ⟨rfl, _, b1⟩
      have B1 := hide b1
      clear b1
      go_wp2_with fail
      refine (three_any _).mono ?_
      rintro r w6 ⟨rfl, b6⟩
      have B6 := hide (btr B1.out b6)
      clear b6
      go_wp2_with fail
      go_ret
      exact ⟨rfl, B6.out⟩
    · have d1 : decide (more < 0) = false := decide_eq_false h1
      have d2 : decide (20 < more) = true := decide_eq_true (by omega)
      clear hm
      go_enter Try.func6, Try.ntmps6
      go_wp2_with fail
      refine (new_any _).mono ?_
      rintro r w1 ⟨rfl, _, b1⟩
      have B1 := hide b1
      clear b1
      go_wp2_with fail
      refine (three_any _).mono ?_
      rintro r w6 ⟨rfl, b6⟩
      have B6 := hide (btr B1.out b6)
      clear b6
      go_wp2_with fail
      go_ret
      exact ⟨rfl, B6.out⟩
  obtain ⟨n, rfl⟩ := Int.eq_ofNat_of_zero_le (show 0 ≤ more by omega)
  have hn : n ≤ 20 := by omega
  have d1 : decide ((n : Int) < 0) = false := decide_eq_false (by omega)
  have d2 : decide (20 < (n : Int)) = false := decide_eq_false (by omega)
  clear hm
  go_enter Try.func6, Try.ntmps6
  go_wp2_with fail
  refine (new_any _).mono ?_
  rintro r w1 ⟨rfl, p1, b1⟩
  have P1 := hide p1
  have B1 := hide b1
  clear p1 b1
  go_wp2_with fail
  go_loopw [4] (fun i wr => ∃ (k : Nat), k ≤ 1024 ∧ i = .int .i64 k ∧ Pw wr w.heap.size (up k) ∧ Below w.heap.size w wr) (fun i _ => 1024 - (intOf i).toNat)
  case atStart => exact ⟨0, by decide, rfl, P1.out, B1.out⟩
  case round =>
    clear P1 B1
    obtain ⟨k, hk, rfl, p2, b2⟩ := hrel
    have P2 := hide p2
    have B2 := hide b2
    clear p2 b2
    by_cases hlt : k < 1024
    · have hlt' : (k : Int) < 1024 := by omega
      go_wp2_with fail
      refine (add_ok _ (up k) ⟨(k : Int), 0, 0⟩ _ (by simp) P2.out (by rw [up_len]; exact hlt)).mono ?_
      rintro r w3 ⟨rfl, p3, f3⟩
      rw [up_add] at p3
      have P3 := hide p3
      have B3 := hide (f3.under B2.out (Nat.le_refl _))
      clear p3 f3
      go_wp2_with fail
      go_roundw
      case rel => exact ⟨k + 1, by omega, by go_num, P3.out, B3.out⟩
      case measure => simp [intOf]; omega
    · have hlt' : ¬ ((k : Int) < 1024) := by omega
      obtain rfl : k = 1024 := by omega
      go_wp2_with fail
      rename World => w0
      go_loopw [5] (fun i wr => ∃ (k : Nat), k ≤ n ∧ i = .int .i64 k ∧ Pw wr w.heap.size (up 1024) ∧ Below w.heap.size w wr) (fun i _ => n - (intOf i).toNat)
      case atStart => exact ⟨0, Nat.zero_le _, rfl, P2.out, B2.out⟩
      case round =>
        clear P2 B2
        obtain ⟨k, hk, rfl, p2, b2⟩ := hrel
        have P2 := hide p2
        have B2 := hide b2
        clear p2 b2
        by_cases hlt : k < n
        · have hlt' : (k : Int) < (n : Int) := by omega
          go_wp2_with fail
          refine (add_full _ (up 1024) ⟨(k : Int), 0, 0⟩ _ (by simp) P2.out (up_len _)).mono ?_
          rintro r w3 ⟨rfl, b3⟩
          have P3 := hide (P2.out.below b3)
          have B3 := hide (btr B2.out b3)
          clear b3
          go_wp2_with fail
          go_roundw
          case rel => exact ⟨k + 1, by omega, by go_num, P3.out, B3.out⟩
          case measure => simp [intOf]; omega
        · have hlt' : ¬ ((k : Int) < (n : Int)) := by omega
          go_wp2_with fail
          refine (len_any _ _ _ P2.out).mono ?_
          rw [up_len]
          rintro r w3 ⟨rfl, rfl⟩
          go_wp2_with fail
          refine (drop_is _ (up 1024) (dr 7 (up 1024)) 7 1 _ P2.out rfl (by rw [up_len, up_drop]; rfl)).mono ?_
          rintro r w4 ⟨rfl, p4, f4⟩
          have P4 := hide p4
          have B4 := hide (f4.under B2.out (Nat.le_refl _))
          clear p4 f4
          go_wp2_with fail
          refine (add_ok _ (dr 7 (up 1024)) ⟨7, 0, 0⟩ _ (by decide) P4.out (by rw [up_drop]; decide)).mono ?_
          rintro r w5 ⟨rfl, _, f5⟩
          have B5 := hide (f5.under B4.out (Nat.le_refl _))
          clear f5
          go_wp2_with fail
          refine (three_any _).mono ?_
          rintro r w6 ⟨rfl, b6⟩
          have B6 := hide (btr B5.out b6)
          clear b6
          go_wp2_with fail
          go_ret
          exact ⟨rfl, B6.out⟩

/-! ### the row -/
set_option maxRecDepth 100000 in
theorem lifted (os : Os) (started : os.Started) (H : Type) (enc : TypeId × Value → H) :
    ReturnsInHanded {} Try.checked os 6 .any (Rows.pewFullSpec.pre6 enc Try.prog Try.f6 Rows.pewFullRow.domain false) (Rows.pewFullSpec.post enc Try.prog Try.f6 false true false false) := by
  refine returnsInHanded_of_change (C := Try.checked) own started (by kernel_rfl) Try.func6
    (ChangeSpec.witness6 (enc := enc) (C := Try.checked) false ⟨#[], #[.int .i64 0], []⟩ 8 (by kernel_rfl) (by kernel_rfl) (by kernel_rfl) (by kernel_rfl)) ?_
  intro W base args ds gs before hval0 hW hcnd _
  have hval : ∀ (j : Nat) t v, Try.f6.params[j]? = some t → args[j]? = some v → Value.okWide Try.prog W .any base t v := hval0
  have hW' := hW
  obtain ⟨p, q, hA0, hV, rfl, hfz, hnd⟩ := hW
  have hA : DataW.TrodAll enc Try.prog W 0 (fun _ => true) true Try.f6.params.toList args.toList ds p := hA0
  rw [Try.params6] at hA hval
  obtain ⟨v0, vs0, d0, ds0, p0, q0, hargs, rfl, rfl, h0, r0⟩ := trodAll_cons hA
  obtain ⟨rfl, rfl, rfl⟩ := trodAll_nil r0
  obtain rfl : args = #[v0] := by cases args; simp_all
  obtain ⟨rfl, rfl⟩ := trodVars_none hV
  obtain ⟨a0, rfl, rfl, rfl, w0⟩ := open_int Try.underlying3 (hval 0 3 v0 rfl rfl) h0
  clear hA0 hval0
  refine (core (w := W) a0).mono fun e W' ⟨he, bel⟩ => ?_
  subst he
  exact ⟨_, rfl, _, _, _, [], _, [], hW', trodAll_mk1 (shut_bool Try.underlying4 _), (trodAll_cons_mk (shut_int Try.underlying3 w0) trodAll_mk0), rfl, bel.frame _, fun h => by cases h⟩

theorem over : Rows.pewFullRow.holds Try.pinned (OpenSpec.ofChange Rows.pewFullSpec) :=
  OpenClaim.holds_of_wide 6 Try.f6 rfl rfl rfl rfl rfl rfl rfl ⟨rfl, rfl, rfl, rfl, rfl⟩ rfl rfl rfl rfl rfl (by kernel_rfl) Try.func6 (by kernel_rfl)
    (of_decide_eq_true (by kernel_rfl)) (by unfold Func.isWrapper; first | (rw [if_pos (by decide +kernel)]; kernel_rfl) | (rw [if_neg (by decide +kernel)]; exact ⟨rfl, rfl⟩))
    (fun os started H enc _ => lifted os started H enc)

/-- the statement -/
theorem proved : Rows.PewFullSaid := over
#print axioms proved
end Go.Proofs.Ytiefaihflmogpab.pewFull
