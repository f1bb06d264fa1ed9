/- For every list and every pick, the law PickAll returns true, so each pick chooses one that is there, and all are chosen: under no condition. -/
import Derived.Test.YtabbmfaklekojabPe
import Derived.Test.YtabbmfaklekojabBo
import Derived.ShutString
import Derived.ChangeOld
import Derived.Below
namespace Go.Proofs.Ytabbmfaklekojab.pickAll
open Go.ChangeShapes Go.WideShapes Go.ChangeAt Go.RowKit
open Go.ChangeMaps (open_string shut_string)
open Pk Ba

theorem own : ownKnob Try.prog.godebug = none := by kernel_rfl
theorem laidOut : laidOutB Try.prog = true := by kernel_rfl

set_option maxRecDepth 100000 in
set_option maxHeartbeats 1600000 in
theorem out_walk (oa : Option Addr) (l : List Int) (c : Nat) (p : Int) (w : World) (hl : l.length ≤ maxLen) (h : 300 < l.length ∨ p < 0 ∨ 1099511627776 < p) :
    Calls Try.prog 5 #[.slice oa l.length c, .int .i64 p] w fun r w' => r = .returned (.bool true) ∧ Below w.heap.size w w' := by
  unfold maxLen at hl
  cases h1 : decide ((300 : Int) < (l.length : Int))
  · cases h2 : decide (p < 0)
    · cases h3 : decide (1099511627776 < p)
      · simp at h1 h2 h3
        omega
      · go_enter Try.func5, Try.ntmps5
        go_wp2_with fail
        refine (draws_any _).mono ?_
        rintro r w5 ⟨rfl, b5⟩
        have B5 := hide b5
        clear b5
        go_wp2_with fail
        go_ret
        exact ⟨rfl, B5.out⟩
    · go_enter Try.func5, Try.ntmps5
      go_wp2_with fail
      refine (draws_any _).mono ?_
      rintro r w5 ⟨rfl, b5⟩
      have B5 := hide b5
      clear b5
      go_wp2_with fail
      go_ret
      exact ⟨rfl, B5.out⟩
  · go_enter Try.func5, Try.ntmps5
    go_wp2_with fail
    refine (draws_any _).mono ?_
    rintro r w5 ⟨rfl, b5⟩
    have B5 := hide b5
    clear b5
    go_wp2_with fail
    go_ret
    exact ⟨rfl, B5.out⟩

/-- is x among the first k? -/
def amid (x : Int) (l : List Int) (k : Nat) : Bool := (l.take k).any (· == x)
theorem amid_zero (x : Int) (l : List Int) : amid x l 0 = false := by simp [amid]
theorem amid_succ (x : Int) (l : List Int) (k : Nat) (h : k < l.length) : amid x l (k + 1) = (amid x l k || nth l k == x) := by
  unfold amid
  rw [List.take_succ_eq_append_getElem h, List.any_append, nth_lt l k h]
  simp
theorem amid_all (l : List Int) (q : Nat) (h : q < l.length) : amid (nth l q) l l.length = true := by
  unfold amid
  rw [List.take_length, List.any_eq_true]
  exact ⟨nth l q, by rw [nth_lt l q h]; exact List.getElem_mem h, by simp⟩

set_option maxRecDepth 100000 in
set_option maxHeartbeats 3200000 in
theorem core {w : World} (oa : Option Addr) (l : List Int) (c : Nat) (hA : At w oa l) (hl : l.length ≤ maxLen) (p : Int) :
    Calls Try.prog 5 #[.slice oa l.length c, .int .i64 p] w fun r w' => r = .returned (.bool true) ∧ Below w.heap.size w w' := by
  by_cases h : 300 < l.length ∨ p < 0 ∨ 1099511627776 < p
  · exact out_walk oa l c p w hl h
  obtain ⟨n, rfl⟩ := Int.eq_ofNat_of_zero_le (show 0 ≤ p by omega)
  have h1 : decide ((300 : Int) < (l.length : Int)) = false := by simp; omega
  have h2 : decide ((n : Int) < 0) = false := by simp
  have h3 : decide (1099511627776 < (n : Int)) = false := by simp; omega
  have h4 : l.length ≤ 300 := by omega
  have HA := hide hA
  clear h hA
  go_enter Try.func5, Try.ntmps5
  go_wp2_with fail
  go_loop [29] (fun i => ∃ k : Nat, k ≤ l.length ∧ i = .int .i64 k) (fun i => l.length - (intOf i).toNat)
  case atStart => exact ⟨0, Nat.zero_le _, rfl⟩
  case round =>
    obtain ⟨k, hk, rfl⟩ := hrel
    by_cases hlt : k < l.length
    · obtain ⟨b1, o1, rfl, hc1⟩ := HA.out k hlt
      have hlt' : (k : Int) < (l.length : Int) := by omega
      go_wp2_with fail
      refine (of_ok k _ l c _ HA.out (by omega) hl).mono ?_
      rw [Nat.mod_eq_of_lt hlt]
      rintro r w1 ⟨rfl, rfl⟩
      go_wp2_with fail
      rw [show (k : Int) + (l.length : Int) = ((k + l.length : Nat) : Int) by omega]
      refine (of_ok (k + l.length) _ l c _ HA.out (by omega) hl).mono ?_
      rw [Nat.add_mod_right, Nat.mod_eq_of_lt hlt]
      rintro r w1 ⟨rfl, rfl⟩
      go_wp2_with fail
      go_round
      case rel => exact ⟨k + 1, by omega, by go_num⟩
      case measure => simp [intOf]; omega
    · have hlt' : ¬ ((k : Int) < (l.length : Int)) := by omega
      by_cases h0 : l.length = 0
      · obtain rfl := List.eq_nil_of_length_eq_zero h0
        go_wp2_with fail
        refine (of_none n _ c _).mono ?_
        rintro r w1 ⟨rfl, rfl⟩
        go_wp2_with fail
        go_loop [75, 12] (fun i t => i = .int .i64 0 ∧ t = .bool false) (fun i _ => 0)
        case atStart => exact ⟨rfl, rfl⟩
        case round =>
          obtain ⟨rfl, rfl⟩ := hrel
          go_wp2_with fail
          refine (draws_any _).mono ?_
          rintro r w5 ⟨rfl, b5⟩
          have B5 := hide b5
          clear b5
          go_wp2_with fail
          go_ret
          exact ⟨rfl, B5.out⟩
      · have hq := Nat.mod_lt n (show 0 < l.length by omega)
        have h0' : (0 : Int) < (l.length : Int) := by omega
        go_wp2_with fail
        refine (of_ok n _ l c _ HA.out (by omega) hl).mono ?_
        generalize n % l.length = q at hq ⊢
        rintro r w1 ⟨rfl, rfl⟩
        go_wp2_with fail
        go_loop [75, 12] (fun i t => ∃ k : Nat, k ≤ l.length ∧ i = .int .i64 k ∧ t = .bool (amid (nth l q) l k)) (fun i _ => l.length - (intOf i).toNat)
        case atStart => exact ⟨0, Nat.zero_le _, rfl, by rw [amid_zero]⟩
        case round =>
          obtain ⟨j, hj, rfl, rfl⟩ := hrel
          by_cases hjl : j < l.length
          · obtain ⟨b1, o1, rfl, hc1⟩ := HA.out j hjl
            have hjl' : (j : Int) < (l.length : Int) := by omega
            have HS := hide (amid_succ (nth l q) l j hjl)
            cases hm : amid (nth l q) l j
            · rw [hm] at HS
              go_wp2_with fail
              go_round
              case rel => exact ⟨j + 1, by omega, by go_num, by rw [HS.out]; rfl⟩
              case measure => simp [intOf]; omega
            · rw [hm] at HS
              go_wp2_with fail
              go_round
              case rel => exact ⟨j + 1, by omega, by go_num, by rw [HS.out]; rfl⟩
              case measure => simp [intOf]; omega
          · have hjl' : ¬ ((j : Int) < (l.length : Int)) := by omega
            have hm : amid (nth l q) l j = true := by
              rw [show j = l.length by omega]
              exact amid_all l q hq
            rw [hm]
            go_wp2_with fail
            refine (draws_any _).mono ?_
            rintro r w5 ⟨rfl, b5⟩
            have B5 := hide b5
            clear b5
            go_wp2_with fail
            go_ret
            exact ⟨rfl, B5.out⟩


/-! ### the row -/
set_option maxRecDepth 100000 in
theorem lifted (os : Os) (started : os.Started) (H : Type) (enc : TypeId × Value → H) :
    ReturnsInHanded {} Try.checked os 5 .any (Rows.pickAllSpec.pre6 enc Try.prog Try.f5 Rows.pickAllRow.domain false) (Rows.pickAllSpec.post enc Try.prog Try.f5 false true false false) := by
  refine returnsInHanded_of_change (C := Try.checked) own started (by kernel_rfl) Try.func5
    (ChangeSpec.witness6 (enc := enc) (C := Try.checked) false ⟨#[], #[.slice none 0 0, .int .i64 0], []⟩ 8 (by kernel_rfl) (by kernel_rfl) (by kernel_rfl) (by kernel_rfl)) ?_
  intro W base args ds gs before hval0 hW hcnd _
  have hval : ∀ (j : Nat) t v, Try.f5.params[j]? = some t → args[j]? = some v → Value.okWide Try.prog W .any base t v := hval0
  have hW' := hW
  obtain ⟨p, q, hA0, hV, rfl, hfz, hnd⟩ := hW
  have hA : DataW.TrodAll enc Try.prog W 0 (fun _ => true) true Try.f5.params.toList args.toList ds p := hA0
  rw [Try.params5] at hA hval
  obtain ⟨v0, vs0, d0, ds0, p0, q0, hargs, rfl, rfl, h0, r0⟩ := trodAll_cons hA
  obtain ⟨v1, vs1, d1, ds1, p1, q1, rfl, rfl, rfl, h1, r1⟩ := trodAll_cons r0
  obtain ⟨rfl, rfl, rfl⟩ := trodAll_nil r1
  obtain rfl : args = #[v0, v1] := by cases args; simp_all
  obtain ⟨rfl, rfl⟩ := trodVars_none hV
  obtain ⟨oa0, n0, c0, rfl⟩ := okWide_slice Try.underlying22 (hval 0 22 v0 rfl rfl)
  have k0 := h0
  have lt0 : ∀ x ∈ p0, x.block < W.heap.size := by obtain ⟨m, hm⟩ := k0; exact DataW.trod_lt m _ _ _ hm
  obtain ⟨l0, rfl, A0, C0, M0⟩ := h0.elim fun _ hf => ints_open hf
  obtain ⟨a1, rfl, rfl, rfl, w1⟩ := open_int Try.underlying3 (hval 1 3 v1 rfl rfl) h1
  clear hA0 hval0
  refine (core (w := W) oa0 l0 c0 A0 (Nat.le_trans C0 M0) a1).mono fun e W' ⟨he, bel⟩ => ?_
  subst he
  exact ⟨_, rfl, _, _, _, [], _, [], hW', trodAll_mk1 (shut_bool Try.underlying4 _), (trodAll_cons_mk (Below.trod laidOut (by kernel_rfl) (of_decide_eq_true (by kernel_rfl)) k0 bel lt0) (trodAll_cons_mk (shut_int Try.underlying3 w1) trodAll_mk0)), rfl, bel.frame _, fun h => by cases h⟩

theorem over : Rows.pickAllRow.holds Try.pinned (OpenSpec.ofChange Rows.pickAllSpec) :=
  OpenClaim.holds_of_wide 5 Try.f5 rfl rfl rfl rfl rfl rfl rfl ⟨rfl, rfl, rfl, rfl, rfl⟩ rfl rfl rfl rfl rfl (by kernel_rfl) Try.func5 (by kernel_rfl)
    (of_decide_eq_true (by kernel_rfl)) (by unfold Func.isWrapper; first | (rw [if_pos (by decide +kernel)]; kernel_rfl) | (rw [if_neg (by decide +kernel)]; exact ⟨rfl, rfl⟩))
    (fun os started H enc _ => lifted os started H enc)

/-- the statement -/
theorem proved : Rows.PickAllSaid := over
#print axioms proved
end Go.Proofs.Ytabbmfaklekojab.pickAll
