/- For every pick, every list and every list of bools, the law PickOf returns true, so Of and Nth answer as the document does: under no condition. -/
import Derived.Test.YtabbmfaklekojabPf
import Derived.ShutString
import Derived.ChangeOld
import Derived.Below
namespace Go.Proofs.Ytabbmfaklekojab.pickOf
open Go.ChangeShapes Go.WideShapes Go.ChangeAt Go.RowKit
open Go.ChangeMaps (open_string shut_string)
open Pk Ba

theorem own : ownKnob Try.prog.godebug = none := by kernel_rfl
theorem laidOut : laidOutB Try.prog = true := by kernel_rfl

set_option maxRecDepth 100000 in
set_option maxHeartbeats 3200000 in
theorem core {w : World} (p : Int) (oa : Option Addr) (l : List Int) (c : Nat) (hA : At w oa l) (hl : l.length ≤ maxLen) (ob : Option Addr) (m : List Bool) (d : Nat) (hB : BAt w ob m) (hm : m.length ≤ maxLen) :
    Calls Try.prog 4 #[.int .i64 p, .slice oa l.length c, .slice ob m.length d] w fun r w' => r = .returned (.bool true) ∧ Below w.heap.size w w' := by
  have HA := hide hA
  have HB := hide hB
  have HM := hide hm
  unfold maxLen at hm
  clear hA hB
  go_enter Try.func4, Try.ntmps4
  go_wp2_with fail
  refine (of_any p _ l c _ HA.out hl).mono ?_
  rintro r w1 ⟨rfl, rfl⟩
  go_wp2_with fail
  refine (rof_any p _ l c _ HA.out hl).mono ?_
  rintro r w1 ⟨rfl, rfl⟩
  go_wp2_with fail
  refine (nth_any _ m d p _ HB.out HM.out).mono ?_
  rintro r w1 ⟨⟨a, ok, rfl, hn⟩, rfl⟩
  have HN := hide hn
  clear hn
  go_wp2_with fail
  go_loop [44, 13] (fun i n => ∃ k : Nat, k ≤ m.length ∧ i = .int .i64 k ∧ n = .int .i64 (cnt m k : Int) ∧ ∀ j, j < k → m[j]? = some true → (cnt m j : Int) ≠ p) (fun i _ => m.length - (intOf i).toNat)
  case atStart => exact ⟨0, Nat.zero_le _, rfl, by rw [cnt_zero]; rfl, fun j hj => absurd hj (Nat.not_lt_zero _)⟩
  case round =>
    obtain ⟨k, hk, rfl, rfl, hall⟩ := hrel
    have HE := hide hall
    have hcl := cnt_le m k
    clear hall
    by_cases hlt : k < m.length
    · have hlt' : (k : Int) < (m.length : Int) := by omega
      cases hb : m[k]? with
      | none => rw [List.getElem?_eq_none_iff] at hb; omega
      | some x =>
        obtain ⟨b1, o1, rfl, hc1⟩ := HB.out k x hb
        have HX := hide hb
        clear hb
        cases x
        · have HC := hide (cnt_f HX.out)
          go_wp2_with fail
          go_round
          case rel => exact ⟨k + 1, by omega, by go_num, by rw [HC.out], fun j hj hj2 => by
            by_cases e : j = k
            · subst e; rw [HX.out] at hj2; cases hj2
            · exact HE.out j (by omega) hj2⟩
          case measure => simp [intOf]; omega
        · have HC := hide (cnt_t HX.out)
          cases he : ((cnt m k : Int) == p)
          · have HZ : Hid ((cnt m k : Int) ≠ p) := by show _ ≠ _; simpa using he
            go_wp2_with fail
            go_round
            case rel => exact ⟨k + 1, by omega, by go_num, by rw [HC.out]; go_num, fun j hj hj2 => by
              by_cases e : j = k
              · subst e; exact HZ.out
              · exact HE.out j (by omega) hj2⟩
            case measure => simp [intOf]; omega
          · have HZ : Hid ((cnt m k : Int) = p) := by show _ = _; simpa using he
            obtain ⟨rfl, rfl⟩ : ok = true ∧ a = (k : Int) := by
              rcases HN.out with ⟨h1, j, h2, h3, h4⟩ | ⟨_, _, h3⟩
              · have := HZ.out
                exact ⟨h1, by rw [h2, cnt_one h3 HX.out (by omega)]⟩
              · exact absurd HZ.out (h3 k HX.out)
            clear HN
            go_wp2_with fail
            refine (draws_any _).mono ?_
            rintro r w5 ⟨rfl, b5⟩
            have B5 := hide b5
            clear b5
            go_wp2_with fail
            go_ret
            exact ⟨rfl, B5.out⟩
    · have hlt' : ¬ ((k : Int) < (m.length : Int)) := by omega
      obtain ⟨rfl, rfl⟩ : ok = false ∧ a = 0 := by
        rcases HN.out with ⟨h1, j, h2, h3, h4⟩ | ⟨h1, h2, _⟩
        · exact absurd h4 (HE.out j (by have := (List.getElem?_eq_some_iff.1 h3).1; omega) h3)
        · exact ⟨h1, h2⟩
      clear HN
      go_wp2_with fail
      refine (draws_any _).mono ?_
      rintro r w5 ⟨rfl, b5⟩
      have B5 := hide b5
      clear b5
      go_wp2_with fail
      go_ret
      exact ⟨rfl, B5.out⟩


/-! ### the row -/
set_option maxRecDepth 100000 in
theorem lifted (os : Os) (started : os.Started) (H : Type) (enc : TypeId × Value → H) :
    ReturnsInHanded {} Try.checked os 4 .any (Rows.pickOfSpec.pre6 enc Try.prog Try.f4 Rows.pickOfRow.domain false) (Rows.pickOfSpec.post enc Try.prog Try.f4 false true false false) := by
  refine returnsInHanded_of_change (C := Try.checked) own started (by kernel_rfl) Try.func4
    (ChangeSpec.witness6 (enc := enc) (C := Try.checked) false ⟨#[], #[.int .i64 0, .slice none 0 0, .slice none 0 0], []⟩ 8 (by kernel_rfl) (by kernel_rfl) (by kernel_rfl) (by kernel_rfl)) ?_
  intro W base args ds gs before hval0 hW hcnd _
  have hval : ∀ (j : Nat) t v, Try.f4.params[j]? = some t → args[j]? = some v → Value.okWide Try.prog W .any base t v := hval0
  have hW' := hW
  obtain ⟨p, q, hA0, hV, rfl, hfz, hnd⟩ := hW
  have hA : DataW.TrodAll enc Try.prog W 0 (fun _ => true) true Try.f4.params.toList args.toList ds p := hA0
  rw [Try.params4] at hA hval
  obtain ⟨v0, vs0, d0, ds0, p0, q0, hargs, rfl, rfl, h0, r0⟩ := trodAll_cons hA
  obtain ⟨v1, vs1, d1, ds1, p1, q1, rfl, rfl, rfl, h1, r1⟩ := trodAll_cons r0
  obtain ⟨v2, vs2, d2, ds2, p2, q2, rfl, rfl, rfl, h2, r2⟩ := trodAll_cons r1
  obtain ⟨rfl, rfl, rfl⟩ := trodAll_nil r2
  obtain rfl : args = #[v0, v1, v2] := by cases args; simp_all
  obtain ⟨rfl, rfl⟩ := trodVars_none hV
  obtain ⟨a0, rfl, rfl, rfl, w0⟩ := open_int Try.underlying3 (hval 0 3 v0 rfl rfl) h0
  obtain ⟨oa1, n1, c1, rfl⟩ := okWide_slice Try.underlying22 (hval 1 22 v1 rfl rfl)
  have k1 := h1
  have lt1 : ∀ x ∈ p1, x.block < W.heap.size := by obtain ⟨m, hm⟩ := k1; exact DataW.trod_lt m _ _ _ hm
  obtain ⟨l1, rfl, A1, C1, M1⟩ := h1.elim fun _ hf => ints_open hf
  obtain ⟨oa2, n2, c2, rfl⟩ := okWide_slice Try.underlying41 (hval 2 41 v2 rfl rfl)
  have k2 := h2
  have lt2 : ∀ x ∈ p2, x.block < W.heap.size := by obtain ⟨m, hm⟩ := k2; exact DataW.trod_lt m _ _ _ hm
  obtain ⟨l2, rfl, A2, C2, M2⟩ := h2.elim fun _ hf => bools_open hf
  clear hA0 hval0
  refine (core (w := W) a0 oa1 l1 c1 A1 (Nat.le_trans C1 M1) oa2 l2 c2 A2 (Nat.le_trans C2 M2)).mono fun e W' ⟨he, bel⟩ => ?_
  subst he
  exact ⟨_, rfl, _, _, _, [], _, [], hW', trodAll_mk1 (shut_bool Try.underlying4 _), (trodAll_cons_mk (shut_int Try.underlying3 w0) (trodAll_cons_mk (Below.trod laidOut (by kernel_rfl) (of_decide_eq_true (by kernel_rfl)) k1 bel lt1) (trodAll_cons_mk (Below.trod laidOut (by kernel_rfl) (of_decide_eq_true (by kernel_rfl)) k2 bel lt2) trodAll_mk0))), rfl, bel.frame _, fun h => by cases h⟩

theorem over : Rows.pickOfRow.holds Try.pinned (OpenSpec.ofChange Rows.pickOfSpec) :=
  OpenClaim.holds_of_wide 4 Try.f4 rfl rfl rfl rfl rfl rfl rfl ⟨rfl, rfl, rfl, rfl, rfl⟩ rfl rfl rfl rfl rfl (by kernel_rfl) Try.func4 (by kernel_rfl)
    (of_decide_eq_true (by kernel_rfl)) (by unfold Func.isWrapper; first | (rw [if_pos (by decide +kernel)]; kernel_rfl) | (rw [if_neg (by decide +kernel)]; exact ⟨rfl, rfl⟩))
    (fun os started H enc _ => lifted os started H enc)

/-- the statement -/
theorem proved : Rows.PickOfSaid := over
#print axioms proved
end Go.Proofs.Ytabbmfaklekojab.pickOf
