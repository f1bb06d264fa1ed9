/- For every plan, every draws and every number, the law PickCopies returns true, so a copy of a cursor goes on by itself: under no condition. -/
import Derived.Test.YtabbmfaklekojabPg
import Derived.Test.YtabbmfaklekojabBo
import Derived.ShutString
import Derived.ChangeOld
import Derived.Below
namespace Go.Proofs.Ytabbmfaklekojab.pickCopies
open Go.ChangeShapes Go.WideShapes Go.ChangeAt Go.RowKit
open Go.ChangeMaps (open_string shut_string)
open Pk Ba

theorem own : ownKnob Try.prog.godebug = none := by kernel_rfl
theorem laidOut : laidOutB Try.prog = true := by kernel_rfl

theorem drop_cons (l : List Int) (k : Nat) (h : k < l.length) : l.drop k = nth l k :: l.drop (k + 1) := by
  rw [nth_lt l k h]
  exact List.drop_eq_getElem_cons h
theorem ne_cases (p d : List Int) : ne p d = 0 ∨ ne p d = 2 ∨ ne p d = 4 := by
  unfold ne
  cases decide (200 < p.length) || decide (64 < d.length) <;> cases ab (-1) 1000 p && ab 0 1000 d <;> simp

set_option maxRecDepth 100000 in
set_option maxHeartbeats 3200000 in
theorem err_walk {w : World} (oa : Option Addr) (p : List Int) (c : Nat) (hA : At w oa p) (hp : p.length ≤ maxLen) (ob : Option Addr) (d : List Int) (e : Nat) (hB : At w ob d) (hd : d.length ≤ maxLen) (n x : Int) (hx : ne p d = x) (h0 : x = 2 ∨ x = 4) :
    Calls Try.prog 6 #[.slice oa p.length c, .slice ob d.length e, .int .i64 n] w fun r w' => r = .returned (.bool true) ∧ Below w.heap.size w w' := by
  have NW := hide (new_err oa ob p d c e w hA hB hp hd x hx (by omega))
  clear hA hB hx
  rcases h0 with rfl | rfl
  all_goals
    go_enter Try.func6, Try.ntmps6
    go_wp2_with fail
    refine NW.out.mono ?_
    rintro r w1 ⟨rfl, rfl⟩
    go_wp2_with fail
    refine (draws_any _).mono ?_
    rintro r w5 ⟨rfl, b5⟩
    have B5 := hide b5
    clear b5
    go_wp2_with fail
    go_ret
    exact ⟨rfl, B5.out⟩

set_option maxRecDepth 100000 in
set_option maxHeartbeats 3200000 in
theorem core {w : World} (oa : Option Addr) (p : List Int) (c : Nat) (hA : At w oa p) (hp : p.length ≤ maxLen) (ob : Option Addr) (d : List Int) (e : Nat) (hB : At w ob d) (hd : d.length ≤ maxLen) (n : Int) :
    Calls Try.prog 6 #[.slice oa p.length c, .slice ob d.length e, .int .i64 n] w fun r w' => r = .returned (.bool true) ∧ Below w.heap.size w w' := by
  rcases ne_cases p d with h0 | h0 | h0
  rotate_left
  · exact err_walk oa p c hA hp ob d e hB hd n 2 h0 (.inl rfl)
  · exact err_walk oa p c hA hp ob d e hB hd n 4 h0 (.inr rfl)
  obtain ⟨hp2, hd2, _, hab⟩ := ne_zero h0
  have D0 : Hid (∀ x ∈ d, 0 ≤ x) := fun x hx => ((ab_iff _ _ _).1 hab x hx).1
  have HA := hide hA
  have HB := hide hB
  have H0 := hide h0
  clear hA hB h0 hab hp hd
  go_enter Try.func6, Try.ntmps6
  go_wp2_with fail
  refine (new_ok oa ob p d c e _ HA.out HB.out H0.out).mono ?_
  rintro r w1 ⟨C, rfl, hC, cur, b1⟩
  have C1 := hide cur
  have B1 := hide b1
  have hC1 : C < w1.heap.size := by obtain ⟨_, _, _, _, q, _⟩ := cur; exact heap_lt q
  clear cur b1
  go_wp2_with fail
  refine (copy_any C p d _ C1.out (by omega) (by omega)).mono ?_
  rintro r w2 ⟨D, rfl, hD, cur, b2⟩
  have C2 := hide (C1.out.below b2)
  have D2 := hide cur
  have B2 := hide (btr B1.out b2)
  clear cur b2
  go_wp2_with fail
  go_loopw [10] (fun i wr => ∃ k : Nat, k ≤ p.length ∧ i = .int .i64 k ∧ Cur wr C p d ∧ Cur wr D (p.drop k) d ∧ Below w.heap.size w wr) (fun i _ => p.length - (intOf i).toNat)
  case atStart => exact ⟨0, Nat.zero_le _, rfl, C2.out, D2.out, B2.out⟩
  case round =>
    clear C2 D2 B2
    obtain ⟨k, hk, rfl, c3, d3, b3⟩ := hrel
    have C3 := hide c3
    have D3 := hide d3
    have B3 := hide b3
    clear c3 d3 b3
    by_cases hlt : k < p.length
    · have hlt' : (k : Int) < (p.length : Int) := by omega
      go_wp2_with fail
      refine (next_some D (nth p k) (p.drop (k + 1)) d _ (by rw [← drop_cons p k hlt]; exact D3.out)).mono ?_
      rintro r w4 ⟨rfl, d4, k4⟩
      have D4 := hide d4
      have C4 := hide (C3.out.kb k4 (by omega))
      have b4 := KB.below B3.out k4 (by omega)
      obtain ⟨b', o', rfl, hc⟩ := (HA.out.below b4) k hlt
      have B4 := hide b4
      clear d4 k4 b4
      go_wp2_with fail
      go_roundw
      case rel => exact ⟨k + 1, by omega, by go_num, C4.out, D4.out, B4.out⟩
      case measure => simp [intOf]; omega
    · have hlt' : ¬ ((k : Int) < (p.length : Int)) := by omega
      have D4 : Hid (Cur wr D [] d) := by
        have := D3.out
        rw [List.drop_eq_nil_of_le (by omega)] at this
        exact this
      clear D3
      go_wp2_with fail
      refine (draw_any D [] d n _ D4.out D0.out).mono ?_
      rintro r w4 ⟨rfl, d5, k5⟩
      have C5 := hide (C3.out.kb k5 (by omega))
      have B5 := hide (KB.below B3.out k5 (by omega))
      have D5 := hide d5
      clear d5 k5
      go_wp2_with fail
      refine (left_any C p d _ C5.out).mono ?_
      rintro r w6 ⟨rfl, b6⟩
      have B6 := hide (btr B5.out b6)
      have D6 := hide (D5.out.below b6)
      clear b6
      go_wp2_with fail
      refine (next_none D _ _ D6.out).mono ?_
      rintro r w7 ⟨rfl, b7⟩
      have B7 := hide (btr B6.out b7)
      clear b7
      go_wp2_with fail
      refine (draws_any _).mono ?_
      rintro r w8 ⟨rfl, b8⟩
      have B8 := hide (btr B7.out b8)
      clear b8
      go_wp2_with fail
      go_ret
      exact ⟨rfl, B8.out⟩


/-! ### the row -/
set_option maxRecDepth 100000 in
theorem lifted (os : Os) (started : os.Started) (H : Type) (enc : TypeId × Value → H) :
    ReturnsInHanded {} Try.checked os 6 .any (Rows.pickCopiesSpec.pre6 enc Try.prog Try.f6 Rows.pickCopiesRow.domain false) (Rows.pickCopiesSpec.post enc Try.prog Try.f6 false true false false) := by
  refine returnsInHanded_of_change (C := Try.checked) own started (by kernel_rfl) Try.func6
    (ChangeSpec.witness6 (enc := enc) (C := Try.checked) false ⟨#[], #[.slice none 0 0, .slice none 0 0, .int .i64 0], []⟩ 8 (by kernel_rfl) (by kernel_rfl) (by kernel_rfl) (by kernel_rfl)) ?_
  intro W base args ds gs before hval0 hW hcnd _
  have hval : ∀ (j : Nat) t v, Try.f6.params[j]? = some t → args[j]? = some v → Value.okWide Try.prog W .any base t v := hval0
  have hW' := hW
  obtain ⟨p, q, hA0, hV, rfl, hfz, hnd⟩ := hW
  have hA : DataW.TrodAll enc Try.prog W 0 (fun _ => true) true Try.f6.params.toList args.toList ds p := hA0
  rw [Try.params6] at hA hval
  obtain ⟨v0, vs0, d0, ds0, p0, q0, hargs, rfl, rfl, h0, r0⟩ := trodAll_cons hA
  obtain ⟨v1, vs1, d1, ds1, p1, q1, rfl, rfl, rfl, h1, r1⟩ := trodAll_cons r0
  obtain ⟨v2, vs2, d2, ds2, p2, q2, rfl, rfl, rfl, h2, r2⟩ := trodAll_cons r1
  obtain ⟨rfl, rfl, rfl⟩ := trodAll_nil r2
  obtain rfl : args = #[v0, v1, v2] := by cases args; simp_all
  obtain ⟨rfl, rfl⟩ := trodVars_none hV
  obtain ⟨oa0, n0, c0, rfl⟩ := okWide_slice Try.underlying22 (hval 0 22 v0 rfl rfl)
  have k0 := h0
  have lt0 : ∀ x ∈ p0, x.block < W.heap.size := by obtain ⟨m, hm⟩ := k0; exact DataW.trod_lt m _ _ _ hm
  obtain ⟨l0, rfl, A0, C0, M0⟩ := h0.elim fun _ hf => ints_open hf
  obtain ⟨oa1, n1, c1, rfl⟩ := okWide_slice Try.underlying22 (hval 1 22 v1 rfl rfl)
  have k1 := h1
  have lt1 : ∀ x ∈ p1, x.block < W.heap.size := by obtain ⟨m, hm⟩ := k1; exact DataW.trod_lt m _ _ _ hm
  obtain ⟨l1, rfl, A1, C1, M1⟩ := h1.elim fun _ hf => ints_open hf
  obtain ⟨a2, rfl, rfl, rfl, w2⟩ := open_int Try.underlying3 (hval 2 3 v2 rfl rfl) h2
  clear hA0 hval0
  refine (core (w := W) oa0 l0 c0 A0 (Nat.le_trans C0 M0) oa1 l1 c1 A1 (Nat.le_trans C1 M1) a2).mono fun e W' ⟨he, bel⟩ => ?_
  subst he
  exact ⟨_, rfl, _, _, _, [], _, [], hW', trodAll_mk1 (shut_bool Try.underlying4 _), (trodAll_cons_mk (Below.trod laidOut (by kernel_rfl) (of_decide_eq_true (by kernel_rfl)) k0 bel lt0) (trodAll_cons_mk (Below.trod laidOut (by kernel_rfl) (of_decide_eq_true (by kernel_rfl)) k1 bel lt1) (trodAll_cons_mk (shut_int Try.underlying3 w2) trodAll_mk0))), rfl, bel.frame _, fun h => by cases h⟩

theorem over : Rows.pickCopiesRow.holds Try.pinned (OpenSpec.ofChange Rows.pickCopiesSpec) :=
  OpenClaim.holds_of_wide 6 Try.f6 rfl rfl rfl rfl rfl rfl rfl ⟨rfl, rfl, rfl, rfl, rfl⟩ rfl rfl rfl rfl rfl (by kernel_rfl) Try.func6 (by kernel_rfl)
    (of_decide_eq_true (by kernel_rfl)) (by unfold Func.isWrapper; first | (rw [if_pos (by decide +kernel)]; kernel_rfl) | (rw [if_neg (by decide +kernel)]; exact ⟨rfl, rfl⟩))
    (fun os started H enc _ => lifted os started H enc)

/-- the statement -/
theorem proved : Rows.PickCopiesSaid := over
#print axioms proved
end Go.Proofs.Ytabbmfaklekojab.pickCopies
