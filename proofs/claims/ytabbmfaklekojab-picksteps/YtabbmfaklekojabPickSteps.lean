/- For every plan, every draws and every list of steps, the law PickSteps returns true, so a cursor answers, step by step, as the document does: under no condition. -/
import Derived.Test.YtabbmfaklekojabPh
import Derived.Test.YtabbmfaklekojabBo
import Derived.ShutString
import Derived.ChangeOld
import Derived.Below
namespace Go.Proofs.Ytabbmfaklekojab.pickSteps
open Go.ChangeShapes Go.WideShapes Go.ChangeAt Go.RowKit
open Go.ChangeMaps (open_string shut_string)
open Pk Ba

theorem own : ownKnob Try.prog.godebug = none := by kernel_rfl
theorem laidOut : laidOutB Try.prog = true := by kernel_rfl

theorem ne_cases (p d : List Int) : ne p d = 0 ∨ ne p d = 2 ∨ ne p d = 4 := by
  unfold ne
  cases decide (200 < p.length) || decide (64 < d.length) <;> cases ab (-1) 1000 p && ab 0 1000 d <;> simp
/-- what the reference has left, as the law asks it -/
theorem rcur_seen {w : World} {R N : Nat} {p d : List Int} (h : RCur w R N p d) : ∃ oa ca ob cb a b c e, (w.cell? ⟨R, 0, none⟩ = some (.slice oa a ca) ∧ w.cell? ⟨R, 1, none⟩ = some (.slice ob b cb) ∧ w.cell? ⟨R, 2, none⟩ = some (.int .i64 ((c : Nat) : Int)) ∧ w.cell? ⟨R, 3, none⟩ = some (.int .i64 ((e : Nat) : Int))) ∧ c ≤ a ∧ e ≤ b ∧ a ≤ 200 ∧ b ≤ 64 ∧ ((p.length : Int) != (a : Int) - (c : Int)) = false ∧ ((d.length : Int) != (b : Int) - (e : Int)) = false := by
  obtain ⟨oa, ca, ob, cb, P, D, p0, d0, q0, ⟨q1, q2, q3, q4, q5⟩, q6, q7, q8, q9, q10⟩ := h
  refine ⟨oa, ca, ob, cb, p0.length, d0.length, P, D, ⟨cell_of q0 0, cell_of q0 1, cell_of q0 2, cell_of q0 3⟩, q2, q7, q4, q9, ?_, ?_⟩
  · subst q3
    simp
    omega
  · subst q8
    simp
    omega

set_option maxRecDepth 100000 in
set_option maxHeartbeats 3200000 in
theorem err_walk {w : World} (oa : Option Addr) (p : List Int) (c : Nat) (hA : At w oa p) (hp : p.length ≤ maxLen) (ob : Option Addr) (d : List Int) (e : Nat) (hB : At w ob d) (hd : d.length ≤ maxLen) (oc : Option Addr) (l : List Int) (g : Nat) (x : Int) (hx : ne p d = x) (h0 : x = 2 ∨ x = 4) :
    Calls Try.prog 3 #[.slice oa p.length c, .slice ob d.length e, .slice oc l.length g] w fun r w' => r = .returned (.bool true) ∧ Below w.heap.size w w' := by
  have NW := hide (new_err oa ob p d c e w hA hB hp hd x hx (by omega))
  have RW := hide (rnew_any oa ob p d c e w.heap.size w hA.lt hB.lt hA hB hp hd)
  have HX := hide hx
  clear hA hB hx
  rcases h0 with rfl | rfl
  all_goals
    go_enter Try.func3, Try.ntmps3
    go_wp2_with fail
    refine NW.out.mono ?_
    rintro r w1 ⟨rfl, rfl⟩
    go_wp2_with fail
    refine RW.out.mono ?_
    unfold RN
    rw [HX.out]
    rintro r w1 (⟨_, rfl, rfl⟩ | ⟨h, _⟩)
    rotate_left
    · exact absurd h (by decide)
    go_wp2_with fail
    refine (draws_any _).mono ?_
    rintro r w5 ⟨rfl, b5⟩
    have B5 := hide b5
    clear b5
    go_wp2_with fail
    go_ret
    exact ⟨rfl, B5.out⟩

set_option maxRecDepth 100000 in
set_option maxHeartbeats 6400000 in
theorem core {w : World} (oa : Option Addr) (p : List Int) (c : Nat) (hA : At w oa p) (hp : p.length ≤ maxLen) (ob : Option Addr) (d : List Int) (e : Nat) (hB : At w ob d) (hd : d.length ≤ maxLen) (oc : Option Addr) (l : List Int) (g : Nat) (hC : At w oc l) (hl : l.length ≤ maxLen) :
    Calls Try.prog 3 #[.slice oa p.length c, .slice ob d.length e, .slice oc l.length g] w fun r w' => r = .returned (.bool true) ∧ Below w.heap.size w w' := by
  rcases ne_cases p d with h0 | h0 | h0
  rotate_left
  · exact err_walk oa p c hA hp ob d e hB hd oc l g 2 h0 (.inl rfl)
  · exact err_walk oa p c hA hp ob d e hB hd oc l g 4 h0 (.inr rfl)
  obtain ⟨hp2, hd2, _, hab⟩ := ne_zero h0
  have D0 : Hid (∀ x ∈ d, 0 ≤ x) := fun x hx => ((ab_iff _ _ _).1 hab x hx).1
  have HA := hide hA
  have HB := hide hB
  have HC := hide hC
  have H0 := hide h0
  have HP := hide hp
  have HD := hide hd
  unfold maxLen at hl
  clear hA hB hC h0 hab hp hd
  go_enter Try.func3, Try.ntmps3
  go_wp2_with fail
  refine (new_ok oa ob p d c e _ HA.out HB.out H0.out).mono ?_
  rintro r w1 ⟨C, rfl, hC, cur, b1⟩
  have C1 := hide cur
  have B1 := hide b1
  have hC1 : C < w1.heap.size := by obtain ⟨_, _, _, _, q, _⟩ := cur; exact heap_lt q
  clear cur b1
  go_wp2_with fail
  refine (rnew_any oa ob p d c e w.heap.size _ HA.out.lt HB.out.lt (HA.out.below B1.out) (HB.out.below B1.out) HP.out HD.out).mono ?_
  unfold RN
  rw [H0.out]
  rintro r w2 (⟨h, _⟩ | ⟨_, rfl, rcur, b2⟩)
  · exact absurd rfl h
  have C2 := hide (C1.out.below b2)
  have R2 := hide rcur
  have B2 := hide (btr B1.out b2)
  clear rcur b2 C1 B1
  generalize w1.heap.size = R at hC1 R2 ⊢
  by_cases h5 : 500 < l.length
  · have h5' : decide ((500 : Int) < (l.length : Int)) = true := by simp; omega
    go_wp2_with fail
    refine (draws_any _).mono ?_
    rintro r w5 ⟨rfl, b5⟩
    have B5 := hide (btr B2.out b5)
    clear b5
    go_wp2_with fail
    go_ret
    exact ⟨rfl, B5.out⟩
  have h5' : decide ((500 : Int) < (l.length : Int)) = false := by simp; omega
  go_wp2_with fail
  go_loopw [55] (fun i wr => ∃ (k : Nat) (p' d' : List Int), k ≤ l.length ∧ i = .int .i64 k ∧ (Cur wr C p' d' ∧ RCur wr R w.heap.size p' d') ∧ (∀ x ∈ d', 0 ≤ x) ∧ Below w.heap.size w wr) (fun i _ => l.length - (intOf i).toNat)
  case atStart => exact ⟨0, p, d, Nat.zero_le _, rfl, ⟨C2.out, R2.out⟩, D0.out, B2.out⟩
  case round =>
    clear C2 R2 D0 B2
    obtain ⟨k, p', d', hk, rfl, ⟨c3, r3⟩, d3, b3⟩ := hrel
    have C3 := hide c3
    have R3 := hide r3
    have D3 := hide d3
    have B3 := hide b3
    clear c3 r3 d3 b3
    by_cases hlt : k < l.length
    · have hlt' : (k : Int) < (l.length : Int) := by omega
      obtain ⟨b', o', rfl, hc⟩ := (HC.out.below B3.out) k hlt
      cases hn : decide (0 ≤ nth l k)
      · go_wp2_with fail
        refine (next_any C p' d' _ C3.out).mono ?_
        rintro r w4 ⟨rfl, c4, k4⟩
        have C4 := hide c4
        have R4 := hide (R3.out.kb k4 (by omega) (by omega))
        have B4 := hide (KB.below B3.out k4 (by omega))
        clear c4 k4
        go_wp2_with fail
        refine (rnext_any R w.heap.size p' d' _ R4.out (by omega)).mono ?_
        rintro r w5 ⟨rfl, r5, k5⟩
        have C5 := hide (C4.out.kb k5 (by omega))
        have R5 := hide r5
        have B5 := hide (KB.below B4.out k5 (by omega))
        clear r5 k5
        have D5 : Hid (∀ x ∈ d', 0 ≤ x) := D3.out
        generalize hpp : p'.tail = pp at C5 R5
        cases hnk : nok p'
        all_goals
          go_wp2_with fail
          refine (left_any C pp d' _ C5.out).mono ?_
          rintro r w6 ⟨rfl, b6⟩
          have C6 := hide (C5.out.below b6)
          have R6 := hide (R5.out.below b6)
          have B6 := hide (btr B5.out b6)
          clear b6
          obtain ⟨oa', ca', ob', cb', u, v, s, t, ⟨y0, y1, y2, y3⟩, y4, y5, y6, y7, y8, y9⟩ := rcur_seen R6.out
          go_wp2_with fail
          go_quiet (fail)
          go_wp2_with fail
          go_roundw
          case rel => exact ⟨k + 1, pp, d', by omega, by go_num, ⟨C6.out.below (bdrew _ _), R6.out.below (bdrew _ _)⟩, D5.out, btr B6.out (bdrew _ _)⟩
          case measure => simp [intOf]; omega
      · go_wp2_with fail
        refine (draw_any C p' d' (nth l k) _ C3.out D3.out).mono ?_
        rintro r w4 ⟨rfl, c4, k4⟩
        have C4 := hide c4
        have R4 := hide (R3.out.kb k4 (by omega) (by omega))
        have B4 := hide (KB.below B3.out k4 (by omega))
        clear c4 k4
        go_wp2_with fail
        refine (rdraw_any R w.heap.size p' d' (nth l k) _ R4.out (by omega) D3.out).mono ?_
        rintro r w5 ⟨rfl, r5, k5⟩
        have C5 := hide (C4.out.kb k5 (by omega))
        have R5 := hide r5
        have B5 := hide (KB.below B4.out k5 (by omega))
        have D5 : Hid (∀ x ∈ dr d' (nth l k), 0 ≤ x) := fun x hx => D3.out x (dr_sub hx)
        clear r5 k5
        generalize dr d' (nth l k) = dd at C5 R5 D5
        go_wp2_with fail
        refine (left_any C p' dd _ C5.out).mono ?_
        rintro r w6 ⟨rfl, b6⟩
        have C6 := hide (C5.out.below b6)
        have R6 := hide (R5.out.below b6)
        have B6 := hide (btr B5.out b6)
        clear b6
        obtain ⟨oa', ca', ob', cb', u, v, s, t, ⟨y0, y1, y2, y3⟩, y4, y5, y6, y7, y8, y9⟩ := rcur_seen R6.out
        go_wp2_with fail
        go_quiet (fail)
        go_wp2_with fail
        go_roundw
        case rel => exact ⟨k + 1, p', dd, by omega, by go_num, ⟨C6.out.below (bdrew _ _), R6.out.below (bdrew _ _)⟩, D5.out, btr B6.out (bdrew _ _)⟩
        case measure => simp [intOf]; omega
    · have hlt' : ¬ ((k : Int) < (l.length : Int)) := by omega
      go_wp2_with fail
      refine (draws_any _).mono ?_
      rintro r w8 ⟨rfl, b8⟩
      have B8 := hide (btr B3.out b8)
      clear b8
      go_wp2_with fail
      go_ret
      exact ⟨rfl, B8.out⟩


/-! ### the row -/
set_option maxRecDepth 100000 in
theorem lifted (os : Os) (started : os.Started) (H : Type) (enc : TypeId × Value → H) :
    ReturnsInHanded {} Try.checked os 3 .any (Rows.pickStepsSpec.pre6 enc Try.prog Try.f3 Rows.pickStepsRow.domain false) (Rows.pickStepsSpec.post enc Try.prog Try.f3 false true false false) := by
  refine returnsInHanded_of_change (C := Try.checked) own started (by kernel_rfl) Try.func3
    (ChangeSpec.witness6 (enc := enc) (C := Try.checked) false ⟨#[], #[.slice none 0 0, .slice none 0 0, .slice none 0 0], []⟩ 8 (by kernel_rfl) (by kernel_rfl) (by kernel_rfl) (by kernel_rfl)) ?_
  intro W base args ds gs before hval0 hW hcnd _
  have hval : ∀ (j : Nat) t v, Try.f3.params[j]? = some t → args[j]? = some v → Value.okWide Try.prog W .any base t v := hval0
  have hW' := hW
  obtain ⟨p, q, hA0, hV, rfl, hfz, hnd⟩ := hW
  have hA : DataW.TrodAll enc Try.prog W 0 (fun _ => true) true Try.f3.params.toList args.toList ds p := hA0
  rw [Try.params3] at hA hval
  obtain ⟨v0, vs0, d0, ds0, p0, q0, hargs, rfl, rfl, h0, r0⟩ := trodAll_cons hA
  obtain ⟨v1, vs1, d1, ds1, p1, q1, rfl, rfl, rfl, h1, r1⟩ := trodAll_cons r0
  obtain ⟨v2, vs2, d2, ds2, p2, q2, rfl, rfl, rfl, h2, r2⟩ := trodAll_cons r1
  obtain ⟨rfl, rfl, rfl⟩ := trodAll_nil r2
  obtain rfl : args = #[v0, v1, v2] := by cases args; simp_all
  obtain ⟨rfl, rfl⟩ := trodVars_none hV
  obtain ⟨oa0, n0, c0, rfl⟩ := okWide_slice Try.underlying22 (hval 0 22 v0 rfl rfl)
  have k0 := h0
  have lt0 : ∀ x ∈ p0, x.block < W.heap.size := by obtain ⟨m, hm⟩ := k0; exact DataW.trod_lt m _ _ _ hm
  obtain ⟨l0, rfl, A0, C0, M0⟩ := h0.elim fun _ hf => ints_open hf
  obtain ⟨oa1, n1, c1, rfl⟩ := okWide_slice Try.underlying22 (hval 1 22 v1 rfl rfl)
  have k1 := h1
  have lt1 : ∀ x ∈ p1, x.block < W.heap.size := by obtain ⟨m, hm⟩ := k1; exact DataW.trod_lt m _ _ _ hm
  obtain ⟨l1, rfl, A1, C1, M1⟩ := h1.elim fun _ hf => ints_open hf
  obtain ⟨oa2, n2, c2, rfl⟩ := okWide_slice Try.underlying22 (hval 2 22 v2 rfl rfl)
  have k2 := h2
  have lt2 : ∀ x ∈ p2, x.block < W.heap.size := by obtain ⟨m, hm⟩ := k2; exact DataW.trod_lt m _ _ _ hm
  obtain ⟨l2, rfl, A2, C2, M2⟩ := h2.elim fun _ hf => ints_open hf
  clear hA0 hval0
  refine (core (w := W) oa0 l0 c0 A0 (Nat.le_trans C0 M0) oa1 l1 c1 A1 (Nat.le_trans C1 M1) oa2 l2 c2 A2 (Nat.le_trans C2 M2)).mono fun e W' ⟨he, bel⟩ => ?_
  subst he
  exact ⟨_, rfl, _, _, _, [], _, [], hW', trodAll_mk1 (shut_bool Try.underlying4 _), (trodAll_cons_mk (Below.trod laidOut (by kernel_rfl) (of_decide_eq_true (by kernel_rfl)) k0 bel lt0) (trodAll_cons_mk (Below.trod laidOut (by kernel_rfl) (of_decide_eq_true (by kernel_rfl)) k1 bel lt1) (trodAll_cons_mk (Below.trod laidOut (by kernel_rfl) (of_decide_eq_true (by kernel_rfl)) k2 bel lt2) trodAll_mk0))), rfl, bel.frame _, fun h => by cases h⟩

theorem over : Rows.pickStepsRow.holds Try.pinned (OpenSpec.ofChange Rows.pickStepsSpec) :=
  OpenClaim.holds_of_wide 3 Try.f3 rfl rfl rfl rfl rfl rfl rfl ⟨rfl, rfl, rfl, rfl, rfl⟩ rfl rfl rfl rfl rfl (by kernel_rfl) Try.func3 (by kernel_rfl)
    (of_decide_eq_true (by kernel_rfl)) (by unfold Func.isWrapper; first | (rw [if_pos (by decide +kernel)]; kernel_rfl) | (rw [if_neg (by decide +kernel)]; exact ⟨rfl, rfl⟩))
    (fun os started H enc _ => lifted os started H enc)

/-- the statement -/
theorem proved : Rows.PickStepsSaid := over
#print axioms proved
end Go.Proofs.Ytabbmfaklekojab.pickSteps
