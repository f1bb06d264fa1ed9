/- For every list of steps and every goroutine, the law CrewExits returns true, so who exited stays so and a place never falls: under no condition. -/
import Derived.Test.YtgpmefbmbfbjcaaMh
import Derived.ShutString
import Derived.ChangeOld
import Derived.Below
namespace Go.Proofs.Ytgpmefbmbfbjcaa.crewExits
open Go.ChangeShapes Go.WideShapes Go.ChangeAt Go.RowKit
open Go.ChangeMaps (open_string shut_string)
open Cr Ba

theorem own : ownKnob Try.prog.godebug = none := by kernel_rfl
theorem laidOut : laidOutB Try.prog = true := by kernel_rfl

set_option maxRecDepth 100000 in
set_option maxHeartbeats 6400000 in
theorem core {w : World} (oa : Option Addr) (L : List (List Int)) (c : Nat) (hA : RAt w oa 2 L) (hl : L.length ≤ maxLen) (g : Int) :
    Calls Try.prog 4 #[.slice oa L.length c, .int .i64 g] w fun r w' => r = .returned (.bool true) ∧ Below w.heap.size w w' := by
  have HA := hide hA
  unfold maxLen at hl
  clear hA
  by_cases h3 : 300 < L.length
  · have h3' : (300 : Int) < (L.length : Int) := by omega
    go_enter Try.func4, Try.ntmps4
    go_wp2_with fail
    refine (new_any _).mono ?_
    rintro r w1 ⟨rfl, -, b1⟩
    have B1 := hide b1
    clear b1
    go_wp2_with fail
    refine (two_any _).mono ?_
    rintro r w2 ⟨rfl, b2⟩
    have B2 := hide (btr B1.out b2)
    clear b2
    go_wp2_with fail
    go_ret
    exact ⟨rfl, B2.out⟩
  have h3' : ¬ (300 : Int) < (L.length : Int) := by omega
  go_enter Try.func4, Try.ntmps4
  go_wp2_with fail
  refine (new_any _).mono ?_
  rintro r w1 ⟨rfl, p1, b1⟩
  have TD : Hid (Td w (w1.alloc (.cells #[.slice none 0 0] 29)) w.heap.size _ w1.heap.size _ [] []) := td0 p1 b1
  clear p1 b1
  go_wp2_with fail
  generalize w1.alloc (.cells #[.slice none 0 0] 29) = W at TD ⊢
  generalize w1.heap.size = G at TD ⊢
  generalize w.heap.size = B at TD ⊢
  go_loopw [7, 8, 33] (fun e n i wr => ∃ (k : Nat) (l : List Mb) (F H : Nat → Prop), k ≤ L.length ∧ i = .int .i64 k ∧ e = .bool (exB l g) ∧ n = .int .i64 (pq l g) ∧ Bn k l ∧ Td w wr B F G H l l) (fun _ _ i _ => L.length - (intOf i).toNat)
  case atStart => exact ⟨0, [], _, _, Nat.zero_le _, rfl, by rw [exB_nil], by rw [pq_nil], Bn.nil 0, TD.out⟩
  case round =>
    clear TD
    obtain ⟨k, l, F, H, hk, rfl, rfl, rfl, bn, t2⟩ := hrel
    have BN := hide bn
    have T2 := hide t2
    clear bn t2
    by_cases hlt : k < L.length
    · have hlt' : (k : Int) < (L.length : Int) := by omega
      obtain ⟨x, hx⟩ : ∃ x, L[k]? = some x := ⟨_, List.getElem?_eq_getElem hlt⟩
      obtain ⟨b', o', rfl, hc⟩ := (HA.out.below T2.out.b) k x hx
      have q0 := hc 0 (by decide)
      have q1 := hc 1 (by decide)
      rw [Nat.add_zero] at q0
      clear hc hx
      generalize nth x 0 = what at q0
      generalize nth x 1 = v at q1
      have T3 := hide (T2.out.below (below_alloc wr (.cells #[.int .i64 what, .int .i64 v] 31)))
      have DO := hide (does_any w _ B F G H l k what v T3.out BN.out (by omega))
      have BN2 := hide (BN.out.st what v)
      have EX := hide (st_ex l what v g)
      have PQ := hide (st_q l what v g)
      generalize stL what v l = l' at DO BN2 EX PQ
      have hb1 := ps_b BN2.out g
      have hb2 := pq_b BN2.out g
      have ST := hide fun F u (hu : PC u B F l') => state_any B F l' g u hu
      have AT := hide fun F u (hu : PC u B F l') => at_any B F l' g u hu
      have EE : Hid (exB l' g = (thr l' g && (ps l' g == 2))) := rfl
      rw [show (one0 (gt l' g)).s = ps l' g from rfl] at ST
      rw [show (one0 (gt l' g)).q = pq l' g from rfl] at AT
      generalize (one0 (gt l' g)).p = pp at AT
      have hle := PQ.out
      generalize pq l g = n0 at PQ hle ⊢
      generalize hN1 : pq l' g = n1 at PQ AT hb2 hle
      have HN1 := hide hN1
      clear hN1
      generalize thr l' g = th at ST AT EE
      generalize ps l' g = s1 at ST EE hb1
      generalize exB l g = e0 at EX ⊢
      generalize hE1 : exB l' g = e1 at EX EE
      have HE1 := hide hE1
      clear hE1
      go_wp2_with fail
      refine DO.out.mono ?_
      rintro r w4 ⟨rfl, F4, H4, t4, -⟩
      have T4 := hide t4
      clear t4 DO T3
      go_wp2_with fail
      refine (ST.out _ _ T4.out.p).mono ?_
      rintro r w5 ⟨rfl, rfl⟩
      go_wp2_with fail
      refine (AT.out _ _ T4.out.p).mono ?_
      rintro r w6 ⟨rfl, b6⟩
      have T6 := hide (T4.out.below b6)
      clear b6 T4 ST AT
      have hnl : ¬ n1 < n0 := by omega
      have hn0 : ¬ s1 < 0 := by omega
      have hn2 : ¬ 2 < s1 := by omega
      cases e0
      · cases th
        · clear EX
          go_wp2_with fail
          go_roundw
          case rel => exact ⟨k + 1, l', F4, H4, by omega, by go_num, congrArg Value.bool (by rw [HE1.out, EE.out]; rfl), congrArg (Value.int .i64) HN1.out.symm, BN2.out, T6.out⟩
          case measure => simp [intOf]; omega
        · clear EX
          cases hs : s1 == 2
          · have HS := hide hs
            go_wp2_with fail
            go_roundw
            case rel => exact ⟨k + 1, l', F4, H4, by omega, by go_num, congrArg Value.bool (by rw [HE1.out, EE.out]; rw [HS.out]; rfl), congrArg (Value.int .i64) HN1.out.symm, BN2.out, T6.out⟩
            case measure => simp [intOf]; omega
          · have HS := hide hs
            go_wp2_with fail
            go_roundw
            case rel => exact ⟨k + 1, l', F4, H4, by omega, by go_num, congrArg Value.bool (by rw [HE1.out, EE.out]; rw [HS.out]; rfl), congrArg (Value.int .i64) HN1.out.symm, BN2.out, T6.out⟩
            case measure => simp [intOf]; omega
      · have h1 := EX.out rfl
        rw [EE.out] at h1
        obtain ⟨h1, h2⟩ := Bool.and_eq_true_iff.1 h1
        subst h1
        have HS := hide h2
        have h2' : (s1 != 2) = false := by simpa using h2
        go_wp2_with fail
        go_roundw
        case rel => exact ⟨k + 1, l', F4, H4, by omega, by go_num, congrArg Value.bool (by rw [HE1.out, EE.out]; rw [HS.out]; rfl), congrArg (Value.int .i64) HN1.out.symm, BN2.out, T6.out⟩
        case measure => simp [intOf]; omega
    · have hlt' : ¬ ((k : Int) < (L.length : Int)) := by omega
      go_wp2_with fail
      refine (two_any _).mono ?_
      rintro r w7 ⟨rfl, b7⟩
      have B7 := hide (btr T2.out.b b7)
      clear b7
      go_wp2_with fail
      go_ret
      exact ⟨rfl, B7.out⟩

/-! ### the row -/
set_option maxRecDepth 100000 in
theorem lifted (os : Os) (started : os.Started) (H : Type) (enc : TypeId × Value → H) :
    ReturnsInHanded {} Try.checked os 4 .any (Rows.crewExitsSpec.pre6 enc Try.prog Try.f4 Rows.crewExitsRow.domain false) (Rows.crewExitsSpec.post enc Try.prog Try.f4 false true false false) := by
  refine returnsInHanded_of_change (C := Try.checked) own started (by kernel_rfl) Try.func4
    (ChangeSpec.witness6 (enc := enc) (C := Try.checked) false ⟨#[], #[.slice none 0 0, .int .i64 0], []⟩ 8 (by kernel_rfl) (by kernel_rfl) (by kernel_rfl) (by kernel_rfl)) ?_
  intro W base args ds gs before hval0 hW hcnd _
  have hval : ∀ (j : Nat) t v, Try.f4.params[j]? = some t → args[j]? = some v → Value.okWide Try.prog W .any base t v := hval0
  have hW' := hW
  obtain ⟨p, q, hA0, hV, rfl, hfz, hnd⟩ := hW
  have hA : DataW.TrodAll enc Try.prog W 0 (fun _ => true) true Try.f4.params.toList args.toList ds p := hA0
  rw [Try.params4] at hA hval
  obtain ⟨v0, vs0, d0, ds0, p0, q0, hargs, rfl, rfl, h0, r0⟩ := trodAll_cons hA
  obtain ⟨v1, vs1, d1, ds1, p1, q1, rfl, rfl, rfl, h1, r1⟩ := trodAll_cons r0
  obtain ⟨rfl, rfl, rfl⟩ := trodAll_nil r1
  obtain rfl : args = #[v0, v1] := by cases args; simp_all
  obtain ⟨rfl, rfl⟩ := trodVars_none hV
  obtain ⟨oa0, n0, c0, rfl⟩ := okWide_slice Try.underlying22 (hval 0 22 v0 rfl rfl)
  have k0 := h0
  have lt0 : ∀ x ∈ p0, x.block < W.heap.size := by obtain ⟨m, hm⟩ := k0; exact DataW.trod_lt m _ _ _ hm
  obtain ⟨l0, rfl, A0, C0, M0⟩ := h0.elim fun _ hf => steps_open hf
  obtain ⟨a1, rfl, rfl, rfl, w1⟩ := open_int Try.underlying3 (hval 1 3 v1 rfl rfl) h1
  clear hA0 hval0
  refine (core (w := W) oa0 l0 c0 A0 (Nat.le_trans C0 M0) a1).mono fun e W' ⟨he, bel⟩ => ?_
  subst he
  exact ⟨_, rfl, _, _, _, [], _, [], hW', trodAll_mk1 (shut_bool Try.underlying4 _), (trodAll_cons_mk (Below.trod laidOut (by kernel_rfl) (of_decide_eq_true (by kernel_rfl)) k0 bel lt0) (trodAll_cons_mk (shut_int Try.underlying3 w1) trodAll_mk0)), rfl, bel.frame _, fun h => by cases h⟩

theorem over : Rows.crewExitsRow.holds Try.pinned (OpenSpec.ofChange Rows.crewExitsSpec) :=
  OpenClaim.holds_of_wide 4 Try.f4 rfl rfl rfl rfl rfl rfl rfl ⟨rfl, rfl, rfl, rfl, rfl⟩ rfl rfl rfl rfl rfl (by kernel_rfl) Try.func4 (by kernel_rfl)
    (of_decide_eq_true (by kernel_rfl)) (by unfold Func.isWrapper; first | (rw [if_pos (by decide +kernel)]; kernel_rfl) | (rw [if_neg (by decide +kernel)]; exact ⟨rfl, rfl⟩))
    (fun os started H enc _ => lifted os started H enc)

/-- the statement -/
theorem proved : Rows.CrewExitsSaid := over
#print axioms proved
end Go.Proofs.Ytgpmefbmbfbjcaa.crewExits
