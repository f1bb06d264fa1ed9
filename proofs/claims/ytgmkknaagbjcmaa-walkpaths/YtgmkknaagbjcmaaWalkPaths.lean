/- The places of every trace, its end, the direction there are what the document says, for every list of events. -/
import Derived.Test.YtgmkknaagbjcmaaFw7
import Derived.Test.YtgmkknaagbjcmaaBo
import Derived.ShutString
import Derived.ChangeOld
import Derived.Below
namespace Go.Proofs.Ytgmkknaagbjcmaa.walkPaths
open Go.ChangeShapes Go.WideShapes Go.ChangeAt Go.RowKit
open Go.ChangeMaps (open_string shut_string)
open Fw Fl

theorem own : ownKnob Try.prog.godebug = none := by kernel_rfl
theorem laidOut : laidOutB Try.prog = true := by kernel_rfl

set_option maxRecDepth 100000 in
set_option maxHeartbeats 1600000 in
theorem big {w : World} (oa : Option Addr) (n c : Nat) (hm : n ≤ maxLen) (h : 2100 < n) :
    Calls Try.prog 3 #[.slice oa n c] w fun e w' => e = .returned (.bool true) ∧ Below w.heap.size w w' := by
  unfold maxLen at hm
  have TH := Ba.hide (two_any w)
  have d1 : decide ((2100 : Int) < (n : Int)) = true := by simp; omega
  have d2 : decide (2100 < n) = true := by simp; omega
  go_enter Try.func3, Try.ntmps3
  go_wp2_with fail
  refine TH.out.mono ?_
  rintro r w1 ⟨rfl, b1⟩
  have B1 := Ba.hide b1
  clear b1
  go_wp2_with fail
  go_ret
  exact ⟨rfl, B1.out⟩
set_option maxRecDepth 100000 in
set_option maxHeartbeats 1600000 in
theorem long {w : World} (oa : Option Addr) (n c : Nat) (h1 : n ≤ 2100) (h : 2000 < n) :
    Calls Try.prog 3 #[.slice oa n c] w fun e w' => e = .returned (.bool true) ∧ Below w.heap.size w w' := by
  have TH := Ba.hide (two_any w)
  have P1 := Ba.hide (path_long oa n c w h (by unfold maxLen; omega))
  have P2 := Ba.hide (end_long oa n c w h (by unfold maxLen; omega))
  have d1 : decide ((2100 : Int) < (n : Int)) = false := by simp; omega
  have d2 : decide (2100 < n) = false := by simp; omega
  have d3 : decide ((2000 : Int) < (n : Int)) = true := by simp; omega
  have d4 : decide (2000 < n) = true := by simp; omega
  go_enter Try.func3, Try.ntmps3
  go_wp2_with fail
  refine P1.out.mono ?_
  rintro r w1 ⟨rfl, rfl⟩
  go_wp2_with fail
  refine P2.out.mono ?_
  rintro r w1 ⟨rfl, rfl⟩
  go_wp2_with fail
  refine TH.out.mono ?_
  rintro r w1 ⟨rfl, b1⟩
  have B1 := Ba.hide b1
  clear b1
  go_wp2_with fail
  go_ret
  exact ⟨rfl, B1.out⟩
set_option maxRecDepth 100000 in
set_option maxHeartbeats 6400000 in
theorem core {w : World} (oa : Option Addr) (l : List Ev) (c : Nat) (hA : EsAt w oa l) (hm : l.length ≤ maxLen) :
    Calls Try.prog 3 #[.slice oa l.length c] w fun e w' => e = .returned (.bool true) ∧ Below w.heap.size w w' := by
  by_cases hb : 2100 < l.length
  · exact big oa l.length c hm hb
  by_cases hg : 2000 < l.length
  · exact long oa l.length c (by omega) hg
  have HA := Ba.hide hA
  have PA := Ba.hide (path_any oa l c w hA (by omega))
  have EN := Ba.hide (fun u (b : Below w.heap.size w u) => end_any oa l c u (hA.below b) (by omega))
  have RA := Ba.hide (fun u (b : Below w.heap.size w u) => rpath_any oa l c u (hA.below b) (by omega))
  have TD := Ba.hide (tw_hi (stI l).2.2)
  have BD := Ba.hide (fun i (hi : i ≤ l.length) => st_bd l i hi)
  have LAST : Hid (pl l l.length = ((stI l).1, (stI l).2.1)) := by show pl l l.length = _; unfold pl; rw [List.take_length]
  have BE := Ba.hide (st_bd l l.length (Nat.le_refl _))
  rw [List.take_length] at BE
  obtain ⟨N, hN⟩ : ∃ N, l.length = N := ⟨_, rfl⟩
  obtain ⟨Q, hQ⟩ : ∃ Q, N + 1 = Q := ⟨_, rfl⟩
  unfold PaR at PA
  unfold EnR at EN
  unfold RpR at RA
  rw [hN] at PA EN RA LAST BD BE hb hg ⊢
  rw [hQ] at PA RA
  have q1 : (Q : Int) - 1 = (N : Int) := by omega
  have q2 : 0 < Q := by omega
  have q3 : N < Q := by omega
  have q4 : (N : Int) < (Q : Int) := by omega
  have q5 : ((Q : Int) != (Q : Int)) = false := by simp
  have q6 : (0 : Int) ≤ (N : Int) := by omega
  have q7 : (Q != Q) = false := by simp
  have hN2 : N ≤ 2000 := by omega
  have hQ2 : Q ≤ 2001 := by omega
  have d1 : decide ((2100 : Int) < (N : Int)) = false := by simp; omega
  have d2 : decide (2100 < N) = false := by simp; omega
  have d3 : decide ((2000 : Int) < (N : Int)) = false := by simp; omega
  have d4 : decide (2000 < N) = false := by simp; omega
  have PB : Hid (∀ i, i < Q → (pl l i).1.natAbs ≤ 1000000000000 ∧ (pl l i).2.natAbs ≤ 1000000000000) := fun i hi => by
    have := BD.out i (by omega)
    unfold pl
    omega
  clear hA hm hN hQ hb hg
  obtain ⟨t, ht⟩ : ∃ t, (stI l).2.2 = t := ⟨_, rfl⟩
  rw [ht] at EN RA TD
  obtain ⟨d1w, hd1⟩ : ∃ z, (tw t).1 = z := ⟨_, rfl⟩
  obtain ⟨d2w, hd2⟩ : ∃ z, (tw t).2 = z := ⟨_, rfl⟩
  rw [hd1, hd2] at EN TD
  have DB := dx_bd t
  have DC := dy_bd t
  have WD := Ba.hide (fun u => whole_any d1w d2w (dx t) (dy t) (dx t) (dy t) u TD.out.1 TD.out.2 (by omega) (by omega))
  simp only [decide_true, Bool.and_self] at WD
  clear hd1 hd2 ht TD DB DC BD
  generalize dx t = D1 at *
  generalize dy t = D2 at *
  go_enter Try.func3, Try.ntmps3
  go_wp2_with fail
  refine PA.out.mono ?_
  rintro r w1 ⟨pa, pc, rfl, -, za, b1⟩
  have ZA := Ba.hide za
  have B1 := Ba.hide b1
  clear za b1 PA
  go_wp2_with fail
  refine (EN.out _ B1.out).mono ?_
  rintro r w2 ⟨a, b, rfl, ha, hb, b2⟩
  have ZA2 := Ba.hide (ZA.out.below b2)
  have B2 := Ba.hide (Ba.btr B1.out b2)
  clear b2 ZA B1 EN
  go_wp2_with fail
  refine (RA.out _ B2.out).mono ?_
  rintro r w3 ⟨ra, rc, rfl, qa, b3⟩
  have ZA3 := Ba.hide (ZA2.out.below (Ba.btr b3 (Ba.below_alloc w3 (.cells #[.slice ra Q rc, .int .i64 D1, .int .i64 D2] 35))))
  have QA3 := Ba.hide (qa.below (Ba.below_alloc w3 (.cells #[.slice ra Q rc, .int .i64 D1, .int .i64 D2] 35)))
  have B3 := Ba.hide (Ba.btr (Ba.btr B2.out b3) (Ba.below_alloc w3 (.cells #[.slice ra Q rc, .int .i64 D1, .int .i64 D2] 35)))
  have HP := Ba.hide (Ba.heap_new w3 (.cells #[.slice ra Q rc, .int .i64 D1, .int .i64 D2] 35))
  clear qa b3 ZA2 B2 RA
  obtain ⟨rb, ro, rfl, x1, x2⟩ := QA3.out N q3
  rw [LAST.out] at x1 x2
  simp only at x1 x2
  have WL := Ba.hide (fun u => whole_any a b (stI l).1 (stI l).2.1 (stI l).1 (stI l).2.1 u ha hb (by have := BE.out.1; omega) (by have := BE.out.2.1; omega))
  simp only [decide_true, Bool.and_self] at WL
  generalize (stI l).1 = S1 at *
  generalize (stI l).2.1 = S2 at *
  clear LAST BE ha hb
  go_upto_region 8 with fail
  generalize w3.alloc (.cells #[.slice (some ⟨rb, ro, none⟩) Q rc, .int .i64 D1, .int .i64 D2] 35) = W4 at *
  obtain ⟨A, hA⟩ : ∃ A, w3.heap.size = A := ⟨_, rfl⟩
  rw [hA] at HP ⊢
  clear hA
  have y0 : W4.cell? ⟨A, 0, none⟩ = some (.slice (some ⟨rb, ro, none⟩) Q rc) := Ba.cell_of HP.out 0
  go_wp2_with fail
  refine (WL.out _).mono ?_
  rintro r w5 ⟨rfl, b5⟩
  have ZA5 := Ba.hide (ZA3.out.below b5)
  have QA5 := Ba.hide (QA3.out.below b5)
  have HP5 := Ba.hide (Ba.heap_below HP.out b5)
  have B5 := Ba.hide (Ba.btr B3.out b5)
  clear b5 x1 x2 y0 ZA3 QA3 HP B3
  have y1 : w5.cell? ⟨A, 1, none⟩ = some (.int .i64 D1) := Ba.cell_of HP5.out 1
  have y2 : w5.cell? ⟨A, 2, none⟩ = some (.int .i64 D2) := Ba.cell_of HP5.out 2
  go_wp2_with fail
  refine (WD.out _).mono ?_
  rintro r w6 ⟨rfl, b6⟩
  have ZA6 := Ba.hide (ZA5.out.below b6)
  have QA6 := Ba.hide (QA5.out.below b6)
  have HP6 := Ba.hide (Ba.heap_below HP5.out b6)
  have B6 := Ba.hide (Ba.btr B5.out b6)
  clear b6 y1 y2 ZA5 QA5 HP5 B5
  go_wp2_with fail
  go_loopw [80] (fun i wr => ∃ k : Nat, k ≤ Q ∧ i = .int .i64 (k : Int) ∧ Below w6.heap.size w6 wr) (fun i _ => Q - (intOf i).toNat)
  case atStart => exact ⟨0, Nat.zero_le _, rfl, Below.refl _ _⟩
  case round =>
    obtain ⟨k, hk, rfl, bl⟩ := hrel
    have BL := Ba.hide bl
    clear bl
    by_cases hlt : k < Q
    · have hlt' : (k : Int) < (Q : Int) := by omega
      obtain ⟨pb, po, p, q, rfl, c1, h1, h2⟩ := ZA6.out.below BL.out k hlt
      obtain ⟨rb', ro', e, c2, c3⟩ := QA6.out.below BL.out k hlt
      cases e
      have WK := Ba.hide (fun u => whole_any p q (pl l k).1 (pl l k).2 (pl l k).1 (pl l k).2 u h1 h2 (PB.out k hlt).1 (PB.out k hlt).2)
      simp only [decide_true, Bool.and_self] at WK
      generalize (pl l k).1 = X1 at *
      generalize (pl l k).2 = X2 at *
      have HP7 := Ba.heap_below HP6.out BL.out
      have y0 : wr.cell? ⟨A, 0, none⟩ = some (.slice (some ⟨rb, ro, none⟩) Q rc) := Ba.cell_of HP7 0
      clear HP7 h1 h2
      go_wp2_with fail
      go_region_held3 (fun w' => w'.cell? ⟨pb, po + k, none⟩ = some (.complex .f64 p q) ∧ w'.cell? ⟨A, 0, none⟩ = some (.slice (some ⟨rb, ro, none⟩) Q rc) ∧ w'.cell? ⟨rb, ro + k * 2, none⟩ = some (.int .i64 X1) ∧ w'.cell? ⟨rb, ro + k * 2 + 1, none⟩ = some (.int .i64 X2))
        (first
          | (go_keep; done)
          | (go_split_ands; refine ⟨?_, ?_, ?_, ?_⟩ <;> (refine cellB ?_ b7; assumption)))
        ((go_at_call 12; refine (WK.out _).mono ?_; rintro r w7 ⟨rfl, b7⟩))
      have B7 := Ba.hide (Ba.btr (Ba.btr BL.out (Ba.bdrew1 _)) b7)
      clear b7
      go_wp2_with fail
      go_roundw
      case rel => exact ⟨k + 1, by omega, by go_num, B7.out⟩
      case measure => simp [intOf]; omega
    · have hlt' : ¬ ((k : Int) < (Q : Int)) := by omega
      go_wp2_with fail
      refine (two_any _).mono ?_
      rintro r w7 ⟨rfl, b7⟩
      have B7 := Ba.hide (Ba.btr (Ba.btr B6.out BL.out) b7)
      clear b7
      go_wp2_with fail
      go_ret
      exact ⟨rfl, B7.out⟩

/-! ### the row -/
set_option maxRecDepth 100000 in
theorem lifted (os : Os) (started : os.Started) (H : Type) (enc : TypeId × Value → H) :
    ReturnsInHanded {} Try.checked os 3 .any (Rows.walkPathsSpec.pre6 enc Try.prog Try.f3 Rows.walkPathsRow.domain false) (Rows.walkPathsSpec.post enc Try.prog Try.f3 false true false false) := by
  refine returnsInHanded_of_change (C := Try.checked) own started (by kernel_rfl) Try.func3
    (ChangeSpec.witness6 (enc := enc) (C := Try.checked) false ⟨#[], #[.slice none 0 0], []⟩ 8 (by kernel_rfl) (by kernel_rfl) (by kernel_rfl) (by kernel_rfl)) ?_
  intro W base args ds gs before hval0 hW hcnd _
  have hval : ∀ (j : Nat) t v, Try.f3.params[j]? = some t → args[j]? = some v → Value.okWide Try.prog W .any base t v := hval0
  have hW' := hW
  obtain ⟨p, q, hA0, hV, rfl, hfz, hnd⟩ := hW
  have hA : DataW.TrodAll enc Try.prog W 0 (fun _ => true) true Try.f3.params.toList args.toList ds p := hA0
  rw [Try.params3] at hA hval
  obtain ⟨v0, vs0, d0, ds0, p0, q0, hargs, rfl, rfl, h0, r0⟩ := trodAll_cons hA
  obtain ⟨rfl, rfl, rfl⟩ := trodAll_nil r0
  obtain rfl : args = #[v0] := by cases args; simp_all
  obtain ⟨rfl, rfl⟩ := trodVars_none hV
  obtain ⟨oa0, n0, c0, rfl⟩ := okWide_slice Try.underlying22 (hval 0 22 v0 rfl rfl)
  have k0 := h0
  have lt0 : ∀ x ∈ p0, x.block < W.heap.size := by obtain ⟨m, hm⟩ := k0; exact DataW.trod_lt m _ _ _ hm
  obtain ⟨l0, rfl, A0, C0, M0⟩ := h0.elim fun _ hf => events_open hf
  clear hA0 hval0
  refine (core (w := W) oa0 l0 c0 A0 (Nat.le_trans C0 M0)).mono fun e W' ⟨he, bel⟩ => ?_
  subst he
  exact ⟨_, rfl, _, _, _, [], _, [], hW', trodAll_mk1 (shut_bool Try.underlying4 _), (trodAll_cons_mk (Below.trod laidOut (by kernel_rfl) (of_decide_eq_true (by kernel_rfl)) k0 bel lt0) trodAll_mk0), rfl, bel.frame _, fun h => by cases h⟩

theorem over : Rows.walkPathsRow.holds Try.pinned (OpenSpec.ofChange Rows.walkPathsSpec) :=
  OpenClaim.holds_of_wide 3 Try.f3 rfl rfl rfl rfl rfl rfl rfl ⟨rfl, rfl, rfl, rfl, rfl⟩ rfl rfl rfl rfl rfl (by kernel_rfl) Try.func3 (by kernel_rfl)
    (of_decide_eq_true (by kernel_rfl)) (by unfold Func.isWrapper; first | (rw [if_pos (by decide +kernel)]; kernel_rfl) | (rw [if_neg (by decide +kernel)]; exact ⟨rfl, rfl⟩))
    (fun os started H enc _ => lifted os started H enc)

/-- the statement -/
theorem proved : Rows.WalkPathsSaid := over
#print axioms proved
end Go.Proofs.Ytgmkknaagbjcmaa.walkPaths
