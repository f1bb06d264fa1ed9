/- What is ahead of what is what the document says, for each trace of up to 28 events; what is no trace is refused. -/
import Derived.Test.YtblfimobiibmjaaGreatZjAh19
import Derived.Deep.Cut
import Derived.Deep.QuietTactic
import Derived.BigQuiet
import Derived.ShutString
import Derived.ChangeOld
import Derived.Below
namespace Go.Proofs.YtblfimobiibmjaaGreat.axiomAhead
open Go.ChangeShapes Go.WideShapes Go.ChangeAt Go.RowKit
open Go.ChangeMaps (open_string shut_string)
open Ax Eg En Ba

theorem own : ownKnob Tryz.prog.godebug = none := by kernel_rfl
theorem laidOut : laidOutB Tryz.prog = true := by kernel_rfl

set_option maxRecDepth 100000 in
set_option maxHeartbeats 3200000 in
theorem big {w : World} (oa : Option Addr) (n c : Nat) (hm : n ≤ maxLen) (h : 28 < n) :
    Calls Tryz.prog 5 #[.slice oa n c] w fun e w' => e = .returned (.bool true) ∧ Below w.heap.size w w' := by
  unfold maxLen at hm
  have FV := Ba.hide (write_any w)
  have d1 : decide ((28 : Int) < (n : Int)) = true := by simp; omega
  have d2 : decide (28 < n) = true := by simp; omega
  go_enter Tryz.func5, Tryz.ntmps5
  go_wp2_with fail
  refine FV.out.mono ?_
  rintro r w1 ⟨rfl, b1⟩
  have B1 := Ba.hide b1
  clear b1
  go_wp2_with fail
  go_ret
  exact ⟨rfl, B1.out⟩
set_option maxRecDepth 100000 in
set_option maxHeartbeats 12800000 in
theorem core {w : World} (oa : Option Addr) (l : List Ev) (c : Nat) (hA : Gu.EsAt w oa l ∧ l.length ≤ c) (hm : l.length ≤ maxLen) :
    Calls Tryz.prog 5 #[.slice oa l.length c] w fun e w' => e = .returned (.bool true) ∧ Below w.heap.size w w' := by
  by_cases hb : 28 < l.length
  · exact big oa l.length c hm hb
  obtain ⟨hA, hc⟩ := hA
  have FV := Ba.hide (fun u => write_any u)
  have RG := Ba.hide (fun u (b : Below w.heap.size w u) => right_any24 oa l c u (hA.below b) (by omega) hc)
  cases ht : tokB l
  · have C1 := Ba.hide (ahead_no oa l c w hA (by omega) ht)
    rw [ht] at RG
    obtain ⟨M, hM⟩ : ∃ M, l.length = M := ⟨_, rfl⟩
    rw [hM] at C1 RG hb ⊢
    have d1 : decide ((28 : Int) < (M : Int)) = false := by simp; omega
    have d2 : decide (28 < M) = false := by simp; omega
    clear hA hm hb ht hM hc
    go_enter Tryz.func5, Tryz.ntmps5
    go_wp2_with fail
    refine C1.out.mono ?_
    rintro r w1 ⟨rfl, b1⟩
    have B1 := Ba.hide b1
    clear b1 C1
    go_wp2_with fail
    refine (RG.out _ B1.out).mono ?_
    rintro r w2 ⟨rfl, b2⟩
    have B2 := Ba.hide (Ba.btr B1.out b2)
    clear b2
    go_wp2_with fail
    refine (FV.out _).mono ?_
    rintro r w3 ⟨rfl, b3⟩
    have B3 := Ba.hide (Ba.btr B2.out b3)
    clear b3
    go_wp2_with fail
    go_ret
    exact ⟨rfl, B3.out⟩
  have hT := tokB_iff.1 ht
  have C1 := Ba.hide (ahead_yes oa l c w hA (by omega) ht)
  have RA := Ba.hide (fun u (b : Below w.heap.size w u) => of_any oa l c u (hA.below b) hT (by omega))
  rw [ht] at RG
  have HP := Ba.hide (fun (i k : Nat) (hi : i < l.length) (hk : k < l.length) (u : World) (P R W : Nat) (m : Mx.MW u P R W l.length (ahd l)) => mw_has m hi hk)
  have HR := Ba.hide (fun (i k : Nat) (hi : i < l.length) (hk : k < l.length) (u : World) (N G : Nat) (t : TR u N G oa l) => t.has hi hk)
  obtain ⟨M, hM⟩ : ∃ M, l.length = M := ⟨_, rfl⟩
  have HM := Ba.hide hM
  rw [hM] at C1 RG RA HP HR hb ⊢
  have d1 : decide ((28 : Int) < (M : Int)) = false := by simp; omega
  have d2 : decide (28 < M) = false := by simp; omega
  clear hA hm ht hM hT hc
  go_enter Tryz.func5, Tryz.ntmps5
  go_wp2_with fail
  refine C1.out.mono ?_
  rintro r w1 ⟨P, R, W, rfl, m1, b1⟩
  have B1 := Ba.hide b1
  have M1 := Ba.hide m1
  clear b1 C1 m1
  go_wp2_with fail
  refine (RG.out _ B1.out).mono ?_
  rintro r w2 ⟨rfl, b2⟩
  have B2 := Ba.hide (Ba.btr B1.out b2)
  have M2 := Ba.hide (M1.out.below b2)
  clear b2
  go_wp2_with fail
  refine (RA.out _ B2.out).mono ?_
  rintro r w3 ⟨G, rfl, t3, b3⟩
  have bx := Ba.below_alloc w3 (.cells #[.slice oa M c, .pointer (some ⟨G, 0, none⟩)] 44)
  have B3 := Ba.hide (Ba.btr (Ba.btr B2.out b3) bx)
  have M3 := Ba.hide ((M2.out.below b3).below bx)
  have T3 := Ba.hide (t3.below bx)
  have X3 := Ba.hide (Ba.heap_new w3 (.cells #[.slice oa M c, .pointer (some ⟨G, 0, none⟩)] 44))
  have SZ := Ba.hide (Mx.size_any M3.out)
  clear b3 t3 RA bx RG
  go_upto_region 7 with fail
  obtain ⟨w4, hw4⟩ : ∃ x, w3.alloc (.cells #[.slice oa M c, .pointer (some ⟨G, 0, none⟩)] 44) = x := ⟨_, rfl⟩
  rw [hw4] at B3 M3 T3 X3 SZ ⊢
  clear hw4
  go_wp2_with fail
  refine SZ.out.mono ?_
  rintro r w5 ⟨rfl, rfl⟩
  go_wp2_with fail
  go_loopw [46] (fun iv wr => ∃ i : Nat, i ≤ M ∧ iv = .int .i64 (i : Int) ∧ Below w5.heap.size w5 wr) (fun iv _ => M - (intOf iv).toNat)
  case atStart => exact ⟨0, by omega, rfl, Below.refl _ _⟩
  case round =>
    obtain ⟨i, hi, rfl, bl⟩ := hrel
    have BL := Ba.hide bl
    by_cases hlt : i < M
    · have hlt' : (i : Int) < (M : Int) := by omega
      clear bl
      go_wp2_with fail
      go_loopw [51] (fun iv w6 => ∃ k : Nat, k ≤ M ∧ iv = .int .i64 (k : Int) ∧ Below w5.heap.size w5 w6) (fun iv _ => M - (intOf iv).toNat)
      case atStart => exact ⟨0, by omega, rfl, BL.out⟩
      case round =>
        rename World => w6
        obtain ⟨k, hk, rfl, b6⟩ := hrel
        have B6 := Ba.hide b6
        by_cases hlk : k < M
        · have hlk' : (k : Int) < (M : Int) := by omega
          have X6 := Ba.hide (Ba.heap_below X3.out b6)
          have x1 := cell_of X6.out 1
          simp at x1
          have H1 := Ba.hide (fun nq => HP.out i k hlt hlk (w6.drewN nq) P R W (M3.out.below (Ba.btr b6 (Ba.bdrew w6 nq))))
          have H2 := Ba.hide (fun nq => HR.out i k hlt hlk (w6.drewN nq) _ G (T3.out.below (Ba.btr b6 (Ba.bdrew w6 nq))))
          obtain ⟨z, hz⟩ : ∃ z, hA l i k = z := ⟨_, rfl⟩
          rw [hz] at H1 H2
          clear b6 hz
          go_wp2_with fail
          go_quiet (first | (go_at_call 21; exact Calls.quiet_of (H1.out _)) | (go_at_call 22; exact Calls.quiet_of_same (H2.out _)))
          have dz : (z != z) = false := by simp
          go_wp2_with fail
          go_roundw
          case measure => simp [intOf]; omega
          case rel => exact ⟨k + 1, by omega, by simp, Ba.btr B6.out (Ba.bdrew w6 nq)⟩
        · obtain rfl : k = M := by omega
          clear b6
          go_wp2_with fail
          go_roundw
          case measure => simp [intOf]; omega
          case rel => exact ⟨i + 1, by omega, by simp, B6.out⟩
    · obtain rfl : i = M := by omega
      clear bl
      go_wp2_with fail
      refine (FV.out _).mono ?_
      rintro r w7 ⟨rfl, b7⟩
      have B7 := Ba.hide (Ba.btr B3.out (Ba.btr BL.out b7))
      clear b7
      go_wp2_with fail
      go_ret
      exact ⟨rfl, B7.out⟩

/-! ### the row -/
set_option maxRecDepth 100000 in
theorem lifted (os : Os) (started : os.Started) (H : Type) (enc : TypeId × Value → H) :
    ReturnsInHanded {} Tryz.checked os 5 .any (Rows.axiomAheadSpec.pre6 enc Tryz.prog Tryz.f5 Rows.axiomAheadRow.domain false) (Rows.axiomAheadSpec.post enc Tryz.prog Tryz.f5 false true false false) := by
  refine returnsInHanded_of_change (C := Tryz.checked) own started (by kernel_rfl) Tryz.func5
    (ChangeSpec.witness6 (enc := enc) (C := Tryz.checked) false ⟨#[], #[.slice none 0 0], []⟩ 8 (by kernel_rfl) (by kernel_rfl) (by kernel_rfl) (by kernel_rfl)) ?_
  intro W base args ds gs before hval0 hW hcnd _
  have hval : ∀ (j : Nat) t v, Tryz.f5.params[j]? = some t → args[j]? = some v → Value.okWide Tryz.prog W .any base t v := hval0
  have hW' := hW
  obtain ⟨p, q, hA0, hV, rfl, hfz, hnd⟩ := hW
  have hA : DataW.TrodAll enc Tryz.prog W 0 (fun _ => true) true Tryz.f5.params.toList args.toList ds p := hA0
  rw [Tryz.params5] at hA hval
  obtain ⟨v0, vs0, d0, ds0, p0, q0, hargs, rfl, rfl, h0, r0⟩ := trodAll_cons hA
  obtain ⟨rfl, rfl, rfl⟩ := trodAll_nil r0
  obtain rfl : args = #[v0] := by cases args; simp_all
  obtain ⟨rfl, rfl⟩ := trodVars_none hV
  obtain ⟨oa0, n0, c0, rfl⟩ := okWide_slice Tryz.underlying22 (hval 0 22 v0 rfl rfl)
  have k0 := h0
  have lt0 : ∀ x ∈ p0, x.block < W.heap.size := by obtain ⟨m, hm⟩ := k0; exact DataW.trod_lt m _ _ _ hm
  obtain ⟨l0, rfl, A0, C0, M0⟩ := h0.elim fun _ hf => Gu.events_openC hf
  clear hA0 hval0
  refine (core (w := W) oa0 l0 c0 A0 (Nat.le_trans C0 M0)).mono fun e W' ⟨he, bel⟩ => ?_
  subst he
  exact ⟨_, rfl, _, _, _, [], _, [], hW', trodAll_mk1 (shut_bool Tryz.underlying4 _), (trodAll_cons_mk (Below.trod laidOut (by kernel_rfl) (of_decide_eq_true (by kernel_rfl)) k0 bel lt0) trodAll_mk0), rfl, bel.frame _, fun h => by cases h⟩

theorem over : Rows.axiomAheadRow.holds Tryz.pinned (OpenSpec.ofChange Rows.axiomAheadSpec) :=
  OpenClaim.holds_of_wide 5 Tryz.f5 rfl rfl rfl rfl rfl rfl rfl ⟨rfl, rfl, rfl, rfl, rfl⟩ rfl rfl rfl rfl rfl (by kernel_rfl) Tryz.func5 (by kernel_rfl)
    (of_decide_eq_true (by kernel_rfl)) (by unfold Func.isWrapper; first | (rw [if_pos (by decide +kernel)]; kernel_rfl) | (rw [if_neg (by decide +kernel)]; exact ⟨rfl, rfl⟩))
    (fun os started H enc _ => lifted os started H enc)

/-- the statement -/
theorem proved : Rows.AxiomAheadSaid := over
#print axioms proved
end Go.Proofs.YtblfimobiibmjaaGreat.axiomAhead
