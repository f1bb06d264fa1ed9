/- EdgeAll: of layer 24. -/
import Derived.Test.YtblfimobiibmjaaGreatZjEh16
import Derived.Deep.Cut
import Derived.Deep.QuietTactic
import Derived.BigQuiet
import Derived.ShutString
import Derived.ChangeOld
import Derived.Below
namespace Go.Proofs.YtblfimobiibmjaaGreat.edgeAll
open Go.ChangeShapes Go.WideShapes Go.ChangeAt Go.RowKit
open Go.ChangeMaps (open_string shut_string)
open Eg En Ba

theorem own : ownKnob Tryz.prog.godebug = none := by kernel_rfl
theorem laidOut : laidOutB Tryz.prog = true := by kernel_rfl

set_option maxRecDepth 100000 in
set_option maxHeartbeats 3200000 in
theorem big {w : World} (oa : Option Addr) (n c : Nat) (hm : n ≤ maxLen) (h : 40 < n) :
    Calls Tryz.prog 3 #[.slice oa n c] w fun e w' => e = .returned (.bool true) ∧ Below w.heap.size w w' := by
  unfold maxLen at hm
  have FV := Ba.hide (five_any w)
  have d1 : decide ((40 : Int) < (n : Int)) = true := by simp; omega
  have d2 : decide (40 < n) = true := by simp; omega
  go_enter Tryz.func3, Tryz.ntmps3
  go_wp2_with fail
  refine FV.out.mono ?_
  rintro r w1 ⟨rfl, b1⟩
  have B1 := Ba.hide b1
  clear b1
  go_wp2_with fail
  go_ret
  exact ⟨rfl, B1.out⟩
set_option maxRecDepth 100000 in
set_option maxHeartbeats 12800000 in
theorem core {w : World} (oa : Option Addr) (l : List Ev) (c : Nat) (hA : Gu.EsAt w oa l ∧ l.length ≤ c) (hm : l.length ≤ maxLen) :
    Calls Tryz.prog 3 #[.slice oa l.length c] w fun e w' => e = .returned (.bool true) ∧ Below w.heap.size w w' := by
  by_cases hb : 40 < l.length
  · exact big oa l.length c hm hb
  obtain ⟨hA, hc⟩ := hA
  have FV := Ba.hide (fun u => five_any u)
  have RG := Ba.hide (fun u (b : Below w.heap.size w u) => right_any24 oa l c u (hA.below b) (by omega) hc)
  cases ht : tokB l
  · have C1 := Ba.hide (All_no oa l c w hA (by omega) ht)
    rw [ht] at RG
    obtain ⟨M, hM⟩ : ∃ M, l.length = M := ⟨_, rfl⟩
    rw [hM] at C1 RG hb ⊢
    have d1 : decide ((40 : Int) < (M : Int)) = false := by simp; omega
    have d2 : decide (40 < M) = false := by simp; omega
    clear hA hm hb ht hM hc
    go_enter Tryz.func3, Tryz.ntmps3
    go_wp2_with fail
    refine C1.out.mono ?_
    rintro r w1 ⟨rfl, b1⟩
    have B1 := Ba.hide b1
    clear b1 C1
    go_wp2_with fail
    refine (RG.out _ B1.out).mono ?_
    rintro r w2 ⟨rfl, b2⟩
    have B2 := Ba.hide (Ba.btr B1.out b2)
    clear b2
    go_wp2_with fail
    refine (FV.out _).mono ?_
    rintro r w3 ⟨rfl, b3⟩
    have B3 := Ba.hide (Ba.btr B2.out b3)
    clear b3
    go_wp2_with fail
    go_ret
    exact ⟨rfl, B3.out⟩
  have hT := tokB_iff.1 ht
  have AL : (allS l).length ≤ 100000 := by
    have h1 := allD_len (isB l) l.length l.length (Nat.le_refl _)
    have h2 : l.length * (l.length * 6) ≤ 40 * 240 := Nat.mul_le_mul (by omega) (by omega)
    unfold allS
    omega
  have C1 := Ba.hide (All_yes oa l c w hA (by omega) ht)
  have RA := Ba.hide (fun u (b : Below w.heap.size w u) => rall24_any oa l c u (hA.below b) hT (by omega))
  rw [ht] at RG
  obtain ⟨R, hR⟩ : ∃ R, allS l = R := ⟨_, rfl⟩
  rw [hR] at C1 RA AL
  obtain ⟨M, hM⟩ : ∃ M, l.length = M := ⟨_, rfl⟩
  rw [hM] at C1 RG RA hb ⊢
  have d1 : decide ((40 : Int) < (M : Int)) = false := by simp; omega
  have d2 : decide (40 < M) = false := by simp; omega
  clear hA hm hb ht hM hT hR hc
  go_enter Tryz.func3, Tryz.ntmps3
  go_wp2_with fail
  refine C1.out.mono ?_
  rintro r w1 ⟨va, rfl, o1, b1⟩
  have B1 := Ba.hide b1
  obtain ⟨ea, ca, rfl, -, -⟩ := o1.sl
  have O1 := Ba.hide o1
  clear b1 C1 o1
  go_wp2_with fail
  refine (RG.out _ B1.out).mono ?_
  rintro r w2 ⟨rfl, b2⟩
  have B2 := Ba.hide (Ba.btr B1.out b2)
  have O2 := Ba.hide (O1.out.below b2)
  clear b2
  go_wp2_with fail
  refine (RA.out _ B2.out).mono ?_
  rintro r w3 ⟨vr, rfl, o3, b3⟩
  have B3 := Ba.hide (Ba.btr B2.out b3)
  obtain ⟨er, cr, rfl, -, -⟩ := o3.sl
  have SM := Ba.hide (same_any w3 _ _ ea er ca cr R (O2.out.below b3) o3 AL)
  clear b3 o3
  go_wp2_with fail
  refine SM.out.mono ?_
  rintro r w4 ⟨rfl, m, h4⟩
  have b4 : Below w3.heap.size w3 w4 := by rw [h4]; exact bdrew _ _
  have B4 := Ba.hide (Ba.btr B3.out b4)
  clear h4 b4
  go_wp2_with fail
  refine (FV.out _).mono ?_
  rintro r w5 ⟨rfl, b5⟩
  have B5 := Ba.hide (Ba.btr B4.out b5)
  clear b5
  go_wp2_with fail
  go_ret
  exact ⟨rfl, B5.out⟩

/-! ### the row -/
set_option maxRecDepth 100000 in
theorem lifted (os : Os) (started : os.Started) (H : Type) (enc : TypeId × Value → H) :
    ReturnsInHanded {} Tryz.checked os 3 .any (Rows.edgeAllSpec.pre6 enc Tryz.prog Tryz.f3 Rows.edgeAllRow.domain false) (Rows.edgeAllSpec.post enc Tryz.prog Tryz.f3 false true false false) := by
  refine returnsInHanded_of_change (C := Tryz.checked) own started (by kernel_rfl) Tryz.func3
    (ChangeSpec.witness6 (enc := enc) (C := Tryz.checked) false ⟨#[], #[.slice none 0 0], []⟩ 8 (by kernel_rfl) (by kernel_rfl) (by kernel_rfl) (by kernel_rfl)) ?_
  intro W base args ds gs before hval0 hW hcnd _
  have hval : ∀ (j : Nat) t v, Tryz.f3.params[j]? = some t → args[j]? = some v → Value.okWide Tryz.prog W .any base t v := hval0
  have hW' := hW
  obtain ⟨p, q, hA0, hV, rfl, hfz, hnd⟩ := hW
  have hA : DataW.TrodAll enc Tryz.prog W 0 (fun _ => true) true Tryz.f3.params.toList args.toList ds p := hA0
  rw [Tryz.params3] at hA hval
  obtain ⟨v0, vs0, d0, ds0, p0, q0, hargs, rfl, rfl, h0, r0⟩ := trodAll_cons hA
  obtain ⟨rfl, rfl, rfl⟩ := trodAll_nil r0
  obtain rfl : args = #[v0] := by cases args; simp_all
  obtain ⟨rfl, rfl⟩ := trodVars_none hV
  obtain ⟨oa0, n0, c0, rfl⟩ := okWide_slice Tryz.underlying22 (hval 0 22 v0 rfl rfl)
  have k0 := h0
  have lt0 : ∀ x ∈ p0, x.block < W.heap.size := by obtain ⟨m, hm⟩ := k0; exact DataW.trod_lt m _ _ _ hm
  obtain ⟨l0, rfl, A0, C0, M0⟩ := h0.elim fun _ hf => Gu.events_openC hf
  clear hA0 hval0
  refine (core (w := W) oa0 l0 c0 A0 (Nat.le_trans C0 M0)).mono fun e W' ⟨he, bel⟩ => ?_
  subst he
  exact ⟨_, rfl, _, _, _, [], _, [], hW', trodAll_mk1 (shut_bool Tryz.underlying4 _), (trodAll_cons_mk (Below.trod laidOut (by kernel_rfl) (of_decide_eq_true (by kernel_rfl)) k0 bel lt0) trodAll_mk0), rfl, bel.frame _, fun h => by cases h⟩

theorem over : Rows.edgeAllRow.holds Tryz.pinned (OpenSpec.ofChange Rows.edgeAllSpec) :=
  OpenClaim.holds_of_wide 3 Tryz.f3 rfl rfl rfl rfl rfl rfl rfl ⟨rfl, rfl, rfl, rfl, rfl⟩ rfl rfl rfl rfl rfl (by kernel_rfl) Tryz.func3 (by kernel_rfl)
    (of_decide_eq_true (by kernel_rfl)) (by unfold Func.isWrapper; first | (rw [if_pos (by decide +kernel)]; kernel_rfl) | (rw [if_neg (by decide +kernel)]; exact ⟨rfl, rfl⟩))
    (fun os started H enc _ => lifted os started H enc)

/-- the statement -/
theorem proved : Rows.EdgeAllSaid := over
#print axioms proved
end Go.Proofs.YtblfimobiibmjaaGreat.edgeAll
