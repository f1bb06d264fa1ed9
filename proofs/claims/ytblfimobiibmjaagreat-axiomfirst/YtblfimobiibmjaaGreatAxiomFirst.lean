/- Each cell's first race is what the document says, for each trace of up to 28 events. -/
import Derived.Test.YtblfimobiibmjaaGreatZjAh19
import Derived.Test.YtblfimobiibmjaaGreatAxe
import Derived.Deep.Cut
import Derived.Deep.QuietTactic
import Derived.BigQuiet
import Derived.ShutString
import Derived.ChangeOld
import Derived.Below
namespace Go.Proofs.YtblfimobiibmjaaGreat.axiomFirst
open Go.ChangeShapes Go.WideShapes Go.ChangeAt Go.RowKit
open Go.ChangeMaps (open_string shut_string)
open Ax Eg En Ba

theorem own : ownKnob Tryz.prog.godebug = none := by kernel_rfl
theorem laidOut : laidOutB Tryz.prog = true := by kernel_rfl

set_option maxRecDepth 100000 in
set_option maxHeartbeats 3200000 in
theorem big {w : World} (oa : Option Addr) (n c : Nat) (i : Int) (hm : n ≤ maxLen) (h : 28 < n) :
    Calls Tryz.prog 7 #[.slice oa n c, .int .i64 i] w fun e w' => e = .returned (.bool true) ∧ Below w.heap.size w w' := by
  unfold maxLen at hm
  have FV := Ba.hide (write_any w)
  have d1 : decide ((28 : Int) < (n : Int)) = true := by simp; omega
  have d2 : decide (28 < n) = true := by simp; omega
  go_enter Tryz.func7, Tryz.ntmps7
  go_wp2_with fail
  refine FV.out.mono ?_
  rintro r w1 ⟨rfl, b1⟩
  have B1 := Ba.hide b1
  clear b1
  go_wp2_with fail
  go_ret
  exact ⟨rfl, B1.out⟩
set_option maxRecDepth 100000 in
set_option maxHeartbeats 12800000 in
theorem core {w : World} (oa : Option Addr) (l : List Ev) (c : Nat) (hA : Gu.EsAt w oa l ∧ l.length ≤ c) (hm : l.length ≤ maxLen) (i : Int) :
    Calls Tryz.prog 7 #[.slice oa l.length c, .int .i64 i] w fun e w' => e = .returned (.bool true) ∧ Below w.heap.size w w' := by
  by_cases hb : 28 < l.length
  · exact big oa l.length c i hm hb
  obtain ⟨hA, hc⟩ := hA
  have FV := Ba.hide (fun u => write_any u)
  have RG := Ba.hide (fun u (b : Below w.heap.size w u) => right_any24 oa l c u (hA.below b) (by omega) hc)
  cases ht : tokB l
  · have N1 := Ba.hide (first_no oa l c i w hA (by omega) ht)
    rw [ht] at RG
    obtain ⟨M, hM⟩ : ∃ M, l.length = M := ⟨_, rfl⟩
    rw [hM] at N1 RG hb ⊢
    have d1 : decide ((28 : Int) < (M : Int)) = false := by simp; omega
    have d2 : decide (28 < M) = false := by simp; omega
    clear hA hm hb ht hM hc
    go_enter Tryz.func7, Tryz.ntmps7
    go_wp2_with fail
    refine N1.out.mono ?_
    rintro r w1 ⟨rfl, b1⟩
    have B1 := Ba.hide b1
    clear b1
    go_wp2_with fail
    refine (RG.out _ B1.out).mono ?_
    rintro r w3 ⟨rfl, b3⟩
    have B3 := Ba.hide (Ba.btr B1.out b3)
    clear b3
    go_wp2_with fail
    refine (FV.out _).mono ?_
    rintro r w9 ⟨rfl, b9⟩
    have B9 := Ba.hide (Ba.btr B3.out b9)
    clear b9
    go_wp2_with fail
    go_ret
    exact ⟨rfl, B9.out⟩
  have hT := tokB_iff.1 ht
  have N1 := Ba.hide (first_yes oa l c i w hA (by omega) ht)
  have OF := Ba.hide (fun u (b : Below w.heap.size w u) => of_any oa l c u (hA.below b) hT (by omega))
  rw [ht] at RG
  by_cases q0 : i < 0
  · have qa : cellB8 i = false := by unfold cellB8; simp; omega
    unfold firA cellE at N1
    rw [qa] at N1
    simp only [Bool.false_eq_true, if_false] at N1
    obtain ⟨M, hM⟩ : ∃ M, l.length = M := ⟨_, rfl⟩
    rw [hM] at N1 RG hb ⊢
    have d1 : decide ((28 : Int) < (M : Int)) = false := by simp; omega
    have d2 : decide (28 < M) = false := by simp; omega
    clear hA hm hb ht hM hc qa OF
    go_enter Tryz.func7, Tryz.ntmps7
    go_wp2_with fail
    refine N1.out.mono ?_
    rintro r w1 ⟨rfl, b1⟩
    have B1 := Ba.hide b1
    clear b1
    go_wp2_with fail
    refine (RG.out _ B1.out).mono ?_
    rintro r w3 ⟨rfl, b3⟩
    have B3 := Ba.hide (Ba.btr B1.out b3)
    clear b3
    go_wp2_with fail
    refine (FV.out _).mono ?_
    rintro r w9 ⟨rfl, b9⟩
    have B9 := Ba.hide (Ba.btr B3.out b9)
    clear b9
    go_wp2_with fail
    go_ret
    exact ⟨rfl, B9.out⟩
  by_cases q1 : 7 < i
  · have qa : cellB8 i = false := by unfold cellB8; simp; omega
    unfold firA cellE at N1
    rw [qa] at N1
    simp only [Bool.false_eq_true, if_false] at N1
    obtain ⟨M, hM⟩ : ∃ M, l.length = M := ⟨_, rfl⟩
    rw [hM] at N1 RG hb ⊢
    have d1 : decide ((28 : Int) < (M : Int)) = false := by simp; omega
    have d2 : decide (28 < M) = false := by simp; omega
    clear hA hm hb ht hM hc qa OF
    go_enter Tryz.func7, Tryz.ntmps7
    go_wp2_with fail
    refine N1.out.mono ?_
    rintro r w1 ⟨rfl, b1⟩
    have B1 := Ba.hide b1
    clear b1
    go_wp2_with fail
    refine (RG.out _ B1.out).mono ?_
    rintro r w3 ⟨rfl, b3⟩
    have B3 := Ba.hide (Ba.btr B1.out b3)
    clear b3
    go_wp2_with fail
    refine (FV.out _).mono ?_
    rintro r w9 ⟨rfl, b9⟩
    have B9 := Ba.hide (Ba.btr B3.out b9)
    clear b9
    go_wp2_with fail
    go_ret
    exact ⟨rfl, B9.out⟩
  have qa : cellB8 i = true := by unfold cellB8; simp; omega
  unfold firA cellE at N1
  rw [qa] at N1
  simp only [if_true] at N1
  have KR := Ba.hide (fun u N G (t : TR u N G oa l) => rfirst_any u N G oa l c i t (by omega) hc)
  have FB : ∀ a, firF (Ax.hA l) l i l.length = some a → a < l.length := fun a h => (fir_at h).1
  obtain ⟨o, ho⟩ : ∃ o, firF (Ax.hA l) l i l.length = o := ⟨_, rfl⟩
  rw [ho] at N1 KR FB
  obtain ⟨M, hM⟩ : ∃ M, l.length = M := ⟨_, rfl⟩
  rw [hM] at N1 RG OF KR FB hb ⊢
  have d1 : decide ((28 : Int) < (M : Int)) = false := by simp; omega
  have d2 : decide (28 < M) = false := by simp; omega
  clear hA hm ht hM hc qa ho hT
  cases o with
  | none =>
    have N1 : Hid (Calls Tryz.prog 27 _ w fun r w' => r = .returned (.tuple #[.int .i64 0, .bool false, .int .i64 0]) ∧ Below w.heap.size w w') := N1
    have KR : Hid (∀ u N G (t : TR u N G oa l), Calls Tryz.prog 28 _ u fun r w' => r = .returned (.int .i64 (-1)) ∧ Below u.heap.size u w') := KR
    go_enter Tryz.func7, Tryz.ntmps7
    go_wp2_with fail
    refine N1.out.mono ?_
    rintro r w1 ⟨rfl, b1⟩
    have B1 := Ba.hide b1
    clear b1
    go_wp2_with fail
    refine (RG.out _ B1.out).mono ?_
    rintro r w3 ⟨rfl, b3⟩
    have B3 := Ba.hide (Ba.btr B1.out b3)
    clear b3
    go_wp2_with fail
    refine (OF.out _ B3.out).mono ?_
    rintro r w4 ⟨G, rfl, t4, b4⟩
    have B4 := Ba.hide (Ba.btr B3.out b4)
    have K4 := Ba.hide (KR.out w4 _ G t4)
    clear b4 t4
    go_wp2_with fail
    refine K4.out.mono ?_
    rintro r w5 ⟨rfl, b5⟩
    have B5 := Ba.hide (Ba.btr B4.out b5)
    clear b5
    go_wp2_with fail
    refine (FV.out _).mono ?_
    rintro r w9 ⟨rfl, b9⟩
    have B9 := Ba.hide (Ba.btr B5.out b9)
    clear b9
    go_wp2_with fail
    go_ret
    exact ⟨rfl, B9.out⟩
  | some a =>
    have ab := FB a rfl
    have a0 : (0 : Int) ≤ (a : Int) := by omega
    have a1 : ¬ ((a : Int) < 0) := by omega
    clear FB
    have N1 : Hid (Calls Tryz.prog 27 _ w fun r w' => r = .returned (.tuple #[.int .i64 (a : Int), .bool true, .int .i64 0]) ∧ Below w.heap.size w w') := N1
    have KR : Hid (∀ u N G (t : TR u N G oa l), Calls Tryz.prog 28 _ u fun r w' => r = .returned (.int .i64 (a : Int)) ∧ Below u.heap.size u w') := KR
    go_enter Tryz.func7, Tryz.ntmps7
    go_wp2_with fail
    refine N1.out.mono ?_
    rintro r w1 ⟨rfl, b1⟩
    have B1 := Ba.hide b1
    clear b1
    go_wp2_with fail
    refine (RG.out _ B1.out).mono ?_
    rintro r w3 ⟨rfl, b3⟩
    have B3 := Ba.hide (Ba.btr B1.out b3)
    clear b3
    go_wp2_with fail
    refine (OF.out _ B3.out).mono ?_
    rintro r w4 ⟨G, rfl, t4, b4⟩
    have B4 := Ba.hide (Ba.btr B3.out b4)
    have K4 := Ba.hide (KR.out w4 _ G t4)
    clear b4 t4
    go_wp2_with fail
    refine K4.out.mono ?_
    rintro r w5 ⟨rfl, b5⟩
    have B5 := Ba.hide (Ba.btr B4.out b5)
    clear b5
    go_wp2_with fail
    refine (FV.out _).mono ?_
    rintro r w9 ⟨rfl, b9⟩
    have B9 := Ba.hide (Ba.btr B5.out b9)
    clear b9
    go_wp2_with fail
    go_ret
    exact ⟨rfl, B9.out⟩

/-! ### the row -/
set_option maxRecDepth 100000 in
theorem lifted (os : Os) (started : os.Started) (H : Type) (enc : TypeId × Value → H) :
    ReturnsInHanded {} Tryz.checked os 7 .any (Rows.axiomFirstSpec.pre6 enc Tryz.prog Tryz.f7 Rows.axiomFirstRow.domain false) (Rows.axiomFirstSpec.post enc Tryz.prog Tryz.f7 false true false false) := by
  refine returnsInHanded_of_change (C := Tryz.checked) own started (by kernel_rfl) Tryz.func7
    (ChangeSpec.witness6 (enc := enc) (C := Tryz.checked) false ⟨#[], #[.slice none 0 0, .int .i64 0], []⟩ 8 (by kernel_rfl) (by kernel_rfl) (by kernel_rfl) (by kernel_rfl)) ?_
  intro W base args ds gs before hval0 hW hcnd _
  have hval : ∀ (j : Nat) t v, Tryz.f7.params[j]? = some t → args[j]? = some v → Value.okWide Tryz.prog W .any base t v := hval0
  have hW' := hW
  obtain ⟨p, q, hA0, hV, rfl, hfz, hnd⟩ := hW
  have hA : DataW.TrodAll enc Tryz.prog W 0 (fun _ => true) true Tryz.f7.params.toList args.toList ds p := hA0
  rw [Tryz.params7] at hA hval
  obtain ⟨v0, vs0, d0, ds0, p0, q0, hargs, rfl, rfl, h0, r0⟩ := trodAll_cons hA
  obtain ⟨v1, vs1, d1, ds1, p1, q1, rfl, rfl, rfl, h1, r1⟩ := trodAll_cons r0
  obtain ⟨rfl, rfl, rfl⟩ := trodAll_nil r1
  obtain rfl : args = #[v0, v1] := by cases args; simp_all
  obtain ⟨rfl, rfl⟩ := trodVars_none hV
  obtain ⟨oa0, n0, c0, rfl⟩ := okWide_slice Tryz.underlying22 (hval 0 22 v0 rfl rfl)
  have k0 := h0
  have lt0 : ∀ x ∈ p0, x.block < W.heap.size := by obtain ⟨m, hm⟩ := k0; exact DataW.trod_lt m _ _ _ hm
  obtain ⟨l0, rfl, A0, C0, M0⟩ := h0.elim fun _ hf => Gu.events_openC hf
  obtain ⟨a1, rfl, rfl, rfl, w1⟩ := open_int Tryz.underlying3 (hval 1 3 v1 rfl rfl) h1
  clear hA0 hval0
  refine (core (w := W) oa0 l0 c0 A0 (Nat.le_trans C0 M0) a1).mono fun e W' ⟨he, bel⟩ => ?_
  subst he
  exact ⟨_, rfl, _, _, _, [], _, [], hW', trodAll_mk1 (shut_bool Tryz.underlying4 _), (trodAll_cons_mk (Below.trod laidOut (by kernel_rfl) (of_decide_eq_true (by kernel_rfl)) k0 bel lt0) (trodAll_cons_mk (shut_int Tryz.underlying3 w1) trodAll_mk0)), rfl, bel.frame _, fun h => by cases h⟩

theorem over : Rows.axiomFirstRow.holds Tryz.pinned (OpenSpec.ofChange Rows.axiomFirstSpec) :=
  OpenClaim.holds_of_wide 7 Tryz.f7 rfl rfl rfl rfl rfl rfl rfl ⟨rfl, rfl, rfl, rfl, rfl⟩ rfl rfl rfl rfl rfl (by kernel_rfl) Tryz.func7 (by kernel_rfl)
    (of_decide_eq_true (by kernel_rfl)) (by unfold Func.isWrapper; first | (rw [if_pos (by decide +kernel)]; kernel_rfl) | (rw [if_neg (by decide +kernel)]; exact ⟨rfl, rfl⟩))
    (fun os started H enc _ => lifted os started H enc)

/-- the statement -/
theorem proved : Rows.AxiomFirstSaid := over
#print axioms proved
end Go.Proofs.YtblfimobiibmjaaGreat.axiomFirst
