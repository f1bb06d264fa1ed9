/- For every two numbers, the law ReelSizes returns true, so a greater number has as many bytes at least, never more than seven, and what is no number has none: under no condition. -/
import Derived.Test.YtkgddkpolckacabRows
import Derived.WalkKit
import Derived.ProofKit
import Derived.OpenShut
import Derived.Test.YtkgddkpolckacabEg
import Derived.ChangeOld
import Derived.Below
import Derived.ShutString
namespace Go.Proofs.Ytkgddkpolckacab.reelSizes
open Go.ChangeShapes Go.WideShapes Go.ChangeAt Go.RowKit
open Go.ChangeMaps (open_string shut_string)
set_option linter.unusedVariables false      -- a walk need not use every 'w<i>' (that an integer argument fits its kind)

theorem own : ownKnob Try.prog.godebug = none := by kernel_rfl

open Re Ba
set_option maxHeartbeats 3200000
theorem nb_mono {a b : Nat} (h : a ≤ b) : nb a ≤ nb b := by
  unfold nb
  by_cases h1 : a < 256
  · rw [if_pos h1]
    exact nb_pos b
  rw [if_neg h1, if_neg (by omega : ¬ b < 256)]
  by_cases h2 : a < 65536
  · rw [if_pos h2]
    repeat' split
    all_goals omega
  rw [if_neg h2, if_neg (by omega : ¬ b < 65536)]
  by_cases h3 : a < 16777216
  · rw [if_pos h3]
    repeat' split
    all_goals omega
  rw [if_neg h3, if_neg (by omega : ¬ b < 16777216)]
  by_cases h4 : a < 4294967296
  · rw [if_pos h4]
    repeat' split
    all_goals omega
  rw [if_neg h4, if_neg (by omega : ¬ b < 4294967296)]
  by_cases h5 : a < 1099511627776
  · rw [if_pos h5]
    repeat' split
    all_goals omega
  rw [if_neg h5, if_neg (by omega : ¬ b < 1099511627776)]
  exact Nat.le_refl _
theorem spl_mono {a b : Nat} (h : a ≤ b) : (spl a).length ≤ (spl b).length := by
  by_cases h1 : a < 240
  · rw [spl_lo a h1]
    exact (spl_len b).1
  · rw [spl_hi a (by omega), spl_hi b (by omega), List.length_cons, List.length_cons, dg_length, dg_length]
    have := nb_mono h
    omega
/-- how many bytes any number has -/
def sz (n : Int) : Nat := bif okR n then (spl n.toNat).length else 0
theorem size_int (n : Int) (w : World) :
    Calls Try.prog 9 #[.int .i64 n] w fun r w' => r = .returned (.int .i64 (sz n : Int)) ∧ Below w.heap.size w w' := by
  cases h : okR n
  · refine (size_no n h w).mono ?_
    rintro r w' ⟨rfl, rfl⟩
    exact ⟨by simp [sz, h], Below.refl _ _⟩
  · obtain ⟨h0, h1⟩ := (okR_iff n).1 h
    obtain ⟨k, rfl⟩ := Int.eq_ofNat_of_zero_le h0
    refine (size_ok k (by omega) w).mono ?_
    rintro r w' ⟨rfl, hb⟩
    exact ⟨by simp [sz, h], hb⟩
theorem sz_ok (n : Int) (h : okR n = true) : 1 ≤ sz n ∧ sz n ≤ 7 := by
  simp only [sz, h, cond_true]
  exact spl_len _
theorem sz_no (n : Int) (h : okR n = false) : sz n = 0 := by simp [sz, h]
theorem sz_mono (a b : Int) (ha : okR a = true) (hb : okR b = true) (h : a ≤ b) : sz a ≤ sz b := by
  simp only [sz, ha, hb, cond_true]
  have := (okR_iff a).1 ha
  exact spl_mono (by omega)
theorem kinds (n : Int) : (decide (n < 0) = true ∧ decide (1099511627776 < n) = false ∧ sz n = 0) ∨ (decide (n < 0) = false ∧ decide (1099511627776 < n) = true ∧ sz n = 0) ∨ (decide (n < 0) = false ∧ decide (1099511627776 < n) = false ∧ okR n = true) := by
  by_cases h0 : n < 0
  · refine .inl ⟨by simpa using h0, by simp; omega, sz_no n ?_⟩
    have : ¬ (okR n = true) := by rw [okR_iff]; omega
    simpa using this
  by_cases h1 : 1099511627776 < n
  · refine .inr (.inl ⟨by simpa using h0, by simpa using h1, sz_no n ?_⟩)
    have : ¬ (okR n = true) := by rw [okR_iff]; omega
    simpa using this
  · exact .inr (.inr ⟨by simpa using h0, by simpa using h1, by rw [okR_iff]; omega⟩)

/-! ### the walk -/
theorem walk (a0 : Int) (a1 : Int) (w0 : (Lit.int .i64 a0).wf = true) (w1 : (Lit.int .i64 a1).wf = true) (w : World) :
    Calls Try.prog 3 #[.int .i64 a0, .int .i64 a1] w fun e w' => e = .returned (.bool true) ∧ Below w.heap.size w w' := by
  clear w0 w1
  rcases kinds a0 with ⟨p0, p1, p2⟩ | ⟨p0, p1, p2⟩ | ⟨p0, p1, p2⟩ <;> rcases kinds a1 with ⟨q0, q1, q2⟩ | ⟨q0, q1, q2⟩ | ⟨q0, q1, q2⟩
  case inr.inr.inr.inr =>
    have ha := sz_ok a0 p2
    have hb := sz_ok a1 q2
    have i1 : decide ((1 : Int) ≤ (sz a0 : Int)) = true := by simp; omega
    have i2 : decide ((sz a0 : Int) ≤ 7) = true := by simp; omega
    have i3 : decide ((1 : Int) ≤ (sz a1 : Int)) = true := by simp; omega
    have i4 : decide ((sz a1 : Int) ≤ 7) = true := by simp; omega
    by_cases hab : a1 < a0
    · have dd : decide (a1 < a0) = true := by simpa using hab
      clear p2 q2 ha hb
      go_enter Try.func3, Try.ntmps3
      go_wp2_with fail
      refine (size_int a0 _).mono ?_
      rintro r w1 ⟨rfl, hb1⟩
      have B1 := hide hb1
      clear hb1
      go_wp2_with fail
      refine (size_int a1 _).mono ?_
      rintro r w2 ⟨rfl, hb2⟩
      have B2 := hide (btr B1.out hb2)
      clear hb2
      go_wp2_with fail
      refine (long_any _).mono ?_
      rintro r w3 ⟨rfl, hb3⟩
      have B3 := hide (btr B2.out hb3)
      clear hb3
      go_wp2_with fail
      go_ret
      exact ⟨rfl, B3.out⟩
    · have dd : decide (a1 < a0) = false := by simpa using hab
      have hm := sz_mono a0 a1 p2 q2 (by omega)
      have dm : decide ((sz a0 : Int) ≤ (sz a1 : Int)) = true := by simp; omega
      have dm2 : decide (sz a0 ≤ sz a1) = true := by simp; omega
      clear p2 q2 ha hb
      go_enter Try.func3, Try.ntmps3
      go_wp2_with fail
      refine (size_int a0 _).mono ?_
      rintro r w1 ⟨rfl, hb1⟩
      have B1 := hide hb1
      clear hb1
      go_wp2_with fail
      refine (size_int a1 _).mono ?_
      rintro r w2 ⟨rfl, hb2⟩
      have B2 := hide (btr B1.out hb2)
      clear hb2
      go_wp2_with fail
      refine (long_any _).mono ?_
      rintro r w3 ⟨rfl, hb3⟩
      have B3 := hide (btr B2.out hb3)
      clear hb3
      go_wp2_with fail
      go_ret
      exact ⟨rfl, B3.out⟩
  all_goals
    have ea : ((sz a0 : Int) == 0) = (decide (a0 < 0) || decide (1099511627776 < a0)) := by
      first | (rw [p0, p1, p2]; rfl) | (rw [p0, p1]; have := sz_ok a0 p2; simp; omega)
    have eb : ((sz a1 : Int) == 0) = (decide (a1 < 0) || decide (1099511627776 < a1)) := by
      first | (rw [q0, q1, q2]; rfl) | (rw [q0, q1]; have := sz_ok a1 q2; simp; omega)
    rw [p0, p1] at ea
    rw [q0, q1] at eb
    simp only [Bool.or_true, Bool.or_false] at ea eb
    clear p2 q2
    go_enter Try.func3, Try.ntmps3
    go_wp2_with fail
    refine (size_int a0 _).mono ?_
    rintro r w1 ⟨rfl, hb1⟩
    have B1 := hide hb1
    clear hb1
    go_wp2_with fail
    refine (size_int a1 _).mono ?_
    rintro r w2 ⟨rfl, hb2⟩
    have B2 := hide (btr B1.out hb2)
    clear hb2
    go_wp2_with fail
    refine (long_any _).mono ?_
    rintro r w3 ⟨rfl, hb3⟩
    have B3 := hide (btr B2.out hb3)
    clear hb3
    go_wp2_with fail
    go_ret
    exact ⟨rfl, B3.out⟩

/-! ### the row -/
set_option maxRecDepth 100000 in
theorem lifted (os : Os) (started : os.Started) (H : Type) (enc : TypeId × Value → H) :
    ReturnsInHanded {} Try.checked os 3 .any (Rows.reelSizesSpec.pre6 enc Try.prog Try.f3 Rows.reelSizesRow.domain false) (Rows.reelSizesSpec.post enc Try.prog Try.f3 false true false false) := by
  refine returnsInHanded_of_change (C := Try.checked) own started (by kernel_rfl) Try.func3
    (ChangeSpec.witness6 (enc := enc) (C := Try.checked) false ⟨#[], #[.int .i64 0, .int .i64 0], []⟩ 8 (by kernel_rfl) (by kernel_rfl) (by kernel_rfl) (by kernel_rfl)) ?_
  intro W base args ds gs before hval0 hW hcnd _
  have hval : ∀ (j : Nat) t v, Try.f3.params[j]? = some t → args[j]? = some v → Value.okWide Try.prog W .any base t v := hval0
  have hW' := hW
  obtain ⟨p, q, hA0, hV, rfl, hfz, hnd⟩ := hW
  have hA : DataW.TrodAll enc Try.prog W 0 (fun _ => true) true Try.f3.params.toList args.toList ds p := hA0
  rw [Try.params3] at hA hval
  obtain ⟨v0, vs0, d0, ds0, p0, q0, hargs, rfl, rfl, h0, r0⟩ := trodAll_cons hA
  obtain ⟨v1, vs1, d1, ds1, p1, q1, rfl, rfl, rfl, h1, r1⟩ := trodAll_cons r0
  obtain ⟨rfl, rfl, rfl⟩ := trodAll_nil r1
  obtain rfl : args = #[v0, v1] := by cases args; simp_all
  obtain ⟨rfl, rfl⟩ := trodVars_none hV
  obtain ⟨a0, rfl, rfl, rfl, w0⟩ := open_int Try.underlying3 (hval 0 3 v0 rfl rfl) h0
  obtain ⟨a1, rfl, rfl, rfl, w1⟩ := open_int Try.underlying3 (hval 1 3 v1 rfl rfl) h1
  clear hA0 hval0
  refine (walk a0 a1 w0 w1 W).mono fun e W' ⟨he, bel⟩ => ?_
  subst he
  exact ⟨_, rfl, _, _, _, [], _, [], hW', trodAll_mk1 (shut_bool Try.underlying4 _), (trodAll_cons_mk (shut_int Try.underlying3 w0) (trodAll_cons_mk (shut_int Try.underlying3 w1) trodAll_mk0)), rfl, bel.frame _, fun h => by cases h⟩

theorem over : Rows.reelSizesRow.holds Try.pinned (OpenSpec.ofChange Rows.reelSizesSpec) :=
  OpenClaim.holds_of_wide 3 Try.f3 rfl rfl rfl rfl rfl rfl rfl ⟨rfl, rfl, rfl, rfl, rfl⟩ rfl rfl rfl rfl rfl (by kernel_rfl) Try.func3 (by kernel_rfl)
    (of_decide_eq_true (by kernel_rfl)) (by unfold Func.isWrapper; first | (rw [if_pos (by decide +kernel)]; kernel_rfl) | (rw [if_neg (by decide +kernel)]; exact ⟨rfl, rfl⟩))
    (fun os started H enc _ => lifted os started H enc)

/-- ████ THE STATEMENT ████ -/
theorem proved : Rows.ReelSizesSaid :=
  over
#print axioms proved
end Go.Proofs.Ytkgddkpolckacab.reelSizes
