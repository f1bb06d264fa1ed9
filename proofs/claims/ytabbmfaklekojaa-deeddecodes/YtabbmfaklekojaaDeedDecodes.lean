/- For every string and every number of programs, the law DeedDecodes returns true, so Decode answers the operation with which the bytes begin, and what is behind, or the document error: under no condition. -/
import Derived.Test.YtabbmfaklekojaaDy
import Derived.Test.YtabbmfaklekojaaDk
import Derived.ShutString
import Derived.ChangeOld
import Derived.Below
namespace Go.Proofs.Ytabbmfaklekojaa.deedDecodes
open Go.ChangeShapes Go.WideShapes Go.ChangeAt Go.RowKit
open Go.ChangeMaps (open_string shut_string)
open De Ba Re

theorem own : ownKnob Try.prog.godebug = none := by kernel_rfl
theorem laidOut : laidOutB Try.prog = true := by kernel_rfl

set_option maxHeartbeats 3200000

set_option maxRecDepth 100000 in
theorem fail_walk {w : World} (s : ByteArray) (p : Int) (x : Int) (hx1 : (x != 0) = true)
    (P : ∀ w, Calls Try.prog 9 #[.string s, .int .i64 p] w fun r w' => r = .returned (.tuple #[.agg #[.int .i64 0, .int .i64 0, .int .i64 0, .slice none 0 0, .bool false], .string (bs []), .int .i64 x]) ∧ Below w.heap.size w w')
    (R : ∀ w, Calls Try.prog 10 #[.string s, .int .i64 p] w fun r w' => r = .returned (.tuple #[.agg #[.int .i64 0, .int .i64 0, .int .i64 0, .slice none 0 0, .bool false, .int .i64 0], .int .i64 x]) ∧ Below w.heap.size w w') :
    Calls Try.prog 3 #[.string s, .int .i64 p] w fun r w' => r = .returned (.bool true) ∧ Below w.heap.size w w' := by
  have HP := hide P
  have HR := hide R
  have hem : (bs []).toList.isEmpty = true := by rw [toList_is]; rfl
  clear P R
  go_enter Try.func3, Try.ntmps3
  go_wp2_with fail
  refine (HP.out _).mono ?_
  rintro r w1 ⟨rfl, b1⟩
  have O1 := hide (heap_new w1 (.cells #[.int .i64 0, .int .i64 0, .int .i64 0, .slice none 0 0, .bool false] 24))
  have B1 := hide (btr b1 (below_alloc w1 (.cells #[.int .i64 0, .int .i64 0, .int .i64 0, .slice none 0 0, .bool false] 24)))
  clear b1
  go_wp2_with fail
  refine (HR.out _).mono ?_
  rintro r w2 ⟨rfl, b2⟩
  have O2 := hide (heap_below (heap_below O1.out b2) (below_alloc w2 (.cells #[.int .i64 0, .int .i64 0, .int .i64 0, .slice none 0 0, .bool false, .int .i64 0] 29)))
  have G2 := hide (heap_new w2 (.cells #[.int .i64 0, .int .i64 0, .int .i64 0, .slice none 0 0, .bool false, .int .i64 0] 29))
  have B2 := hide (btr (btr B1.out b2) (below_alloc w2 (.cells #[.int .i64 0, .int .i64 0, .int .i64 0, .slice none 0 0, .bool false, .int .i64 0] 29)))
  obtain ⟨y0, y1, y2, y3, y4⟩ := op_cells O2.out
  clear b2
  go_wp2_with fail
  refine (plain_any ⟨0, 0, 0, [], false⟩ ⟨0, 0, 0, [], false⟩ none none 0 0 _ (CAt.nil _ _) (CAt.nil _ _) (Nat.zero_le _) (Nat.zero_le _)).mono ?_
  rintro r w3 ⟨⟨q, rfl, hq⟩, b3⟩
  obtain rfl : q = true := hq.2 rfl
  have B3 := hide (btr B2.out b3)
  clear b3 hq
  go_wp2_with fail
  refine (send_any _).mono ?_
  rintro r w9 ⟨rfl, b9⟩
  have B9 := hide (btr B3.out b9)
  clear b9
  go_wp2_with fail
  go_ret
  exact ⟨rfl, B9.out⟩

theorem ext_inj {s : ByteArray} {a b : Nat} (ha : a ≤ s.size) (hb : b ≤ s.size) (h : s.extract a s.size = s.extract b s.size) : a = b := by
  have h1 := congrArg ByteArray.size h
  rw [ByteArray.size_extract, ByteArray.size_extract, Nat.min_self] at h1
  omega
set_option maxRecDepth 100000 in
theorem ok_walk {w : World} (s : ByteArray) (p : Int) (_hs : s.size ≤ maxLen) (k a b : Int) (L : List Cs) (df : Bool) (hL : L.length ≤ 1000) (Q : Option Addr → World → Prop) (hQ : ∀ oa w, Q oa w → CAt w oa L) (z : Nat) (hz : z ≤ s.size)
    (P : ∀ w, Calls Try.prog 9 #[.string s, .int .i64 p] w fun r w' => (∃ oa c, r = .returned (.tuple #[.agg #[.int .i64 k, .int .i64 a, .int .i64 b, .slice oa L.length c, .bool df], .string (s.extract z s.size), .int .i64 0]) ∧ Q oa w') ∧ Below w.heap.size w w')
    (R : ∀ w, Calls Try.prog 10 #[.string s, .int .i64 p] w fun r w' => (∃ oa c, r = .returned (.tuple #[.agg #[.int .i64 k, .int .i64 a, .int .i64 b, .slice oa L.length c, .bool df, .int .i64 (z : Int)], .int .i64 0]) ∧ Q oa w') ∧ Below w.heap.size w w') :
    Calls Try.prog 3 #[.string s, .int .i64 p] w fun r w' => r = .returned (.bool true) ∧ Below w.heap.size w w' := by
  have HP := hide P
  have HR := hide R
  have HQ := hide hQ
  unfold maxLen at _hs
  have hz' : (z : Int) ≤ (s.size : Int) := by omega
  clear P R hQ
  go_enter Try.func3, Try.ntmps3
  go_wp2_with fail
  refine (HP.out _).mono ?_
  rintro r w1 ⟨⟨oa, c, rfl, q1⟩, b1⟩
  have O1 := hide (heap_new w1 (.cells #[.int .i64 k, .int .i64 a, .int .i64 b, .slice oa L.length c, .bool df] 24))
  have B1 := hide (btr b1 (below_alloc w1 (.cells #[.int .i64 k, .int .i64 a, .int .i64 b, .slice oa L.length c, .bool df] 24)))
  have A1 := hide ((HQ.out _ _ q1).below (below_alloc w1 (.cells #[.int .i64 k, .int .i64 a, .int .i64 b, .slice oa L.length c, .bool df] 24)))
  clear b1 q1
  go_wp2_with fail
  refine (HR.out _).mono ?_
  rintro r w2 ⟨⟨ob, d, rfl, q2⟩, b2⟩
  have O2 := hide (heap_below (heap_below O1.out b2) (below_alloc w2 (.cells #[.int .i64 k, .int .i64 a, .int .i64 b, .slice ob L.length d, .bool df, .int .i64 (z : Int)] 29)))
  have G2 := hide (heap_new w2 (.cells #[.int .i64 k, .int .i64 a, .int .i64 b, .slice ob L.length d, .bool df, .int .i64 (z : Int)] 29))
  have A2 := hide ((A1.out.below b2).below (below_alloc w2 (.cells #[.int .i64 k, .int .i64 a, .int .i64 b, .slice ob L.length d, .bool df, .int .i64 (z : Int)] 29)))
  have A3 := hide ((HQ.out _ _ q2).below (below_alloc w2 (.cells #[.int .i64 k, .int .i64 a, .int .i64 b, .slice ob L.length d, .bool df, .int .i64 (z : Int)] 29)))
  have B2 := hide (btr (btr B1.out b2) (below_alloc w2 (.cells #[.int .i64 k, .int .i64 a, .int .i64 b, .slice ob L.length d, .bool df, .int .i64 (z : Int)] 29)))
  obtain ⟨y0, y1, y2, y3, y4⟩ := op_cells O2.out
  clear b2 q2
  go_wp2_with fail
  refine (plain_any ⟨k, a, b, L, df⟩ ⟨k, a, b, L, df⟩ oa ob c d _ A2.out A3.out hL hL).mono ?_
  rintro r w3 ⟨⟨q, rfl, hq⟩, b3⟩
  obtain rfl : q = true := hq.2 rfl
  have B3 := hide (btr B2.out b3)
  have G3 := hide (heap_below G2.out b3)
  have g5 := cell_of G3.out 5
  simp at g5
  clear b3 hq
  go_wp2_with fail
  refine (send_any _).mono ?_
  rintro r w9 ⟨rfl, b9⟩
  have B9 := hide (btr B3.out b9)
  clear b9
  go_wp2_with fail
  go_ret
  exact ⟨rfl, B9.out⟩

theorem core {w : World} (s : ByteArray) (hs : s.size ≤ maxLen) (p : Int) :
    Calls Try.prog 3 #[.string s, .int .i64 p] w fun r w' => r = .returned (.bool true) ∧ Below w.heap.size w w' := by
  cases hp : okP p
  · exact fail_walk s p 1 (by decide) (fun w => decode_arg s p w hp) (fun w => rdecode_p s p w hp)
  by_cases hf : (rop s false).2.2 = true ∨ (chk (rop s false).1 p == 0) = false
  · refine fail_walk s p 4 (by decide) (fun w => (decode_main s p w hp).mono ?_) (fun w => (rdecode_any s p w hp hs).mono ?_)
    · rintro r w' ⟨⟨_, rfl⟩ | ⟨h1, h2, _⟩, b⟩
      · exact ⟨rfl, b⟩
      · rw [h1, h2] at hf
        simp at hf
    · rintro r w' ⟨⟨_, rfl⟩ | ⟨h1, h2, _⟩, b⟩
      · exact ⟨rfl, b⟩
      · rw [h1, h2] at hf
        simp at hf
  · have f1 : (rop s false).2.2 = false := by
      cases h : (rop s false).2.2
      · rfl
      · exact absurd (.inl h) hf
    have f2 : chk (rop s false).1 p = 0 := by
      cases h : chk (rop s false).1 p == 0
      · exact absurd (.inr h) hf
      · simpa using h
    generalize hr : rop s false = x at f1 f2
    obtain ⟨⟨k, a, b, L, df⟩, R, f⟩ := x
    simp only at f1 f2
    subst f1
    have inv := rop_inv hr
    obtain ⟨_, _, hl, _⟩ := chk_zero f2
    simp only at hl
    obtain ⟨z, hz, hzz⟩ : ∃ z, z ≤ s.size ∧ R = s.extract z s.size := by
      refine ⟨(pls (nums ⟨k, a, b, L, df⟩)).length, ?_, nbs_inj ?_⟩
      · have := congrArg List.length inv
        rw [nbs_length, List.length_append] at this
        omega
      · rw [nsfx rfl, inv, List.drop_left]
    subst hzz
    refine ok_walk s p hs k a b L df (by omega) (fun oa w => CAt w oa L) (fun _ _ h => h) z hz (fun w => (decode_main s p w hp).mono ?_) (fun w => (rdecode_any s p w hp hs).mono ?_)
    · rw [hr]
      rintro r w' ⟨⟨h, _⟩ | ⟨_, _, oa, c, rfl, hA⟩, bb⟩
      · simp only at h
        rw [f2] at h
        simp at h
      · exact ⟨⟨oa, c, rfl, hA⟩, bb⟩
    · unfold RD
      rw [hr]
      rintro r w' ⟨⟨h, _⟩ | ⟨_, _, oa, c, z', hz', he, rfl, hA⟩, bb⟩
      · simp only at h
        rw [f2] at h
        simp at h
      · obtain rfl := ext_inj hz hz' he
        exact ⟨⟨oa, c, rfl, hA⟩, bb⟩


/-! ### the row -/
set_option maxRecDepth 100000 in
theorem lifted (os : Os) (started : os.Started) (H : Type) (enc : TypeId × Value → H) :
    ReturnsInHanded {} Try.checked os 3 .any (Rows.deedDecodesSpec.pre6 enc Try.prog Try.f3 Rows.deedDecodesRow.domain false) (Rows.deedDecodesSpec.post enc Try.prog Try.f3 false true false false) := by
  refine returnsInHanded_of_change (C := Try.checked) own started (by kernel_rfl) Try.func3
    (ChangeSpec.witness6 (enc := enc) (C := Try.checked) false ⟨#[], #[.string ByteArray.empty, .int .i64 0], []⟩ 8 (by kernel_rfl) (by kernel_rfl) (by kernel_rfl) (by kernel_rfl)) ?_
  intro W base args ds gs before hval0 hW hcnd _
  have hval : ∀ (j : Nat) t v, Try.f3.params[j]? = some t → args[j]? = some v → Value.okWide Try.prog W .any base t v := hval0
  have hW' := hW
  obtain ⟨p, q, hA0, hV, rfl, hfz, hnd⟩ := hW
  have hA : DataW.TrodAll enc Try.prog W 0 (fun _ => true) true Try.f3.params.toList args.toList ds p := hA0
  rw [Try.params3] at hA hval
  obtain ⟨v0, vs0, d0, ds0, p0, q0, hargs, rfl, rfl, h0, r0⟩ := trodAll_cons hA
  obtain ⟨v1, vs1, d1, ds1, p1, q1, rfl, rfl, rfl, h1, r1⟩ := trodAll_cons r0
  obtain ⟨rfl, rfl, rfl⟩ := trodAll_nil r1
  obtain rfl : args = #[v0, v1] := by cases args; simp_all
  obtain ⟨rfl, rfl⟩ := trodVars_none hV
  obtain ⟨a0, rfl, rfl, rfl, w0⟩ := open_string Try.underlying9 (hval 0 9 v0 rfl rfl) h0
  obtain ⟨a1, rfl, rfl, rfl, w1⟩ := open_int Try.underlying3 (hval 1 3 v1 rfl rfl) h1
  clear hA0 hval0
  refine (core (w := W) a0 w0 a1).mono fun e W' ⟨he, bel⟩ => ?_
  subst he
  exact ⟨_, rfl, _, _, _, [], _, [], hW', trodAll_mk1 (shut_bool Try.underlying4 _), (trodAll_cons_mk (shut_string Try.underlying9 w0) (trodAll_cons_mk (shut_int Try.underlying3 w1) trodAll_mk0)), rfl, bel.frame _, fun h => by cases h⟩

theorem over : Rows.deedDecodesRow.holds Try.pinned (OpenSpec.ofChange Rows.deedDecodesSpec) :=
  OpenClaim.holds_of_wide 3 Try.f3 rfl rfl rfl rfl rfl rfl rfl ⟨rfl, rfl, rfl, rfl, rfl⟩ rfl rfl rfl rfl rfl (by kernel_rfl) Try.func3 (by kernel_rfl)
    (of_decide_eq_true (by kernel_rfl)) (by unfold Func.isWrapper; first | (rw [if_pos (by decide +kernel)]; kernel_rfl) | (rw [if_neg (by decide +kernel)]; exact ⟨rfl, rfl⟩))
    (fun os started H enc _ => lifted os started H enc)

/-- the statement -/
theorem proved : Rows.DeedDecodesSaid := over
#print axioms proved
end Go.Proofs.Ytabbmfaklekojaa.deedDecodes
