/- A nil report tells nothing. -/
import Derived.Test.YtodppbahihjegaaZg
import Derived.Test.YtodppbahihjegaaRg
import Derived.ShutString
import Derived.ChangeOld
import Derived.Below
namespace Go.Proofs.Ytodppbahihjegaa.reportNil
open Go.ChangeShapes Go.WideShapes Go.ChangeAt Go.RowKit
open Go.ChangeMaps (open_string shut_string)
open Rep Ck Ce
open Ep (ownB tidOf clkOf rdN rdT rdt rdc rdk)
open Ba (hide)

theorem own : ownKnob Try.prog.godebug = none := by kernel_rfl
theorem laidOut : laidOutB Try.prog = true := by kernel_rfl

set_option maxRecDepth 100000 in
set_option maxHeartbeats 6400000 in
theorem core {w : World} (a : Aq) (e : Int) (hw : (Lit.int .u64 e).wf = true) (tid : Int) :
    Calls Try.prog 6 #[.agg (aV a), .int .u64 e, .int .i64 tid] w fun r w' => r = .returned (.bool true) ∧ Below w.heap.size w w' := by
  have hb := hw
  simp only [Lit.wf, Bool.and_eq_true, decide_eq_true_eq] at hb
  have a0 : 0 ≤ e := hb.1
  have a1 : e ≤ 18446744073709551615 := hb.2
  clear hw hb
  have PN0 : Hid (∀ x : Int, ((badA a ∨ ownB e = false) ∧ x = 1 ∨ ¬ badA a ∧ ownB e = true ∧ x = 7) → ∀ u, Calls Try.prog 29 #[.pointer none, .agg (aV a), .int .u64 e, .pointer none] u fun r w' => r = .returned (.tuple #[.bool false, .int .i64 x]) ∧ Below u.heap.size u w') := by
    intro x h u
    by_cases hbad : badA a
    · rcases h with ⟨-, rfl⟩ | ⟨q, -⟩
      · exact put_arg none a _ _ hbad u
      · exact absurd hbad q
    · have := put_nil a e a0 a1 (.pointer none) hbad u
      unfold accE at this
      rcases h with ⟨q | q, rfl⟩ | ⟨-, q, rfl⟩
      · exact absurd q hbad
      · rw [if_pos q] at this; exact this
      · rw [if_neg (by rw [q]; decide)] at this; exact this
  have RT0 : Hid (∀ x : Int, (badR tid 3 ∧ x = 1 ∨ ¬ badR tid 3 ∧ x = 7) → ∀ u, Calls Try.prog 28 #[.pointer none, .int .i64 tid, .int .i64 3] u fun r w' => r = .returned (.int .i64 x) ∧ w' = u) := by
    intro x h u
    rcases h with ⟨q, rfl⟩ | ⟨q, rfl⟩
    · exact retire_arg' none tid 3 q u ⟨none, cell_nil 0 u⟩
    · exact retire_nil' tid 3 q u
  have CN := hide (fun u => cell_nil tid u)
  have FN := hide (fun u => first_nil tid u)
  have RN := hide races_nil
  have TW := hide small19
  unfold RcR at RN
  unfold rv ra5 at FN
  have hbl := Ep.lo_bits e a0 (by omega)
  have RR := hide (fun u => rread_any e a0 a1 u)
  have PP := hide (fun u => Ep.plain_e e u)
  have h0 : 0 ≤ e / 4294967296 := by omega
  have h1 : e / 4294967296 ≤ 4294967295 := by omega
  have h2 : 0 ≤ e % 4294967296 := by omega
  have h3 : e % 4294967296 ≤ 4294967295 := by omega
  generalize rdN e = x1 at *
  generalize rdT e = x2 at *
  generalize rdt e = x3 at *
  generalize rdc e = x4 at *
  generalize rdk e = x5 at *
  obtain ⟨p, g, c, wr⟩ := a
  unfold aV at PN0 ⊢
  unfold badA at PN0
  unfold badR at RT0
  simp only at PN0 ⊢
  obtain ⟨z, hz⟩ : ∃ z, ownB e = z := ⟨_, rfl⟩
  rw [hz] at PP PN0
  clear hz
  have alts : z = false ∨ (z = true ∧ c < 0) ∨ (z = true ∧ 0 ≤ c ∧ 8 ≤ c) ∨ (z = true ∧ 0 ≤ c ∧ c < 8 ∧ p < 0) ∨ (z = true ∧ 0 ≤ c ∧ c < 8 ∧ 0 ≤ p ∧ g < 0) ∨ (z = true ∧ 0 ≤ c ∧ c < 8 ∧ 0 ≤ p ∧ 0 ≤ g) := by
    cases z
    · exact .inl rfl
    · simp; omega
  have altt : tid < 0 ∨ (0 ≤ tid ∧ 255 < tid) ∨ (0 ≤ tid ∧ tid ≤ 255) := by omega
  have pick : Hid (∃ x : Int, ((x = 7 ∧ z = true ∧ 0 ≤ c ∧ c < 8 ∧ 0 ≤ p ∧ 0 ≤ g) ∨ (x = 1 ∧ ¬ (z = true ∧ 0 ≤ c ∧ c < 8 ∧ 0 ≤ p ∧ 0 ≤ g))) ∧ ∀ u, Calls Try.prog 29 #[.pointer none, .agg #[.int .i64 p, .int .i64 g, .int .i64 c, .bool wr], .int .u64 e, .pointer none] u fun r w' => r = .returned (.tuple #[.bool false, .int .i64 x]) ∧ Below u.heap.size u w') := by
    by_cases q : z = true ∧ 0 ≤ c ∧ c < 8 ∧ 0 ≤ p ∧ 0 ≤ g
    · exact ⟨7, .inl ⟨rfl, q⟩, PN0.out 7 (.inr ⟨by omega, q.1, rfl⟩)⟩
    · refine ⟨1, .inr ⟨rfl, q⟩, PN0.out 1 (.inl ⟨?_, rfl⟩)⟩
      cases z
      · exact .inr rfl
      · left; simp at q; omega
  have pickt : Hid (∃ x : Int, ((x = 7 ∧ 0 ≤ tid ∧ tid ≤ 255) ∨ (x = 1 ∧ ¬ (0 ≤ tid ∧ tid ≤ 255))) ∧ ∀ u, Calls Try.prog 28 #[.pointer none, .int .i64 tid, .int .i64 3] u fun r w' => r = .returned (.int .i64 x) ∧ w' = u) := by
    by_cases q : 0 ≤ tid ∧ tid ≤ 255
    · exact ⟨7, .inl ⟨rfl, q⟩, RT0.out 7 (.inr ⟨by omega, rfl⟩)⟩
    · exact ⟨1, .inr ⟨rfl, q⟩, RT0.out 1 (.inl ⟨by omega, rfl⟩)⟩
  clear PN0 RT0
  obtain ⟨x, hx, pn⟩ := pick.out
  obtain ⟨y, hy, rt⟩ := pickt.out
  have PN := hide pn
  have RT := hide rt
  clear pick pickt pn rt
  have HB : Hid (Below w.heap.size w (((w.alloc (.cells #[.int .i64 p, .int .i64 g, .int .i64 c, .bool wr] 58)).alloc (.cells #[.bool x1, .bool x2, .int .i64 x3, .int .i64 x4] 87)).alloc (.cells #[.bool x1, .bool x2, .int .i64 x3, .int .i64 x4] 87))) := btr (btr (Ba.below_alloc _ _) (Ba.below_alloc _ _)) (Ba.below_alloc _ _)
  have HA : Hid ((((w.alloc (.cells #[.int .i64 p, .int .i64 g, .int .i64 c, .bool wr] 58)).alloc (.cells #[.bool x1, .bool x2, .int .i64 x3, .int .i64 x4] 87)).alloc (.cells #[.bool x1, .bool x2, .int .i64 x3, .int .i64 x4] 87)).heap[w.heap.size]? = some (.cells #[.int .i64 p, .int .i64 g, .int .i64 c, .bool wr] 58 (0, 0))) := by
    show _ = _
    rw [Below.heap_alloc _ _ _ (by rw [World.size_alloc, World.size_alloc]; omega), Below.heap_alloc _ _ _ (by rw [World.size_alloc]; omega)]
    exact heap_new _ _
  have HR : Hid ((((w.alloc (.cells #[.int .i64 p, .int .i64 g, .int .i64 c, .bool wr] 58)).alloc (.cells #[.bool x1, .bool x2, .int .i64 x3, .int .i64 x4] 87)).alloc (.cells #[.bool x1, .bool x2, .int .i64 x3, .int .i64 x4] 87)).heap[w.heap.size + 1 + 1]? = some (.cells #[.bool x1, .bool x2, .int .i64 x3, .int .i64 x4] 87 (0, 0))) := by
    have := heap_new ((w.alloc (.cells #[.int .i64 p, .int .i64 g, .int .i64 c, .bool wr] 58)).alloc (.cells #[.bool x1, .bool x2, .int .i64 x3, .int .i64 x4] 87)) (.cells #[.bool x1, .bool x2, .int .i64 x3, .int .i64 x4] 87)
    rwa [World.size_alloc, World.size_alloc] at this
  generalize hW : ((w.alloc (.cells #[.int .i64 p, .int .i64 g, .int .i64 c, .bool wr] 58)).alloc (.cells #[.bool x1, .bool x2, .int .i64 x3, .int .i64 x4] 87)).alloc (.cells #[.bool x1, .bool x2, .int .i64 x3, .int .i64 x4] 87) = W1 at *
  have HW := hide hW
  clear hW
  rcases alts with rfl | ⟨rfl, c1⟩ | ⟨rfl, c1, c2⟩ | ⟨rfl, c1, c2, c3⟩ | ⟨rfl, c1, c2, c3, c4⟩ | ⟨rfl, c1, c2, c3, c4⟩ <;> rcases altt with d1 | ⟨d1, d2⟩ | ⟨d1, d2⟩
  all_goals
    have hy' : y = 1 ∨ y = 7 := by omega
    have hx' : x = 1 ∨ x = 7 := by omega
    simp at hx
    obtain rfl | rfl : x = 1 ∨ x = 7 := hx'
    all_goals first | (exfalso; omega) | skip
    obtain rfl | rfl : y = 1 ∨ y = 7 := hy'
    all_goals first | (exfalso; omega) | skip
    clear hx hy
    go_enter Try.func6, Try.ntmps6
    go_wp2_with fail
    refine (RR.out _).mono ?_
    rintro r w1 ⟨rfl, e1⟩
    obtain rfl := e1.symm
    go_wp2_with fail
    rw [HW.out]
    refine (PN.out _).mono ?_
    rintro r w2 ⟨rfl, b2⟩
    have B2 := hide (btr HB.out b2)
    have ha := (b2.block w.heap.size (Ba.heap_lt HA.out)).trans HA.out
    have hr := (b2.block (w.heap.size + 1 + 1) (Ba.heap_lt HR.out)).trans HR.out
    have u0 := cell_of ha 0
    have u1 := cell_of ha 1
    have u2 := cell_of ha 2
    have v0 := cell_of hr 0
    have v1 := cell_of hr 1
    have v2 := cell_of hr 2
    have v3 := cell_of hr 3
    simp at u0 u1 u2 v0 v1 v2 v3
    clear b2 ha hr HB HA HR
    go_wp2_with fail
    refine (PP.out _).mono ?_
    rintro r w3 ⟨rfl, e3⟩
    have b3 : Below w2.heap.size w2 w3 := by rw [e3]; exact Ba.below_alloc _ _
    have u0 := cellB u0 b3
    have u1 := cellB u1 b3
    have u2 := cellB u2 b3
    have B3 := hide (btr B2.out b3)
    clear b3 e3 B2 v0 v1 v2 v3
    go_wp2_with fail
    refine (RT.out _).mono ?_
    rintro r w0 ⟨rfl, e0⟩
    obtain rfl := e0.symm
    go_wp2_with fail
    refine (FN.out _).mono ?_
    rintro r w4 ⟨rfl, b4⟩
    have B4 := hide (btr (btr B3.out b4) (Ba.below_alloc w4 (.cells #[.int .i64 r0.c, .int .i64 r0.p, .int .i64 r0.g, .int .i64 r0.wi, .bool r0.wr] 70)))
    clear b4 B3
    go_wp2_with fail
    refine (RN.out _).mono ?_
    rintro r w5 ⟨v, rfl, o5, b5⟩
    have B5 := hide (btr B4.out b5)
    obtain ⟨oa, cc, rfl⟩ : ∃ oa cc, v = .slice oa 0 cc := by
      rcases o5.2 with ⟨rfl, -⟩ | ⟨gD, cD, cr, rfl, -⟩
      · exact ⟨_, _, rfl⟩
      · exact ⟨_, _, rfl⟩
    clear b5 B4 o5
    go_wp2_with fail
    refine (CN.out _).mono ?_
    rintro r w0 ⟨rfl, e0⟩
    obtain rfl := e0.symm
    go_wp2_with fail
    refine (TW.out _).mono ?_
    rintro r w6 ⟨rfl, b6⟩
    have B6 := hide (btr B5.out b6)
    clear b6 B5
    go_wp2_with fail
    go_ret
    first
      | exact ⟨rfl, B6.out⟩
      | exact ⟨by simp; omega, B6.out⟩

/-! ### the row -/
set_option maxRecDepth 100000 in
theorem lifted (os : Os) (started : os.Started) (H : Type) (enc : TypeId × Value → H) :
    ReturnsInHanded {} Try.checked os 6 .any (Rows.reportNilSpec.pre6 enc Try.prog Try.f6 Rows.reportNilRow.domain false) (Rows.reportNilSpec.post enc Try.prog Try.f6 false true false false) := by
  refine returnsInHanded_of_change (C := Try.checked) own started (by kernel_rfl) Try.func6
    (ChangeSpec.witness6 (enc := enc) (C := Try.checked) false ⟨#[], #[.agg #[.int .i64 0, .int .i64 0, .int .i64 0, .bool false], .int .u64 0, .int .i64 0], []⟩ 8 (by kernel_rfl) (by kernel_rfl) (by kernel_rfl) (by kernel_rfl)) ?_
  intro W base args ds gs before hval0 hW hcnd _
  have hval : ∀ (j : Nat) t v, Try.f6.params[j]? = some t → args[j]? = some v → Value.okWide Try.prog W .any base t v := hval0
  have hW' := hW
  obtain ⟨p, q, hA0, hV, rfl, hfz, hnd⟩ := hW
  have hA : DataW.TrodAll enc Try.prog W 0 (fun _ => true) true Try.f6.params.toList args.toList ds p := hA0
  rw [Try.params6] at hA hval
  obtain ⟨v0, vs0, d0, ds0, p0, q0, hargs, rfl, rfl, h0, r0⟩ := trodAll_cons hA
  obtain ⟨v1, vs1, d1, ds1, p1, q1, rfl, rfl, rfl, h1, r1⟩ := trodAll_cons r0
  obtain ⟨v2, vs2, d2, ds2, p2, q2, rfl, rfl, rfl, h2, r2⟩ := trodAll_cons r1
  obtain ⟨rfl, rfl, rfl⟩ := trodAll_nil r2
  obtain rfl : args = #[v0, v1, v2] := by cases args; simp_all
  obtain ⟨rfl, rfl⟩ := trodVars_none hV
  have k0 := h0
  have lt0 : ∀ x ∈ p0, x.block < W.heap.size := by obtain ⟨m, hm⟩ := k0; exact DataW.trod_lt m _ _ _ hm
  obtain ⟨x0, rfl⟩ := h0.elim fun _ hf => acs_open hf
  obtain ⟨a1, rfl, rfl, rfl, w1⟩ := open_int Try.underlying39 (hval 1 39 v1 rfl rfl) h1
  obtain ⟨a2, rfl, rfl, rfl, w2⟩ := open_int Try.underlying3 (hval 2 3 v2 rfl rfl) h2
  clear hA0 hval0
  refine (core (w := W) x0 a1 w1 a2).mono fun e W' ⟨he, bel⟩ => ?_
  subst he
  exact ⟨_, rfl, _, _, _, [], _, [], hW', trodAll_mk1 (shut_bool Try.underlying4 _), (trodAll_cons_mk (Below.trod laidOut (by kernel_rfl) (of_decide_eq_true (by kernel_rfl)) k0 bel lt0) (trodAll_cons_mk (shut_int Try.underlying39 w1) (trodAll_cons_mk (shut_int Try.underlying3 w2) trodAll_mk0))), rfl, bel.frame _, fun h => by cases h⟩

theorem over : Rows.reportNilRow.holds Try.pinned (OpenSpec.ofChange Rows.reportNilSpec) :=
  OpenClaim.holds_of_wide 6 Try.f6 rfl rfl rfl rfl rfl rfl rfl ⟨rfl, rfl, rfl, rfl, rfl⟩ rfl rfl rfl rfl rfl (by kernel_rfl) Try.func6 (by kernel_rfl)
    (of_decide_eq_true (by kernel_rfl)) (by unfold Func.isWrapper; first | (rw [if_pos (by decide +kernel)]; kernel_rfl) | (rw [if_neg (by decide +kernel)]; exact ⟨rfl, rfl⟩))
    (fun os started H enc _ => lifted os started H enc)

/-- the statement -/
theorem proved : Rows.ReportNilSaid := over
#print axioms proved
end Go.Proofs.Ytodppbahihjegaa.reportNil
