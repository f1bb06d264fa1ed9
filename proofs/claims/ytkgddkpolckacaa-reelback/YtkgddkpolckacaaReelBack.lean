/- For every list of numbers and every string, the law ReelBack returns true, so what was put is taken, whatever is behind it, and what is taken was put so: under no condition. -/
import Derived.Test.YtkgddkpolckacaaRows
import Derived.WalkKit
import Derived.ProofKit
import Derived.OpenShut
import Derived.Test.YtkgddkpolckacaaEl
import Derived.ShutString
import Derived.ChangeOld
import Derived.Below
namespace Go.Proofs.Ytkgddkpolckacaa.reelBack
open Go.ChangeShapes Go.WideShapes Go.ChangeAt Go.RowKit
open Go.ChangeMaps (open_string shut_string)
set_option linter.unusedVariables false

theorem own : ownKnob Try.prog.godebug = none := by kernel_rfl
theorem laidOut : laidOutB Try.prog = true := by kernel_rfl

/-- WHAT THE WALK IS TOLD OF A SLICE OF INTEGERS THAT CAME IN: it is nil; or it leads to a row of 'cap' cells, the numbers 'zs' (the first 'len' are its elements, the rest its spare room), each fitting its kind. -/
def IsRow (k : IntKind) (w : World) (a : Option Addr) (len cap : Nat) (zs : List Int) : Prop :=
  (a = none ∧ len = 0 ∧ cap = 0 ∧ zs = []) ∨
  ∃ x, a = some x ∧ len ≤ cap ∧ cap ≤ maxLen ∧ zs.length = cap ∧ (∀ i, i < zs.length → w.cell? (x.add i) = some (.int k (zs.getD i 0))) ∧ ∀ n ∈ zs, (Lit.int k n).wf = true

open Re Ba
set_option maxHeartbeats 1600000
theorem isRow_at {w : World} {a : Option Addr} {len cap : Nat} {z : List Int} (h : IsRow .i64 w a len cap z) : ∃ l, l.length = len ∧ At w a l ∧ len ≤ cap ∧ cap ≤ maxLen := by
  rcases h with ⟨rfl, rfl, rfl, rfl⟩ | ⟨x, rfl, hl, hm, hz, hcell, _⟩
  · exact ⟨[], rfl, fun k hk => absurd hk (Nat.not_lt_zero _), Nat.le_refl _, Nat.zero_le _⟩
  · refine ⟨z.take len, by simp; omega, fun k hk => ?_, hl, hm⟩
    have hk' : k < len ∧ k < z.length := by simp at hk; omega
    obtain ⟨b, off, spot⟩ := x
    have hspot : spot = none := by simpa [Addr.add] using World.cell?_spot (hcell 0 (by omega))
    subst hspot
    have hc := hcell k hk'.2
    refine ⟨b, off, rfl, ?_⟩
    rw [nth_take z len k hk'.1]
    rw [Addr.add_lit] at hc
    exact hc
theorem plist_lt (l : List Int) : ∀ b ∈ plist l, b < 256 := by
  intro b hb
  simp only [plist, pls, List.mem_append, List.mem_flatMap] at hb
  rcases hb with hb | ⟨n, _, hb⟩
  · exact spl_lt _ b hb
  · exact spl_lt _ b hb
theorem plist_len (l : List Int) : (plist l).length ≤ 7 + 7 * l.length := by
  have h1 := spl_len l.length
  have h2 := pls_len l
  simp only [plist, List.length_append]
  omega
theorem nbs_append (a b : ByteArray) : nbs (a ++ b) = nbs a ++ nbs b := by simp [nbs]
theorem back_str {s : ByteArray} {n k : Nat} (h : tk (nbs s) = some (n, k)) : bs (spl n) ++ s.extract k s.size = s := by
  apply nbs_inj
  rw [nbs_append, nbs_bs _ (spl_lt n), nbs_sfx]
  exact tk_put (nbs_lt s) h

/-! ### the walk -/
theorem walk (a0 : Option Addr) (len0 cap0 : Nat) (z0 : List Int) (a1 : ByteArray) (w : World) (w0 : IsRow .i64 w a0 len0 cap0 z0) (w1 : a1.size ≤ maxLen) :
    Calls Try.prog 8 #[.slice a0 len0 cap0, .string a1] w fun e w' => e = .returned (.bool true) ∧ Below w.heap.size w w' := by
  obtain ⟨l, rfl, hA, hc, hm⟩ := isRow_at w0
  clear w0
  unfold maxLen at hm w1
  have HA := hide hA
  clear hA
  by_cases h : l.length ≤ 1000
  · have h' : decide ((1000 : Int) < (l.length : Int)) = false := by simp; omega
    by_cases h2 : a1.size ≤ 5000
    · have h2' : decide ((5000 : Int) < (a1.size : Int)) = false := by simp; omega
      cases hall : l.all okR
      · have HL := hide hall
        cases ht : tk (nbs a1) with
        | none =>
          have HT := hide ht
          clear hall ht
          go_enter Try.func8, Try.ntmps8
          go_wp2_with fail
          refine (putlist_any _ l _ _ HA.out (by omega)).mono ?_
          rw [HL.out]
          rintro r w3 ⟨rfl, hb3⟩
          have B3 := hide hb3
          clear hb3
          go_wp2_with fail
          refine (take_none a1 HT.out _).mono ?_
          rintro r w4 ⟨rfl, hb4⟩
          have B4 := hide (btr B3.out hb4)
          clear hb4
          go_wp2_with fail
          refine (long_any _).mono ?_
          rintro r w6 ⟨rfl, hb6⟩
          have B6 := hide (btr B4.out hb6)
          clear hb6
          go_wp2_with fail
          go_ret
          exact ⟨rfl, B6.out⟩
        | some p =>
          obtain ⟨n, k⟩ := p
          have HT := hide ht
          clear hall ht
          go_enter Try.func8, Try.ntmps8
          go_wp2_with fail
          refine (putlist_any _ l _ _ HA.out (by omega)).mono ?_
          rw [HL.out]
          rintro r w3 ⟨rfl, hb3⟩
          have B3 := hide hb3
          clear hb3
          go_wp2_with fail
          refine (take_some a1 n k HT.out _).mono ?_
          rintro r w4 ⟨rfl, hb4⟩
          have B4 := hide (btr B3.out hb4)
          clear hb4
          have ab : ∀ w, (Op.stringOp .add (bs (spl n)) (a1.extract k a1.size)).run Try.prog w = .ok (.string a1) w := fun w => by
            have e := back_str HT.out
            rw [add_str _ _ w (by rw [← ByteArray.size_append, e]; omega), e]
          go_wp2_with fail
          refine (put_ok n (tk_bound HT.out) _).mono ?_
          rintro r w5 ⟨rfl, hb5⟩
          have B5 := hide (btr B4.out hb5)
          clear hb5
          go_wp2_with fail
          refine (long_any _).mono ?_
          rintro r w6 ⟨rfl, hb6⟩
          have B6 := hide (btr B5.out hb6)
          clear hb6
          go_wp2_with fail
          go_ret
          exact ⟨rfl, B6.out⟩
      · have HL := hide hall
        cases ht : tk (nbs a1) with
        | none =>
          have HT := hide ht
          clear hall ht
          go_enter Try.func8, Try.ntmps8
          go_wp2_with fail
          refine (putlist_any _ l _ _ HA.out (by omega)).mono ?_
          rw [HL.out]
          rintro r w1 ⟨rfl, hb1⟩
          have B1 := hide hb1
          have A1 := hide (HA.out.below hb1)
          clear hb1
          have ad := fun w => add_str (bs (plist l)) a1 w (by rw [bs_size]; have := plist_len l; omega)
          have TL : Hid (tl (nbs (bs (plist l) ++ a1)) (l.length : Int) = .ok (l, (plist l).length)) := by
            show _ = _
            rw [nbs_append, nbs_bs _ (plist_lt l)]
            exact tl_plist l _ (by omega) HL.out
          have SX : (bs (plist l) ++ a1).extract (plist l).length (bs (plist l) ++ a1).size = a1 := by
            apply nbs_inj
            rw [nbs_sfx, nbs_append, nbs_bs _ (plist_lt l), List.drop_left]
          have SL : (bs (plist l) ++ a1).size ≤ 5000000 := by
            have := plist_len l
            rw [ByteArray.size_append, bs_size]
            omega
          generalize bs (plist l) ++ a1 = S at ad TL SX SL
          have HSX := hide SX
          have HSL := hide SL
          clear SX SL
          go_wp2_with fail
          refine (takelist_ok S (l.length : Int) l (plist l).length _ TL.out HSL.out).mono ?_
          rw [HSX.out]
          rintro r w2 ⟨b, rfl, hA2, hb2⟩
          have B2 := hide (btr B1.out hb2)
          have A2 := hide hA2
          have A3 := hide (A1.out.below hb2)
          clear hb2 hA2
          go_wp2_with fail
          refine (ints_is _ _ l l _ _ _ _ true (by simp) rfl rfl _ A2.out A3.out (by omega) (by omega)).mono ?_
          rintro r w3 ⟨rfl, hb3⟩
          have B3 := hide (btr B2.out hb3)
          clear hb3
          go_wp2_with fail
          refine (take_none a1 HT.out _).mono ?_
          rintro r w4 ⟨rfl, hb4⟩
          have B4 := hide (btr B3.out hb4)
          clear hb4
          go_wp2_with fail
          refine (long_any _).mono ?_
          rintro r w6 ⟨rfl, hb6⟩
          have B6 := hide (btr B4.out hb6)
          clear hb6
          go_wp2_with fail
          go_ret
          exact ⟨rfl, B6.out⟩
        | some p =>
          obtain ⟨n, k⟩ := p
          have HT := hide ht
          clear hall ht
          go_enter Try.func8, Try.ntmps8
          go_wp2_with fail
          refine (putlist_any _ l _ _ HA.out (by omega)).mono ?_
          rw [HL.out]
          rintro r w1 ⟨rfl, hb1⟩
          have B1 := hide hb1
          have A1 := hide (HA.out.below hb1)
          clear hb1
          have ad := fun w => add_str (bs (plist l)) a1 w (by rw [bs_size]; have := plist_len l; omega)
          have TL : Hid (tl (nbs (bs (plist l) ++ a1)) (l.length : Int) = .ok (l, (plist l).length)) := by
            show _ = _
            rw [nbs_append, nbs_bs _ (plist_lt l)]
            exact tl_plist l _ (by omega) HL.out
          have SX : (bs (plist l) ++ a1).extract (plist l).length (bs (plist l) ++ a1).size = a1 := by
            apply nbs_inj
            rw [nbs_sfx, nbs_append, nbs_bs _ (plist_lt l), List.drop_left]
          have SL : (bs (plist l) ++ a1).size ≤ 5000000 := by
            have := plist_len l
            rw [ByteArray.size_append, bs_size]
            omega
          generalize bs (plist l) ++ a1 = S at ad TL SX SL
          have HSX := hide SX
          have HSL := hide SL
          clear SX SL
          go_wp2_with fail
          refine (takelist_ok S (l.length : Int) l (plist l).length _ TL.out HSL.out).mono ?_
          rw [HSX.out]
          rintro r w2 ⟨b, rfl, hA2, hb2⟩
          have B2 := hide (btr B1.out hb2)
          have A2 := hide hA2
          have A3 := hide (A1.out.below hb2)
          clear hb2 hA2
          go_wp2_with fail
          refine (ints_is _ _ l l _ _ _ _ true (by simp) rfl rfl _ A2.out A3.out (by omega) (by omega)).mono ?_
          rintro r w3 ⟨rfl, hb3⟩
          have B3 := hide (btr B2.out hb3)
          clear hb3
          go_wp2_with fail
          refine (take_some a1 n k HT.out _).mono ?_
          rintro r w4 ⟨rfl, hb4⟩
          have B4 := hide (btr B3.out hb4)
          clear hb4
          have ab : ∀ w, (Op.stringOp .add (bs (spl n)) (a1.extract k a1.size)).run Try.prog w = .ok (.string a1) w := fun w => by
            have e := back_str HT.out
            rw [add_str _ _ w (by rw [← ByteArray.size_append, e]; omega), e]
          go_wp2_with fail
          refine (put_ok n (tk_bound HT.out) _).mono ?_
          rintro r w5 ⟨rfl, hb5⟩
          have B5 := hide (btr B4.out hb5)
          clear hb5
          go_wp2_with fail
          refine (long_any _).mono ?_
          rintro r w6 ⟨rfl, hb6⟩
          have B6 := hide (btr B5.out hb6)
          clear hb6
          go_wp2_with fail
          go_ret
          exact ⟨rfl, B6.out⟩
    · have h2' : decide ((5000 : Int) < (a1.size : Int)) = true := by simp; omega
      go_enter Try.func8, Try.ntmps8
      go_wp2_with fail
      refine (long_any _).mono ?_
      rintro r w3 ⟨rfl, hb3⟩
      have B3 := hide hb3
      clear hb3
      go_wp2_with fail
      go_ret
      exact ⟨rfl, B3.out⟩
  · have h' : decide ((1000 : Int) < (l.length : Int)) = true := by simp; omega
    go_enter Try.func8, Try.ntmps8
    go_wp2_with fail
    refine (long_any _).mono ?_
    rintro r w3 ⟨rfl, hb3⟩
    have B3 := hide hb3
    clear hb3
    go_wp2_with fail
    go_ret
    exact ⟨rfl, B3.out⟩

/-! ### the row -/
set_option maxRecDepth 100000 in
theorem lifted (os : Os) (started : os.Started) (H : Type) (enc : TypeId × Value → H) :
    ReturnsInHanded {} Try.checked os 8 .any (Rows.reelBackSpec.pre6 enc Try.prog Try.f8 Rows.reelBackRow.domain false) (Rows.reelBackSpec.post enc Try.prog Try.f8 false true false false) := by
  refine returnsInHanded_of_change (C := Try.checked) own started (by kernel_rfl) Try.func8
    (ChangeSpec.witness6 (enc := enc) (C := Try.checked) false ⟨#[], #[.slice none 0 0, .string ByteArray.empty], []⟩ 8 (by kernel_rfl) (by kernel_rfl) (by kernel_rfl) (by kernel_rfl)) ?_
  intro W base args ds gs before hval0 hW hcnd _
  have hval : ∀ (j : Nat) t v, Try.f8.params[j]? = some t → args[j]? = some v → Value.okWide Try.prog W .any base t v := hval0
  have hW' := hW
  obtain ⟨p, q, hA0, hV, rfl, hfz, hnd⟩ := hW
  have hA : DataW.TrodAll enc Try.prog W 0 (fun _ => true) true Try.f8.params.toList args.toList ds p := hA0
  rw [Try.params8] at hA hval
  obtain ⟨v0, vs0, d0, ds0, p0, q0, hargs, rfl, rfl, h0, r0⟩ := trodAll_cons hA
  obtain ⟨v1, vs1, d1, ds1, p1, q1, rfl, rfl, rfl, h1, r1⟩ := trodAll_cons r0
  obtain ⟨rfl, rfl, rfl⟩ := trodAll_nil r1
  obtain rfl : args = #[v0, v1] := by cases args; simp_all
  obtain ⟨rfl, rfl⟩ := trodVars_none hV
  obtain ⟨a0, len0, cap0, rfl⟩ := okWide_slice Try.underlying40 (hval 0 40 v0 rfl rfl)
  have k0 := h0
  have lt0 : ∀ x ∈ p0, x.block < W.heap.size := by obtain ⟨m, hm⟩ := k0; exact DataW.trod_lt m _ _ _ hm
  obtain ⟨z0, w0⟩ : ∃ zs, IsRow .i64 W a0 len0 cap0 zs := by
    obtain ⟨fuel, hf⟩ := h0
    rcases open_ints Try.underlying40 Try.underlying3 (by kernel_rfl) hf with ⟨hcs, _⟩ | ⟨x, l, c, zs, hcs, _, hl, hm, hz, _, hcell, hwz⟩
    · simp [Value.cells] at hcs
      obtain ⟨rfl, rfl, rfl⟩ := hcs
      exact ⟨[], .inl ⟨rfl, rfl, rfl, rfl⟩⟩
    · simp [Value.cells] at hcs
      obtain ⟨rfl, rfl, rfl⟩ := hcs
      exact ⟨zs, .inr ⟨_, rfl, hl, hm, by simpa using hz, hcell, hwz⟩⟩
  obtain ⟨a1, rfl, rfl, rfl, w1⟩ := open_string Try.underlying9 (hval 1 9 v1 rfl rfl) h1
  clear hA0 hval0
  refine (walk a0 len0 cap0 z0 a1 W w0 w1).mono fun e W' ⟨he, bel⟩ => ?_
  subst he
  exact ⟨_, rfl, _, _, _, [], _, [], hW', trodAll_mk1 (shut_bool Try.underlying4 _), (trodAll_cons_mk (Below.trod laidOut (by kernel_rfl) (of_decide_eq_true (by kernel_rfl)) k0 bel lt0) (trodAll_cons_mk (shut_string Try.underlying9 w1) trodAll_mk0)), rfl, bel.frame _, fun h => by cases h⟩

theorem over : Rows.reelBackRow.holds Try.pinned (OpenSpec.ofChange Rows.reelBackSpec) :=
  OpenClaim.holds_of_wide 8 Try.f8 rfl rfl rfl rfl rfl rfl rfl ⟨rfl, rfl, rfl, rfl, rfl⟩ rfl rfl rfl rfl rfl (by kernel_rfl) Try.func8 (by kernel_rfl)
    (of_decide_eq_true (by kernel_rfl)) (by unfold Func.isWrapper; first | (rw [if_pos (by decide +kernel)]; kernel_rfl) | (rw [if_neg (by decide +kernel)]; exact ⟨rfl, rfl⟩))
    (fun os started H enc _ => lifted os started H enc)

/-- ████ THE STATEMENT ████ -/
theorem proved : Rows.ReelBackSaid := over
#print axioms proved
end Go.Proofs.Ytkgddkpolckacaa.reelBack
