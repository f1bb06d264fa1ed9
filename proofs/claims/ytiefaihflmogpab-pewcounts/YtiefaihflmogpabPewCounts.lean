/- For every list of waiters and every goroutine, the law PewCounts returns true, so who is dropped, and who is left, are all that were there: under no condition. -/
import Derived.Test.YtiefaihflmogpabVg
import Derived.ShutString
import Derived.ChangeOld
import Derived.Below
namespace Go.Proofs.Ytiefaihflmogpab.pewCounts
open Go.ChangeShapes Go.WideShapes Go.ChangeAt Go.RowKit
open Go.ChangeMaps (open_string shut_string)
open Pe Ba

theorem own : ownKnob Try.prog.godebug = none := by kernel_rfl
theorem laidOut : laidOutB Try.prog = true := by kernel_rfl

set_option maxRecDepth 100000 in
set_option maxHeartbeats 1600000 in
theorem core {w : World} (oa : Option Addr) (l : List (List Int)) (c : Nat) (hA : RAt w oa 3 l) (hl : l.length ≤ maxLen) (g : Int) :
    Calls Try.prog 7 #[.slice oa l.length c, .int .i64 g] w fun r w' => r = .returned (.bool true) ∧ Below w.heap.size w w' := by
  have HA := hide hA
  unfold maxLen at hl
  clear hA
  go_enter Try.func7, Try.ntmps7
  go_wp2_with fail
  refine (new_any _).mono ?_
  rintro r w1 ⟨rfl, p1, b1⟩
  have P1 := hide p1
  have B1 := hide b1
  clear p1 b1
  by_cases h3 : 300 < l.length
  · have h3' : decide ((300 : Int) < (l.length : Int)) = true := decide_eq_true (by omega)
    go_wp2_with fail
    refine (three_any _).mono ?_
    rintro r w5 ⟨rfl, b5⟩
    have B5 := hide (btr B1.out b5)
    clear b5
    go_wp2_with fail
    go_ret
    exact ⟨rfl, B5.out⟩
  have h3' : decide ((300 : Int) < (l.length : Int)) = false := decide_eq_false (by omega)
  go_wp2_with fail
  go_loopw [26] (fun i wr => ∃ (k : Nat), k ≤ l.length ∧ i = .int .i64 k ∧ Pw wr w.heap.size (ads l k) ∧ Below w.heap.size w wr) (fun i _ => l.length - (intOf i).toNat)
  case atStart => exact ⟨0, Nat.zero_le _, rfl, by rw [ads_zero]; exact P1.out, B1.out⟩
  case round =>
    clear P1 B1
    obtain ⟨k, hk, rfl, p2, b2⟩ := hrel
    have P2 := hide p2
    have B2 := hide b2
    clear p2 b2
    by_cases hlt : k < l.length
    · have hlt' : (k : Int) < (l.length : Int) := by omega
      obtain ⟨z, hz⟩ : ∃ z, l[k]? = some z := ⟨_, List.getElem?_eq_getElem hlt⟩
      obtain ⟨b', o', rfl, hc⟩ := (HA.out.below B2.out) k z hz
      have q0 := hc 0 (by decide)
      have q1 := hc 1 (by decide)
      have q2 := hc 2 (by decide)
      rw [Nat.add_zero] at q0
      have AS := hide (ads_succ hz (by omega))
      clear hc hz
      have AD := hide fun u hP => add_any w.heap.size (ads l k) (wl z) u hP
      rw [AS.out] at AD
      unfold wv wl at AD
      generalize nth z 0 = z0 at *
      generalize nth z 1 = z1 at *
      generalize nth z 2 = z2 at *
      generalize ae (ads l k) ⟨z0, z1, z2⟩ = aev at *
      go_wp2_with fail
      refine (AD.out _ (P2.out.below (below_alloc _ _))).mono ?_
      rintro r w3 ⟨rfl, p3, f3⟩
      have P3 := hide p3
      have B3 := hide (f3.under (btr B2.out (below_alloc _ _)) (Nat.le_refl _))
      clear p3 f3
      go_wp2_with fail
      go_roundw
      case rel => exact ⟨k + 1, by omega, by go_num, P3.out, B3.out⟩
      case measure => simp [intOf]; omega
    · have hlt' : ¬ ((k : Int) < (l.length : Int)) := by omega
      have hal := ads_len l k
      generalize ads l k = L at P2 hal
      have HI := hide (has_iff g L)
      have hdl := dr_len g L
      have HD := hide (dr_dr g L)
      have HR := hide (has_dr g L)
      go_wp2_with fail
      refine (len_any _ L _ P2.out).mono ?_
      rintro r w3 ⟨rfl, rfl⟩
      go_wp2_with fail
      refine (has_any _ L g _ P2.out).mono ?_
      rw [HI.out]
      rintro r w3 ⟨rfl, rfl⟩
      go_wp2_with fail
      refine (drop_any _ L g _ P2.out).mono ?_
      generalize dr g L = D at *
      rintro r w4 ⟨rfl, p4, f4⟩
      have P4 := hide p4
      have B4 := hide (f4.under B2.out (Nat.le_refl _))
      clear p4 f4
      obtain ⟨a, ha⟩ : ∃ a, a = L.length := ⟨_, rfl⟩
      obtain ⟨b, hb⟩ : ∃ b, b = D.length := ⟨_, rfl⟩
      have LN := hide (len_any _ D _ P4.out)
      rw [← hb] at LN
      rw [← ha, ← hb]
      have hab : b ≤ a := by omega
      have hak : a ≤ 300 := by omega
      have BB := hide hb
      clear hdl ha hb hal
      by_cases hba : b < a
      · have e1 : decide (b < a) = true := decide_eq_true hba
        have e2 : decide (0 < (a : Int) - (b : Int)) = true := decide_eq_true (by omega)
        rw [e1]
        go_wp2_with fail
        refine LN.out.mono ?_
        rintro r w5 ⟨rfl, rfl⟩
        go_wp2_with fail
        refine (has_any _ D g _ P4.out).mono ?_
        rw [HR.out]
        rintro r w6 ⟨rfl, rfl⟩
        go_wp2_with fail
        refine (drop_is _ D D g 0 _ P4.out HD.out (by omega)).mono ?_
        rintro r w7 ⟨rfl, _, f7⟩
        have B7 := hide (f7.under B4.out (Nat.le_refl _))
        clear f7
        go_wp2_with fail
        refine (three_any _).mono ?_
        rintro r w8 ⟨rfl, b8⟩
        have B8 := hide (btr B7.out b8)
        clear b8
        go_wp2_with fail
        go_ret
        exact ⟨rfl, B8.out⟩
      · have e1 : decide (b < a) = false := decide_eq_false hba
        have e2 : decide (0 < (a : Int) - (b : Int)) = false := decide_eq_false (by omega)
        rw [e1]
        go_wp2_with fail
        refine LN.out.mono ?_
        rintro r w5 ⟨rfl, rfl⟩
        go_wp2_with fail
        refine (has_any _ D g _ P4.out).mono ?_
        rw [HR.out]
        rintro r w6 ⟨rfl, rfl⟩
        go_wp2_with fail
        refine (drop_is _ D D g 0 _ P4.out HD.out (by omega)).mono ?_
        rintro r w7 ⟨rfl, _, f7⟩
        have B7 := hide (f7.under B4.out (Nat.le_refl _))
        clear f7
        go_wp2_with fail
        refine (three_any _).mono ?_
        rintro r w8 ⟨rfl, b8⟩
        have B8 := hide (btr B7.out b8)
        clear b8
        go_wp2_with fail
        go_ret
        exact ⟨rfl, B8.out⟩

/-! ### the row -/
set_option maxRecDepth 100000 in
theorem lifted (os : Os) (started : os.Started) (H : Type) (enc : TypeId × Value → H) :
    ReturnsInHanded {} Try.checked os 7 .any (Rows.pewCountsSpec.pre6 enc Try.prog Try.f7 Rows.pewCountsRow.domain false) (Rows.pewCountsSpec.post enc Try.prog Try.f7 false true false false) := by
  refine returnsInHanded_of_change (C := Try.checked) own started (by kernel_rfl) Try.func7
    (ChangeSpec.witness6 (enc := enc) (C := Try.checked) false ⟨#[], #[.slice none 0 0, .int .i64 0], []⟩ 8 (by kernel_rfl) (by kernel_rfl) (by kernel_rfl) (by kernel_rfl)) ?_
  intro W base args ds gs before hval0 hW hcnd _
  have hval : ∀ (j : Nat) t v, Try.f7.params[j]? = some t → args[j]? = some v → Value.okWide Try.prog W .any base t v := hval0
  have hW' := hW
  obtain ⟨p, q, hA0, hV, rfl, hfz, hnd⟩ := hW
  have hA : DataW.TrodAll enc Try.prog W 0 (fun _ => true) true Try.f7.params.toList args.toList ds p := hA0
  rw [Try.params7] at hA hval
  obtain ⟨v0, vs0, d0, ds0, p0, q0, hargs, rfl, rfl, h0, r0⟩ := trodAll_cons hA
  obtain ⟨v1, vs1, d1, ds1, p1, q1, rfl, rfl, rfl, h1, r1⟩ := trodAll_cons r0
  obtain ⟨rfl, rfl, rfl⟩ := trodAll_nil r1
  obtain rfl : args = #[v0, v1] := by cases args; simp_all
  obtain ⟨rfl, rfl⟩ := trodVars_none hV
  obtain ⟨oa0, n0, c0, rfl⟩ := okWide_slice Try.underlying47 (hval 0 47 v0 rfl rfl)
  have k0 := h0
  have lt0 : ∀ x ∈ p0, x.block < W.heap.size := by obtain ⟨m, hm⟩ := k0; exact DataW.trod_lt m _ _ _ hm
  obtain ⟨l0, rfl, A0, C0, M0⟩ := h0.elim fun _ hf => waiters_open hf
  obtain ⟨a1, rfl, rfl, rfl, w1⟩ := open_int Try.underlying3 (hval 1 3 v1 rfl rfl) h1
  clear hA0 hval0
  refine (core (w := W) oa0 l0 c0 A0 (Nat.le_trans C0 M0) a1).mono fun e W' ⟨he, bel⟩ => ?_
  subst he
  exact ⟨_, rfl, _, _, _, [], _, [], hW', trodAll_mk1 (shut_bool Try.underlying4 _), (trodAll_cons_mk (Below.trod laidOut (by kernel_rfl) (of_decide_eq_true (by kernel_rfl)) k0 bel lt0) (trodAll_cons_mk (shut_int Try.underlying3 w1) trodAll_mk0)), rfl, bel.frame _, fun h => by cases h⟩

theorem over : Rows.pewCountsRow.holds Try.pinned (OpenSpec.ofChange Rows.pewCountsSpec) :=
  OpenClaim.holds_of_wide 7 Try.f7 rfl rfl rfl rfl rfl rfl rfl ⟨rfl, rfl, rfl, rfl, rfl⟩ rfl rfl rfl rfl rfl (by kernel_rfl) Try.func7 (by kernel_rfl)
    (of_decide_eq_true (by kernel_rfl)) (by unfold Func.isWrapper; first | (rw [if_pos (by decide +kernel)]; kernel_rfl) | (rw [if_neg (by decide +kernel)]; exact ⟨rfl, rfl⟩))
    (fun os started H enc _ => lifted os started H enc)

/-- the statement -/
theorem proved : Rows.PewCountsSaid := over
#print axioms proved
end Go.Proofs.Ytiefaihflmogpab.pewCounts
