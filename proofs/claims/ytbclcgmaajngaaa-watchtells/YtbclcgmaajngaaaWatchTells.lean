/- What is told is what was known; then the own number is one more, up to M; whoever knows that knows all (16.1): of every M, and up to 200 times. -/
import Derived.Test.YtbclcgmaajngaaaUg
import Derived.Test.YtbclcgmaajngaaaBo
import Derived.ShutString
import Derived.ChangeOld
import Derived.Below
namespace Go.Proofs.Ytbclcgmaajngaaa.watchTells
open Go.ChangeShapes Go.WideShapes Go.ChangeAt Go.RowKit
open Go.ChangeMaps (open_string shut_string)
open Wa Ck

theorem own : ownKnob Try.prog.godebug = none := by kernel_rfl
theorem laidOut : laidOutB Try.prog = true := by kernel_rfl

theorem canon1 {v : Int} (h : v ≠ 0) : Canon [v] := by
  unfold Canon tlen
  simp [tlen, h]
theorem canon2 (x : Int) : Canon [x, 1] := by
  unfold Canon tlen
  simp [tlen]
theorem jn2 (x v : Int) : jn [x, 1] [v] = [max x v, 1] := by
  simp [jn, List.range_succ, nth]
  decide
theorem get0 (b : Nat) (l : List Int) (v : Int) (w : World) (h : CK w b l) (hv : nth l 0 = v) : Calls Try.prog 19 #[.pointer (some ⟨b, 0, none⟩), .int .i64 0] w fun r w' => r = .returned (.int .i64 v) ∧ w' = w := by
  subst hv
  have := get_any b l ((0 : Nat) : Int) w h
  rw [gt_nat] at this
  exact this
set_option maxRecDepth 100000 in
set_option maxHeartbeats 12800000 in
theorem core {w : World} (m n : Int) :
    Calls Try.prog 5 #[.int .i64 m, .int .i64 n] w fun r w' => r = .returned (.bool true) ∧ Below w.heap.size w w' := by
  by_cases hm : m < 1 ∨ 1048576 < m
  · have NB := hide (new_bad 3 m w (.inr hm))
    clear hm
    go_enter Try.func5, Try.ntmps5
    go_wp2_with fail
    refine NB.out.mono ?_
    rintro r w1 ⟨rfl, e1⟩
    obtain rfl := e1.symm
    go_wp2_with fail
    refine (two_any _).mono ?_
    rintro r w3 ⟨rfl, b3⟩
    have B3 := hide b3
    clear b3
    go_wp2_with fail
    go_ret
    exact ⟨rfl, B3.out⟩
  obtain ⟨M, rfl⟩ : ∃ M : Nat, m = (M : Int) := ⟨m.toNat, by omega⟩
  have hM : 1 ≤ M ∧ M ≤ 1048576 := by omega
  have NW := hide (new_any 3 M w (by decide) hM)
  clear hm
  by_cases hn : n < 0 ∨ 200 < n
  · have key : ∀ (G : Prop), (decide (n < 0) = true → G) → (decide (n < 0) = false → decide (200 < n) = true → G) → G := fun G g1 g2 => by
      by_cases q : n < 0
      · exact g1 (decide_eq_true q)
      · exact g2 (decide_eq_false q) (decide_eq_true (by omega))
    clear hn
    refine key _ (fun d1 => ?_) (fun d1 d2 => ?_)
    all_goals
      clear key
      go_enter Try.func5, Try.ntmps5
      go_wp2_with fail
      refine NW.out.mono ?_
      rintro r w1 ⟨B, c0, h1, rfl, s1, e1, k1⟩
      have B1 := hide (Kp.lw k1)
      clear s1 e1 k1 NW
      go_wp2_with fail
      refine (two_any _).mono ?_
      rintro r w3 ⟨rfl, b3⟩
      have B3 := hide (btr B1.out b3)
      clear b3
      go_wp2_with fail
      go_ret
      exact ⟨rfl, B3.out⟩
  obtain ⟨N, rfl⟩ : ∃ N : Nat, n = (N : Int) := ⟨n.toNat, by omega⟩
  have hN : N ≤ 200 := by omega
  have d1 : decide ((N : Int) < 0) = false := decide_eq_false (by omega)
  have d2 : decide (200 < (N : Int)) = false := decide_eq_false (by omega)
  clear hn
  go_enter Try.func5, Try.ntmps5
  go_wp2_with fail
  refine NW.out.mono ?_
  rintro r w1 ⟨B, c0, h1, rfl, s1, e1, k1⟩
  have S1 : Hid (WW (Lw w) B w1 ⟨3, M, 1, upf f0 0 (some (0, c0))⟩ h1) := s1
  have E1 := hide e1
  have K1 := hide k1
  clear s1 e1 k1 NW
  go_wp2_with fail
  refine (spawn_ok S1.out 0 1 (by decide) (by decide) (by decide) 0 c0 1 [1] rfl rfl E1.out (show 1 < 3 by decide) (by decide) (fun q => by have := (used1 c0 1).1 q; cases this) (fun t ht => (used1 c0 t).2 (by omega))).mono ?_
  rintro r w2 ⟨rfl, A1, l1, n1, i1, s2, k2⟩
  have el1 : l1 = [1, 1] := set_eq i1 (canon2 1) (fun j => by match j with | 0 => rfl | 1 => rfl | j + 2 => simp [nth])
  subst el1
  have hA : c0 ≠ A1 := fun q => by rw [← q, E1.out] at n1; cases n1
  have S2 : Hid (WW (Lw w) B w2 ⟨3, M, 2, upf (upf f0 0 (some (0, c0))) 1 (some (1, A1))⟩ (upd h1 A1 [1, 1])) := s2
  have E2 : Hid (upd h1 A1 [1, 1] c0 = some [1]) := by rw [upd_other _ _ _ _ hA]; exact E1.out
  have E21 : Hid (upd h1 A1 [1, 1] A1 = some [1, 1]) := upd_same _ _ _
  have K2 := hide (K1.out.trans k2)
  generalize upd h1 A1 [1, 1] = h2 at *
  clear s2 k2 i1 n1 S1 K1 E1
  obtain ⟨st, hst⟩ : ∃ st : Wst, (⟨3, M, 2, upf (upf f0 0 (some (0, c0))) 1 (some (1, A1))⟩ : Wst) = st := ⟨_, rfl⟩
  have F0 : Hid (st.f 0 = some (0, c0)) := by rw [← hst]; rfl
  have F1 : Hid (st.f 1 = some (1, A1)) := by rw [← hst]; rfl
  have FM : Hid (st.M = M) := (congrArg Wst.M hst).symm
  rw [hst] at S2
  clear hst
  go_wp2_with fail
  go_loopw [7] (fun i wr => ∃ (k : Nat) (x : Int) (h : Nat → Option (List Int)), k ≤ N ∧ i = .int .i64 (k : Int) ∧ (k + 1 ≤ M ∧ x ≤ (k : Int) + 1) ∧ (h c0 = some [(k : Int) + 1] ∧ h A1 = some [x, 1]) ∧ WW (Lw w) B wr st h ∧ Kp (Lw w) w wr) (fun i _ => N - (intOf i).toNat)
  case atStart => exact ⟨0, 1, h2, Nat.zero_le _, rfl, ⟨by omega, by decide⟩, ⟨E2.out, E21.out⟩, S2.out, K2.out⟩
  case round =>
    clear S2 E2 E21 K2
    obtain ⟨k, x, h, hkN, rfl, ⟨hkM, hx⟩, ⟨e0, e1⟩, s, kp⟩ := hrel
    have E0 := hide e0
    have E1 := hide e1
    have SS := hide s
    have KP := hide kp
    have HX := hide hx
    clear e0 e1 s kp hx
    by_cases hlt : k < N
    · have hlt' : (k : Int) < (N : Int) := by omega
      obtain ⟨v, hv⟩ : ∃ v : Int, (k : Int) + 1 = v := ⟨_, rfl⟩
      rw [hv] at E0 HX
      have hvm : v ≤ (M : Int) := by omega
      have hv1 : 1 ≤ v := by omega
      have HV := hide hv
      clear hv
      go_wp2_with fail
      refine (clock_any SS.out 0 (by decide) 0 c0 [v] F0.out E0.out).mono ?_
      rintro r w3 ⟨P, rfl, nP, s3, k3⟩
      have hP0 : c0 ≠ P := fun q => by rw [← q, E0.out] at nP; cases nP
      have hP1 : A1 ≠ P := fun q => by rw [← q, E1.out] at nP; cases nP
      have S3 := hide s3
      have EP3 : Hid (upd h P [v] P = some [v]) := upd_same _ _ _
      have E03 : Hid (upd h P [v] c0 = some [v]) := by rw [upd_other _ _ _ _ hP0]; exact E0.out
      have E13 : Hid (upd h P [v] A1 = some [x, 1]) := by rw [upd_other _ _ _ _ hP1]; exact E1.out
      have K3 := hide (KP.out.trans k3)
      generalize upd h P [v] = h3 at *
      clear s3 k3 nP SS E0 E1 KP
      go_wp2_with fail
      refine (can_any S3.out 0 (by decide) 0 c0 [v] F0.out E03.out).mono ?_
      rintro r w4 ⟨rfl, b4⟩
      have S4 := hide (S3.out.below b4)
      have K4 := hide (kp_b K3.out b4 S3.out.ylt)
      have en : nth [v] 0 = v := rfl
      rw [en, FM.out]
      clear b4 S3 K3 en
      by_cases hvM : v < (M : Int)
      · have dv : decide (v < (M : Int)) = true := decide_eq_true hvM
        rw [dv]
        go_wp2_with fail
        refine (tell_ok S4.out 0 (by decide) 0 c0 [v] F0.out E03.out (by rw [FM.out]; exact hvM)).mono ?_
        rintro r w5 ⟨C, l', rfl, nC, i5, s5, k5⟩
        have el' : l' = [v + 1] := set_eq i5 (canon1 (by omega)) (fun j => by match j with | 0 => rfl | j + 1 => simp [nth])
        subst el'
        have hC0 : c0 ≠ C := fun q => by rw [← q, E03.out] at nC; cases nC
        have hC1 : A1 ≠ C := fun q => by rw [← q, E13.out] at nC; cases nC
        have hCP : P ≠ C := fun q => by rw [← q, EP3.out] at nC; cases nC
        have S5 := hide s5
        have E05 : Hid (upd (upd h3 C [v]) c0 [v + 1] c0 = some [v + 1]) := upd_same _ _ _
        have EC5 : Hid (upd (upd h3 C [v]) c0 [v + 1] C = some [v]) := by rw [upd_other _ _ _ _ (Ne.symm hC0)]; exact upd_same _ _ _
        have E15 : Hid (upd (upd h3 C [v]) c0 [v + 1] A1 = some [x, 1]) := by rw [upd_other _ _ _ _ (Ne.symm hA), upd_other _ _ _ _ hC1]; exact E13.out
        have EP5 : Hid (upd (upd h3 C [v]) c0 [v + 1] P = some [v]) := by rw [upd_other _ _ _ _ (Ne.symm hP0), upd_other _ _ _ _ hCP]; exact EP3.out
        have K5 := hide (K4.out.trans k5)
        generalize upd (upd h3 C [v]) c0 [v + 1] = h5 at *
        clear s5 k5 i5 nC S4 K4 E03 E13 EP3
        have GP := hide (get0 P [v] v w5 (S5.out.get EP5.out).1 rfl)
        go_wp2_with fail
        refine GP.out.mono ?_
        rintro r w5' ⟨rfl, e5⟩
        obtain rfl := e5.symm
        clear GP
        go_wp2_with fail
        refine (know_any S5.out 1 (by decide) 1 A1 C [x, 1] [v] F1.out E15.out EC5.out).mono ?_
        rintro r w6 ⟨rfl, s6, k6⟩
        have ex : max x v = v := by have := HX.out; omega
        rw [jn2, ex] at s6
        have S6 := hide s6
        have E06 : Hid (upd h5 A1 [v, 1] c0 = some [v + 1]) := by rw [upd_other _ _ _ _ hA]; exact E05.out
        have E16 : Hid (upd h5 A1 [v, 1] A1 = some [v, 1]) := upd_same _ _ _
        have EC6 : Hid (upd h5 A1 [v, 1] C = some [v]) := by rw [upd_other _ _ _ _ (Ne.symm hC1)]; exact EC5.out
        have EP6 : Hid (upd h5 A1 [v, 1] P = some [v]) := by rw [upd_other _ _ _ _ (Ne.symm hP1)]; exact EP5.out
        have K6 := hide (K5.out.trans k6)
        generalize upd h5 A1 [v, 1] = h6 at *
        clear s6 k6 ex S5 K5 E05 EC5 E15 EP5
        go_wp2_with fail
        refine (clock_any S6.out 0 (by decide) 0 c0 [v + 1] F0.out E06.out).mono ?_
        rintro r w7 ⟨A, rfl, nA, s7, k7⟩
        have hx7 : Ext h6 (upd h6 A [v + 1]) := Ext.upd nA
        have S7 := hide s7
        have EA7 : Hid (upd h6 A [v + 1] A = some [v + 1]) := upd_same _ _ _
        have E07 := hide (hx7 _ _ E06.out)
        have E17 := hide (hx7 _ _ E16.out)
        have EC7 := hide (hx7 _ _ EC6.out)
        have EP7 := hide (hx7 _ _ EP6.out)
        have K7 := hide (K6.out.trans k7)
        clear hx7
        generalize upd h6 A [v + 1] = h7 at *
        clear s7 k7 nA S6 K6 E06 E16 EC6 EP6
        go_wp2_with fail
        refine (clock_any S7.out 1 (by decide) 1 A1 [v, 1] F1.out E17.out).mono ?_
        rintro r w8 ⟨Q, rfl, nQ, s8, k8⟩
        have hx8 : Ext h7 (upd h7 Q [v, 1]) := Ext.upd nQ
        have S8 := hide s8
        have EQ8 : Hid (upd h7 Q [v, 1] Q = some [v, 1]) := upd_same _ _ _
        have E08 := hide (hx8 _ _ E07.out)
        have E18 := hide (hx8 _ _ E17.out)
        have EC8 := hide (hx8 _ _ EC7.out)
        have EP8 := hide (hx8 _ _ EP7.out)
        have EA8 := hide (hx8 _ _ EA7.out)
        have K8 := hide (K7.out.trans k8)
        clear hx8
        generalize upd h7 Q [v, 1] = h8 at *
        clear s8 k8 nQ S7 K7 E07 E17 EC7 EP7 EA7
        have CC := hide (S8.out.get EC8.out).1
        have CP := hide (S8.out.get EP8.out).1
        have CA := hide (S8.out.get EA8.out).1
        have CQ := hide (S8.out.get EQ8.out).1
        go_wp2_with fail
        refine (list_is C [v] 1 w8 CC.out rfl).mono ?_
        rintro r w9 ⟨oa9, rfl, t9, b9⟩
        have T9 := hide t9
        have B9 := hide b9
        clear t9 b9
        go_wp2_with fail
        refine (list_is P [v] 1 w9 (CP.out.below B9.out) rfl).mono ?_
        rintro r wa ⟨oaa, rfl, ta, ba⟩
        have TA := hide ta
        have T9a := hide (T9.out.below ba)
        have BA := hide (btr B9.out ba)
        clear ta ba T9 B9
        go_wp2_with fail
        refine (ints_b _ _ [v] [v] _ _ _ _ true (by simp) rfl rfl _ T9a.out TA.out (by simp) (by simp)).mono ?_
        rintro r wb ⟨rfl, bb⟩
        have BB := hide (btr BA.out bb)
        clear bb TA T9a BA
        have G1 := hide (get0 A [v + 1] (v + 1) wb (CA.out.below BB.out) rfl)
        have G2 := hide (get0 P [v] v wb (CP.out.below BB.out) rfl)
        have G3 := hide (get0 Q [v, 1] v wb (CQ.out.below BB.out) rfl)
        have WI := hide (within_any P Q [v] [v, 1] wb (CP.out.below BB.out) (CQ.out.below BB.out))
        have ew : within [v] [v, 1] = true := within_yes _ _ (fun j hj => by
          have : j = 0 := by simp at hj; exact hj
          subst this
          exact Int.le_refl _)
        rw [ew] at WI
        clear ew
        go_wp2_with fail
        refine G1.out.mono ?_
        rintro r wc ⟨rfl, ec⟩
        obtain rfl := ec.symm
        go_wp2_with fail
        refine G2.out.mono ?_
        rintro r wc ⟨rfl, ec⟩
        obtain rfl := ec.symm
        go_wp2_with fail
        refine WI.out.mono ?_
        rintro r wc ⟨rfl, ec⟩
        obtain rfl := ec.symm
        go_wp2_with fail
        refine G3.out.mono ?_
        rintro r wc ⟨rfl, ec⟩
        obtain rfl := ec.symm
        go_wp2_with fail
        refine G2.out.mono ?_
        rintro r wc ⟨rfl, ec⟩
        obtain rfl := ec.symm
        clear G1 G2 G3 WI
        go_wp2_with fail
        go_roundw
        case rel => exact ⟨k + 1, v, h8, by omega, by go_num, ⟨by have := HV.out; omega, by have := HV.out; omega⟩, ⟨by rw [E08.out]; have := HV.out; congr 2; omega, E18.out⟩, S8.out.below BB.out, kp_b K8.out BB.out S8.out.ylt⟩
        case measure => simp [intOf]; omega
      · have dv : decide (v < (M : Int)) = false := decide_eq_false hvM
        have evM : v = (M : Int) := by omega
        rw [dv]
        go_wp2_with fail
        refine (tell_full S4.out 0 (by decide) 0 c0 [v] F0.out E03.out (by rw [FM.out]; show (M : Int) ≤ v; omega)).mono ?_
        rintro r w5 ⟨rfl, h5, x5, s5, k5⟩
        have S5 := hide s5
        have K5 := hide (K4.out.trans k5)
        have GP := hide (get0 P [v] v w5 (s5.get (x5 P _ EP3.out)).1 rfl)
        have evb : (v == (M : Int)) = true := by rw [beq_iff_eq]; exact evM
        clear s5 k5 x5 S4 K4 evM
        go_wp2_with fail
        refine GP.out.mono ?_
        rintro r wc ⟨rfl, ec⟩
        obtain rfl := ec.symm
        go_wp2_with fail
        refine GP.out.mono ?_
        rintro r wc ⟨rfl, ec⟩
        obtain rfl := ec.symm
        go_wp2_with fail
        refine (two_any _).mono ?_
        rintro r wd ⟨rfl, bd⟩
        have KD := hide (kp_b K5.out bd S5.out.ylt)
        clear bd
        go_wp2_with fail
        go_ret
        exact ⟨rfl, Kp.lw KD.out⟩
    · have hlt' : ¬ ((k : Int) < (N : Int)) := by omega
      go_wp2_with fail
      refine (two_any _).mono ?_
      rintro r wd ⟨rfl, bd⟩
      have KD := hide (kp_b KP.out bd SS.out.ylt)
      clear bd
      go_wp2_with fail
      go_ret
      exact ⟨rfl, Kp.lw KD.out⟩

/-! ### the row -/
set_option maxRecDepth 100000 in
theorem lifted (os : Os) (started : os.Started) (H : Type) (enc : TypeId × Value → H) :
    ReturnsInHanded {} Try.checked os 5 .any (Rows.watchTellsSpec.pre6 enc Try.prog Try.f5 Rows.watchTellsRow.domain false) (Rows.watchTellsSpec.post enc Try.prog Try.f5 false true false false) := by
  refine returnsInHanded_of_change (C := Try.checked) own started (by kernel_rfl) Try.func5
    (ChangeSpec.witness6 (enc := enc) (C := Try.checked) false ⟨#[], #[.int .i64 0, .int .i64 0], []⟩ 8 (by kernel_rfl) (by kernel_rfl) (by kernel_rfl) (by kernel_rfl)) ?_
  intro W base args ds gs before hval0 hW hcnd _
  have hval : ∀ (j : Nat) t v, Try.f5.params[j]? = some t → args[j]? = some v → Value.okWide Try.prog W .any base t v := hval0
  have hW' := hW
  obtain ⟨p, q, hA0, hV, rfl, hfz, hnd⟩ := hW
  have hA : DataW.TrodAll enc Try.prog W 0 (fun _ => true) true Try.f5.params.toList args.toList ds p := hA0
  rw [Try.params5] at hA hval
  obtain ⟨v0, vs0, d0, ds0, p0, q0, hargs, rfl, rfl, h0, r0⟩ := trodAll_cons hA
  obtain ⟨v1, vs1, d1, ds1, p1, q1, rfl, rfl, rfl, h1, r1⟩ := trodAll_cons r0
  obtain ⟨rfl, rfl, rfl⟩ := trodAll_nil r1
  obtain rfl : args = #[v0, v1] := by cases args; simp_all
  obtain ⟨rfl, rfl⟩ := trodVars_none hV
  obtain ⟨a0, rfl, rfl, rfl, w0⟩ := open_int Try.underlying3 (hval 0 3 v0 rfl rfl) h0
  obtain ⟨a1, rfl, rfl, rfl, w1⟩ := open_int Try.underlying3 (hval 1 3 v1 rfl rfl) h1
  clear hA0 hval0
  refine (core (w := W) a0 a1).mono fun e W' ⟨he, bel⟩ => ?_
  subst he
  exact ⟨_, rfl, _, _, _, [], _, [], hW', trodAll_mk1 (shut_bool Try.underlying4 _), (trodAll_cons_mk (shut_int Try.underlying3 w0) (trodAll_cons_mk (shut_int Try.underlying3 w1) trodAll_mk0)), rfl, bel.frame _, fun h => by cases h⟩

theorem over : Rows.watchTellsRow.holds Try.pinned (OpenSpec.ofChange Rows.watchTellsSpec) :=
  OpenClaim.holds_of_wide 5 Try.f5 rfl rfl rfl rfl rfl rfl rfl ⟨rfl, rfl, rfl, rfl, rfl⟩ rfl rfl rfl rfl rfl (by kernel_rfl) Try.func5 (by kernel_rfl)
    (of_decide_eq_true (by kernel_rfl)) (by unfold Func.isWrapper; first | (rw [if_pos (by decide +kernel)]; kernel_rfl) | (rw [if_neg (by decide +kernel)]; exact ⟨rfl, rfl⟩))
    (fun os started H enc _ => lifted os started H enc)

/-- the statement -/
theorem proved : Rows.WatchTellsSaid := over
#print axioms proved
end Go.Proofs.Ytbclcgmaajngaaa.watchTells
