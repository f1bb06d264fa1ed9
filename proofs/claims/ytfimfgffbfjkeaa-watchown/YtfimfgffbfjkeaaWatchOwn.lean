/- Every t, m and steps: WatchOwn answers true: no two have one tid, and nobody knows more of another one than that one's own number. -/
import Derived.Test.YtfimfgffbfjkeaaWz2
import Derived.Test.YtfimfgffbfjkeaaBo
import Derived.Deep.Cut
import Derived.Deep.DeepCutAuto
import Derived.Deep.RegionHeld3
import Derived.ShutString
import Derived.ChangeOld
import Derived.Below
namespace Go.Proofs.Ytfimfgffbfjkeaa.watchOwn
open Go.ChangeShapes Go.WideShapes Go.ChangeAt Go.RowKit
open Go.ChangeMaps (open_string shut_string)
open Wq Ck
open Wa (Wst Ks Lw)

theorem own : ownKnob Try.prog.godebug = none := by kernel_rfl
theorem laidOut : laidOutB Try.prog = true := by kernel_rfl

set_option maxRecDepth 100000 in
set_option maxHeartbeats 3200000 in
theorem bad {w : World} (t m : Int) (oa : Option Addr) (n c : Nat) (h : (t < 1 ∨ 256 < t) ∨ m < 1 ∨ 1048576 < m) : Calls Try.prog 4 #[.int .i64 t, .int .i64 m, .slice oa n c] w fun r w' => r = .returned (.bool true) ∧ Below w.heap.size w w' := by
  have N1 := hide (Wa.new_bad t m w h)
  have N2 := hide (rnew_bad t m w h)
  clear h
  go_enter Try.func4, Try.ntmps4
  go_wp2_with fail
  refine N1.out.mono ?_
  rintro r w1 ⟨rfl, e1⟩
  obtain rfl := e1.symm
  go_wp2_with fail
  refine N2.out.mono ?_
  rintro r w1 ⟨rfl, e1⟩
  obtain rfl := e1.symm
  go_wp2_with fail
  refine (Wa.two_any _).mono ?_
  rintro r w1 ⟨rfl, b1⟩
  have B1 := hide b1
  clear b1
  go_wp2_with fail
  go_ret
  exact ⟨rfl, B1.out⟩
set_option maxRecDepth 100000 in
set_option maxHeartbeats 12800000 in
theorem core {w : World} (t m : Int) (oa : Option Addr) (l : List Stp) (c : Nat) (hJ : Ba.GAt w oa 4 (StE w) l) (hmx : l.length ≤ maxLen) :
    Calls Try.prog 4 #[.int .i64 t, .int .i64 m, .slice oa l.length c] w fun r w' => r = .returned (.bool true) ∧ Below w.heap.size w w' := by
  unfold maxLen at hmx
  by_cases hn : (t < 1 ∨ 256 < t) ∨ m < 1 ∨ 1048576 < m
  · exact bad t m oa l.length c hn
  obtain ⟨tt, rfl⟩ : ∃ tt : Nat, t = (tt : Int) := ⟨t.toNat, by omega⟩
  obtain ⟨mm, rfl⟩ : ∃ mm : Nat, m = (mm : Int) := ⟨m.toNat, by omega⟩
  have HJ := hide hJ
  have NW := hide (Wa.new_any tt mm w (by omega) (by omega))
  have NR := hide (fun u => rnew_ok tt mm u (by omega) (by omega))
  have H1 : Hid (1 ≤ tt) := by show 1 ≤ tt; omega
  have HT256 : Hid (tt ≤ 256) := by show tt ≤ 256; omega
  have ht256 : (tt : Int) ≤ 256 := by omega
  clear hJ hn
  obtain ⟨N, hN⟩ : ∃ N, l.length = N := ⟨_, rfl⟩
  have HN := hide hN
  rw [hN] at hmx ⊢
  clear hN
  go_enter Try.func4, Try.ntmps4
  go_wp2_with fail
  refine NW.out.mono ?_
  rintro r w1 ⟨B, c0, h, rfl, s1, hc, k1⟩
  have S1 := hide s1
  have HC := hide hc
  have K1 := hide k1
  clear s1 hc k1 NW
  go_wp2_with fail
  refine (NR.out _).mono ?_
  rintro r w2 ⟨G, v, rfl, q2, hq, b2⟩
  have I0 : Hid (∃ st h qs, JW (Lw w) B G w2 st h qs ∧ Rw st h qs ∧ Kp (Lw w) w w2 ∧ qs.T = tt ∧ Own qs) := by
    obtain ⟨a1, a2, a3⟩ := jw_zero H1.out S1.out HC.out K1.out q2 hq b2
    exact ⟨_, _, _, a1, a2, a3, rfl, own_zero _ _⟩
  clear q2 hq b2 S1 HC K1 NR
  by_cases hl : 150 < N
  · have d : decide (150 < (N : Int)) = true := decide_eq_true (by omega)
    have d2 : decide (150 < N) = true := decide_eq_true hl
    go_wp2_with fail
    refine (Wa.two_any _).mono ?_
    rintro r w3 ⟨rfl, b3⟩
    have B3 : Hid (Below w.heap.size w w3) := by obtain ⟨_, _, _, -, -, k, -⟩ := I0.out; exact btr (Wa.Kp.lw k) b3
    clear b3
    go_wp2_with fail
    go_ret
    exact ⟨rfl, B3.out⟩
  have d : decide (150 < (N : Int)) = false := decide_eq_false (by omega)
  have d2 : decide (150 < N) = false := decide_eq_false hl
  go_wp2_with fail
  rename World => w00
  go_loopw [63] (fun i wr => ∃ k : Nat, k ≤ N ∧ i = .int .i64 (k : Int) ∧ ∃ st h qs, JW (Lw w) B G wr st h qs ∧ Rw st h qs ∧ Kp (Lw w) w wr ∧ qs.T = tt ∧ Own qs) (fun i _ => N - (intOf i).toNat)
  case atStart => exact ⟨0, Nat.zero_le _, rfl, I0.out⟩
  case round =>
    clear I0
    obtain ⟨k, hkl, rfl, st, h, qs, j, r, kp, hT, own⟩ := hrel
    by_cases hlt : k < N
    · have hlt' : (k : Int) < (N : Int) := by omega
      obtain ⟨z, hz⟩ : ∃ z, l[k]? = some z := ⟨_, List.getElem?_eq_getElem (by have := HN.out; omega)⟩
      obtain ⟨b0, off, cs, rfl, hcl, hcells, hE⟩ := (HJ.out.below (Wa.Kp.lw kp) (fun cs x e => StE.below (Wa.Kp.lw kp) e)) k z hz
      obtain ⟨ca, cc, rfl, hA, hlc, hcm, hg, hk⟩ := id hE
      have e0 := hcells 0 (by decide)
      have e1 := hcells 1 (by decide)
      have e2 := hcells 2 (by decide)
      have e3 := hcells 3 (by decide)
      simp only [List.getElem?_cons_zero, List.getElem?_cons_succ, Nat.add_zero] at e0 e1 e2 e3
      have SE := hide hE
      clear hcl hcells hE hA hlc hcm hg hk hz
      obtain ⟨wh, g, kk, lc⟩ := z
      simp only at e0 e1 e2 e3 SE
      obtain ⟨nc, hnc⟩ : ∃ nc, lc.length = nc := ⟨_, rfl⟩
      rw [hnc] at e3 SE
      have HNC := hide hnc
      clear hnc
      have BA := below_alloc wr (.cells #[.int .i64 wh, .int .i64 g, .int .i64 kk, .slice ca nc cc] 33)
      have JN := hide (j.below BA)
      have KN := hide (Wa.kp_b kp BA j.ylt)
      have SE2 := hide (StE.below BA SE.out)
      have R0 := hide r
      have TT := hide hT
      have OW := hide own
      have DO := hide (does_stp JN.out R0.out SE2.out)
      unfold DoW at DO
      simp only [] at DO
      clear j r kp hT BA SE own SE2
      by_cases hw2 : wh = 2
      · subst hw2
        go_wp2_with fail
        go_roundw
        case rel => exact ⟨k + 1, by omega, by go_num, st, h, qs, JN.out, R0.out, KN.out, TT.out, OW.out⟩
        case measure => simp [intOf]; omega
      have dw : (wh == 2) = false := beq_eq_false_iff_ne.mpr hw2
      have HW2 : Hid (wh ≠ 2) := hw2
      clear hw2
      go_wp2_with fail
      refine DO.out.mono ?_
      rintro e v1 ⟨rfl, st2, h2, qs2, j2, r2, k2, nx2⟩
      have OW2 := hide (nx2.2.2 HW2.out OW.out)
      have TT2 : Hid (qs2.T = tt) := nx2.1.trans TT.out
      have K2 := hide (KN.out.trans k2)
      have AL := hide (allL j2 r2)
      have QL := hide (r2.len j2)
      have R2 := hide r2
      obtain ⟨nq, hnq⟩ : ∃ nq, qs2.L.length = nq := ⟨_, rfl⟩
      rw [hnq] at AL QL
      have hql : (nq : Int) ≤ 100000 := by have := QL.out; omega
      clear j2 r2 k2 nx2 hnq DO e0 e1 e2 e3 JN KN R0 TT OW
      go_wp2_with fail
      refine AL.out.mono ?_
      rintro e v2 ⟨o8, c8, ks, rfl, hkl8, ks8, a8, j3, k3⟩
      have KS := hide ks8
      have KL := hide hkl8
      have A8 : Hid (∀ u, Kp (YL (Lw w) o8) v2 u → Ba.At u o8 ks) := fun u q => at_blk a8 (fun a ea => q.block _ (.inr ⟨a, ea, rfl⟩))
      have K3 := hide (K2.out.trans k3)
      have J3 := hide j3
      have K0 : Hid (Kp (YL (Lw w) o8) v2 v2) := ⟨rfl, rfl, rfl, Nat.le_refl _, fun _ _ => rfl⟩
      have TW := hide (fun (h' : Nat → Option (List Int)) (r' : Rw st2 h' qs2) (i m : Nat) (hi : i < nq) (hm : m < nq) => r'.two OW2.out (by rw [TT2.out]; exact HT256.out) KS.out (i := i) (m := m) (by rw [hkl8]; exact hi) (by rw [hkl8]; exact hm))
      rw [TT2.out] at TW
      clear ks8 hkl8 a8 j3 k3 K2 AL
      go_wp2_with fail
      rename World => wz
      go_loopw [78] (fun s wq => ∃ (i8 : Nat) (h' : Nat → Option (List Int)), i8 ≤ nq ∧ s = .int .i64 (i8 : Int) ∧ JW (YL (Lw w) o8) B G wq st2 h' qs2 ∧ Rw st2 h' qs2 ∧ Kp (YL (Lw w) o8) wz wq) (fun s _ => nq - (intOf s).toNat)
      case atStart => exact ⟨0, h2, Nat.zero_le _, rfl, J3.out, R2.out, K0.out⟩
      case round =>
        obtain ⟨i8, h', hi8, rfl, jq, rq, kq⟩ := hrel
        clear J3 K0
        by_cases hlt8 : i8 < nq
        · have hlt8' : (i8 : Int) < (nq : Int) := by omega
          obtain ⟨b9, f9, rfl, x9⟩ := A8.out _ kq i8 (by have := KL.out; omega)
          obtain ⟨o, -, b, -, l1, -, fo, -, hb, -, wfo, -, tlt, -⟩ := TW.out h' rq i8 i8 hlt8 hlt8
          have TI := hide (tidW jq (Ba.nth ks i8) wfo o.t b fo)
          have CL := hide (fun u (bb : Below wr.heap.size wr u) => clockW (jq.below bb) rq (Ba.nth ks i8) wfo o.t b l1 fo hb)
          have KQ := hide (fun u (bb : Below wr.heap.size wr u) => Wa.kp_b kq bb jq.ylt)
          have EX := hide (And.intro fo hb)
          clear jq rq kq fo hb wfo
          obtain ⟨gx, hgx⟩ : ∃ gx, Ba.nth ks i8 = gx := ⟨_, rfl⟩
          rw [hgx] at x9 TI CL EX
          have HGX := hide hgx
          obtain ⟨ot, hot⟩ : ∃ ot, o.t = ot := ⟨_, rfl⟩
          rw [hot] at TI EX tlt
          have dt0 : decide ((ot : Int) < 0) = false := by simp
          have dt1 : decide ((tt : Int) ≤ (ot : Int)) = false := by simp; omega
          have dt2 : decide (tt ≤ ot) = false := by simp; omega
          clear hgx hot
          go_wp2_with fail
          refine TI.out.mono ?_
          rintro e v3 ⟨rfl, b3⟩
          have C3 := hide (CL.out _ b3)
          have K3' := hide (KQ.out _ b3)
          clear b3 CL KQ TI
          go_wp2_with fail
          refine C3.out.mono ?_
          rintro e v4 ⟨A1, h4, rfl, ex4, hA1, j4, r4, k4⟩
          have J4 := hide j4
          have R4 := hide r4
          have K4 := hide (K3'.out.trans k4)
          have HA1 := hide hA1
          have EX4 : Hid (h4 b = some l1) := ex4 b l1 EX.out.2
          clear j4 r4 k4 hA1 ex4 C3 K3'
          go_wp2_with fail
          clear tlt dt0 dt1 dt2
          rename World => wy
          go_loopw [104] (fun s wp => ∃ (m8 : Nat) (h5 : Nat → Option (List Int)), m8 ≤ nq ∧ s = .int .i64 (m8 : Int) ∧ JW (YL (Lw w) (some ⟨b9, f9, none⟩)) B G wp st2 h5 qs2 ∧ Rw st2 h5 qs2 ∧ Kp (YL (Lw w) (some ⟨b9, f9, none⟩)) wz wp ∧ h5 A1 = some l1 ∧ h5 b = some l1) (fun s _ => nq - (intOf s).toNat)
          case atStart => exact ⟨0, h4, Nat.zero_le _, rfl, J4.out, R4.out, K4.out, HA1.out, EX4.out⟩
          case round =>
            obtain ⟨m8, h5, hm8, rfl, jp, rp, kp, hA5, hb5⟩ := hrel
            clear J4 R4 K4 HA1 EX4
            by_cases hltm : m8 < nq
            · have hltm' : (m8 : Int) < (nq : Int) := by omega
              obtain ⟨b10, f10, e10, x10⟩ := A8.out _ kp m8 (by have := KL.out; omega)
              cases e10
              obtain ⟨o', p, b', b2, l1', l2, fo', fp, hb', hb2, wfo', wfp, -, hne, hle⟩ := TW.out h5 rp i8 m8 hlt8 hltm
              rw [HGX.out, EX.out.1] at fo'
              simp only [Option.some.injEq, Prod.mk.injEq] at fo'
              obtain ⟨eo, rfl⟩ := fo'
              rw [hb5] at hb'
              cases hb'
              rw [← eo] at hne hle
              have TI := hide (tidW jp (Ba.nth ks m8) wfp p.t b2 fp)
              have CL := hide (fun u (bb : Below wr.heap.size wr u) => clockW (jp.below bb) rp (Ba.nth ks m8) wfp p.t b2 l2 fp hb2)
              have KQ := hide (fun u (bb : Below wr.heap.size wr u) => Wa.kp_b kp bb jp.ylt)
              have HA := hide (And.intro hA5 hb5)
              have HLE := hide hle
              clear jp rp kp fp hb2 wfp wfo' hA5 hb5 eo hle
              generalize Ba.nth ks m8 = gy at *
              obtain ⟨pt, hpt⟩ : ∃ pt, p.t = pt := ⟨_, rfl⟩
              rw [hpt] at TI hne
              clear hpt
              go_wp2_with fail
              refine TI.out.mono ?_
              rintro e v5 ⟨rfl, b5⟩
              have C5 := hide (CL.out _ b5)
              have K5 := hide (KQ.out _ b5)
              clear b5 CL KQ TI
              go_wp2_with fail
              refine C5.out.mono ?_
              rintro e v6 ⟨A2, h6, rfl, ex6, hA2, j6, r6, k6⟩
              have FIN : Hid (JW (YL (Lw w) (some ⟨b9, f9, none⟩)) B G v6 st2 h6 qs2 ∧ Rw st2 h6 qs2 ∧ Kp (YL (Lw w) (some ⟨b9, f9, none⟩)) wz v6 ∧ h6 A1 = some l1 ∧ h6 b = some l1) := ⟨j6, r6, K5.out.trans k6, ex6 _ _ HA.out.1, ex6 _ _ HA.out.2⟩
              have G2 := hide (getW j6 A2 l2 ot hA2)
              have G1 := hide (getW j6 A1 l1 ot (ex6 _ _ HA.out.1))
              have hle2 : nth l2 ot ≤ nth l1 ot := HLE.out
              have dle : decide (nth l1 ot < nth l2 ot) = false := by simp; omega
              clear j6 r6 k6 ex6 hA2 C5 K5 HA
              generalize nth l2 ot = y2 at *
              generalize nth l1 ot = y1 at *
              by_cases hmi : m8 = i8
              · subst hmi
                have dmi : ((m8 : Int) != (m8 : Int)) = false := by simp
                go_wp2_with fail
                refine G2.out.mono ?_
                rintro e v7 ⟨rfl, e7⟩
                obtain rfl := e7.symm
                go_wp2_with fail
                refine G1.out.mono ?_
                rintro e v7 ⟨rfl, e7⟩
                obtain rfl := e7.symm
                go_wp2_with fail
                go_roundw
                case rel =>
                  first
                  | exact ⟨m8 + 1, h6, by omega, by go_num, FIN.out⟩
                  | ((repeat apply Exists.intro); exact ⟨⟨m8 + 1, h6, by omega, by go_num, FIN.out⟩, rfl⟩)
                case measure => simp [intOf]; omega
              · have dmi : ((m8 : Int) != (i8 : Int)) = true := by simp; omega
                have dop : ((ot : Int) == (pt : Int)) = false := by
                  have := hne (fun e => hmi e.symm)
                  simp; omega
                clear hne
                go_wp2_with fail
                refine G2.out.mono ?_
                rintro e v7 ⟨rfl, e7⟩
                obtain rfl := e7.symm
                go_wp2_with fail
                refine G1.out.mono ?_
                rintro e v7 ⟨rfl, e7⟩
                obtain rfl := e7.symm
                go_wp2_with fail
                go_roundw
                case rel =>
                  first
                  | exact ⟨m8 + 1, h6, by omega, by go_num, FIN.out⟩
                  | ((repeat apply Exists.intro); exact ⟨⟨m8 + 1, h6, by omega, by go_num, FIN.out⟩, rfl⟩)
                case measure => simp [intOf]; omega
            · have hltm' : ¬ ((m8 : Int) < (nq : Int)) := by omega
              have FIN := hide (And.intro jp (And.intro rp kp))
              clear jp rp kp hA5 hb5
              go_wp2_with fail
              go_roundw
              case rel => exact ⟨i8 + 1, h5, by omega, by go_num, FIN.out.1, FIN.out.2.1, FIN.out.2.2⟩
              case measure => simp [intOf]; omega
        · have hlt8' : ¬ ((i8 : Int) < (nq : Int)) := by omega
          have FIN : Hid (∃ st h qs, JW (Lw w) B G wr st h qs ∧ Rw st h qs ∧ Kp (Lw w) w wr ∧ qs.T = tt ∧ Own qs) := ⟨st2, h', qs2, jq.less (fun x q => .inl q), rq, K3.out.trans (Wa.Kp.mono kq fun x q => .inl q), TT2.out, OW2.out⟩
          clear jq rq kq
          go_wp2_with fail
          go_roundw
          case rel => exact ⟨k + 1, by omega, by go_num, FIN.out⟩
          case measure => simp [intOf]; omega
    · have hlt' : ¬ ((k : Int) < (N : Int)) := by omega
      have KP := hide kp
      clear j r kp hT own
      go_wp2_with fail
      refine (Wa.two_any _).mono ?_
      rintro r w3 ⟨rfl, b3⟩
      have B3 := hide (btr (Wa.Kp.lw KP.out) b3)
      clear b3
      go_wp2_with fail
      go_ret
      exact ⟨rfl, B3.out⟩

/-! ### the row -/
set_option maxRecDepth 100000 in
theorem lifted (os : Os) (started : os.Started) (H : Type) (enc : TypeId × Value → H) :
    ReturnsInHanded {} Try.checked os 4 .any (Rows.watchOwnSpec.pre6 enc Try.prog Try.f4 Rows.watchOwnRow.domain false) (Rows.watchOwnSpec.post enc Try.prog Try.f4 false true false false) := by
  refine returnsInHanded_of_change (C := Try.checked) own started (by kernel_rfl) Try.func4
    (ChangeSpec.witness6 (enc := enc) (C := Try.checked) false ⟨#[], #[.int .i64 0, .int .i64 0, .slice none 0 0], []⟩ 8 (by kernel_rfl) (by kernel_rfl) (by kernel_rfl) (by kernel_rfl)) ?_
  intro W base args ds gs before hval0 hW hcnd _
  have hval : ∀ (j : Nat) t v, Try.f4.params[j]? = some t → args[j]? = some v → Value.okWide Try.prog W .any base t v := hval0
  have hW' := hW
  obtain ⟨p, q, hA0, hV, rfl, hfz, hnd⟩ := hW
  have hA : DataW.TrodAll enc Try.prog W 0 (fun _ => true) true Try.f4.params.toList args.toList ds p := hA0
  rw [Try.params4] at hA hval
  obtain ⟨v0, vs0, d0, ds0, p0, q0, hargs, rfl, rfl, h0, r0⟩ := trodAll_cons hA
  obtain ⟨v1, vs1, d1, ds1, p1, q1, rfl, rfl, rfl, h1, r1⟩ := trodAll_cons r0
  obtain ⟨v2, vs2, d2, ds2, p2, q2, rfl, rfl, rfl, h2, r2⟩ := trodAll_cons r1
  obtain ⟨rfl, rfl, rfl⟩ := trodAll_nil r2
  obtain rfl : args = #[v0, v1, v2] := by cases args; simp_all
  obtain ⟨rfl, rfl⟩ := trodVars_none hV
  obtain ⟨a0, rfl, rfl, rfl, w0⟩ := open_int Try.underlying3 (hval 0 3 v0 rfl rfl) h0
  obtain ⟨a1, rfl, rfl, rfl, w1⟩ := open_int Try.underlying3 (hval 1 3 v1 rfl rfl) h1
  obtain ⟨oa2, n2, c2, rfl⟩ := okWide_slice Try.underlying22 (hval 2 22 v2 rfl rfl)
  have k2 := h2
  have lt2 : ∀ x ∈ p2, x.block < W.heap.size := by obtain ⟨m, hm⟩ := k2; exact DataW.trod_lt m _ _ _ hm
  obtain ⟨l2, rfl, A2, C2, M2⟩ := h2.elim fun _ hf => steps_open hf
  clear hA0 hval0
  refine (core (w := W) a0 a1 oa2 l2 c2 A2 (Nat.le_trans C2 M2)).mono fun e W' ⟨he, bel⟩ => ?_
  subst he
  exact ⟨_, rfl, _, _, _, [], _, [], hW', trodAll_mk1 (shut_bool Try.underlying4 _), (trodAll_cons_mk (shut_int Try.underlying3 w0) (trodAll_cons_mk (shut_int Try.underlying3 w1) (trodAll_cons_mk (Below.trod laidOut (by kernel_rfl) (of_decide_eq_true (by kernel_rfl)) k2 bel lt2) trodAll_mk0))), rfl, bel.frame _, fun h => by cases h⟩

theorem over : Rows.watchOwnRow.holds Try.pinned (OpenSpec.ofChange Rows.watchOwnSpec) :=
  OpenClaim.holds_of_wide 4 Try.f4 rfl rfl rfl rfl rfl rfl rfl ⟨rfl, rfl, rfl, rfl, rfl⟩ rfl rfl rfl rfl rfl (by kernel_rfl) Try.func4 (by kernel_rfl)
    (of_decide_eq_true (by kernel_rfl)) (by unfold Func.isWrapper; first | (rw [if_pos (by decide +kernel)]; kernel_rfl) | (rw [if_neg (by decide +kernel)]; exact ⟨rfl, rfl⟩))
    (fun os started H enc _ => lifted os started H enc)

/-- the statement -/
theorem proved : Rows.WatchOwnSaid := over
#print axioms proved
end Go.Proofs.Ytfimfgffbfjkeaa.watchOwn
