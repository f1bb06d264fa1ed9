/- Every t, steps and child: WatchAgain answers true: a tid that is freed is given again, and begins at 1, known to nobody else. -/
import Derived.Test.YtfimfgffbfjkeaaWz3
import Derived.Test.YtfimfgffbfjkeaaBo
import Derived.Deep.Cut
import Derived.Deep.DeepCutAuto
import Derived.Deep.RegionHeld3
import Derived.ShutString
import Derived.ChangeOld
import Derived.Below
namespace Go.Proofs.Ytfimfgffbfjkeaa.watchAgain
open Go.ChangeShapes Go.WideShapes Go.ChangeAt Go.RowKit
open Go.ChangeMaps (open_string shut_string)
open Wq Ck
open Wa (Wst Ks Lw)

theorem own : ownKnob Try.prog.godebug = none := by kernel_rfl
theorem laidOut : laidOutB Try.prog = true := by kernel_rfl

set_option maxRecDepth 100000 in
set_option maxHeartbeats 3200000 in
theorem bad {w : World} (t : Int) (oa : Option Addr) (n c : Nat) (ch : Int) (h : (t < 1 ∨ 256 < t)) : Calls Try.prog 5 #[.int .i64 t, .slice oa n c, .int .i64 ch] w fun r w' => r = .returned (.bool true) ∧ Below w.heap.size w w' := by
  have N1 := hide (Wa.new_bad t 1048576 w (.inl h))
  have N2 := hide (rnew_bad t 1048576 w (.inl h))
  clear h
  go_enter Try.func5, Try.ntmps5
  go_wp2_with fail
  refine N1.out.mono ?_
  rintro r w1 ⟨rfl, e1⟩
  obtain rfl := e1.symm
  go_wp2_with fail
  refine N2.out.mono ?_
  rintro r w1 ⟨rfl, e1⟩
  obtain rfl := e1.symm
  go_wp2_with fail
  refine (Wa.two_any _).mono ?_
  rintro r w1 ⟨rfl, b1⟩
  have B1 := hide b1
  clear b1
  go_wp2_with fail
  go_ret
  exact ⟨rfl, B1.out⟩
set_option maxRecDepth 100000 in
set_option maxHeartbeats 12800000 in
theorem core {w : World} (t : Int) (oa : Option Addr) (l : List Stp) (c : Nat) (hJ : Ba.GAt w oa 4 (StE w) l) (hmx : l.length ≤ maxLen) (ch : Int) (wch : (Lit.int .i64 ch).wf = true) :
    Calls Try.prog 5 #[.int .i64 t, .slice oa l.length c, .int .i64 ch] w fun r w' => r = .returned (.bool true) ∧ Below w.heap.size w w' := by
  unfold maxLen at hmx
  by_cases hn : (t < 1 ∨ 256 < t)
  · exact bad t oa l.length c ch hn
  obtain ⟨tt, rfl⟩ : ∃ tt : Nat, t = (tt : Int) := ⟨t.toNat, by omega⟩
  have HJ := hide hJ
  have NW : Hid (Calls Try.prog 6 #[.int .i64 (tt : Int), .int .i64 1048576] w fun r w' => ∃ B c h, r = .returned (.tuple #[.pointer (some ⟨B, 0, none⟩), .int .i64 0]) ∧ Wa.WW (Lw w) B w' ⟨tt, 1048576, 1, Wa.upf (fun _ => none) 0 (some (0, c))⟩ h ∧ h c = some [1] ∧ Kp (Lw w) w w') := Wa.new_any tt 1048576 w (by omega) (by omega)
  have NR : Hid (∀ u : World, Calls Try.prog 7 #[.int .i64 (tt : Int), .int .i64 1048576] u fun r w' => ∃ G v, r = .returned (.tuple #[.pointer (some ⟨G, 0, none⟩), .int .i64 0]) ∧ QX w' G ⟨tt, 1048576, [o1]⟩ v ∧ (∀ x, QB G v x → u.heap.size ≤ x) ∧ Below u.heap.size u w') := fun u => rnew_ok tt 1048576 u (by omega) (by omega)
  have H1 : Hid (1 ≤ tt) := by show 1 ≤ tt; omega
  have WCH : Hid (wfk ch) := wch
  have ht256 : (tt : Int) ≤ 256 := by omega
  clear hJ hn wch
  obtain ⟨N, hN⟩ : ∃ N, l.length = N := ⟨_, rfl⟩
  have HN := hide hN
  rw [hN] at hmx ⊢
  clear hN
  go_enter Try.func5, Try.ntmps5
  go_wp2_with fail
  refine NW.out.mono ?_
  rintro r w1 ⟨B, c0, h, rfl, s1, hc, k1⟩
  have S1 := hide s1
  have HC := hide hc
  have K1 := hide k1
  clear s1 hc k1 NW
  go_wp2_with fail
  refine (NR.out _).mono ?_
  rintro r w2 ⟨G, v, rfl, q2, hq, b2⟩
  have I0 : Hid (∃ st h qs, JW (Lw w) B G w2 st h qs ∧ Rw st h qs ∧ Kp (Lw w) w w2 ∧ Own qs) := by
    obtain ⟨a1, a2, a3⟩ := jw_zero H1.out S1.out HC.out K1.out q2 hq b2
    exact ⟨_, _, _, a1, a2, a3, own_zero _ _⟩
  clear q2 hq b2 S1 HC K1 NR
  by_cases hl : 80 < N
  · have d : decide (80 < (N : Int)) = true := decide_eq_true (by omega)
    have d2 : decide (80 < N) = true := decide_eq_true hl
    go_wp2_with fail
    refine (Wa.two_any _).mono ?_
    rintro r w3 ⟨rfl, b3⟩
    have B3 : Hid (Below w.heap.size w w3) := by obtain ⟨_, _, _, -, -, k, -⟩ := I0.out; exact btr (Wa.Kp.lw k) b3
    clear b3
    go_wp2_with fail
    go_ret
    exact ⟨rfl, B3.out⟩
  have d : decide (80 < (N : Int)) = false := decide_eq_false (by omega)
  have d2 : decide (80 < N) = false := decide_eq_false hl
  go_wp2_with fail
  rename World => w00
  go_loopw [57] (fun i wr => ∃ k : Nat, k ≤ N ∧ i = .int .i64 (k : Int) ∧ ∃ st h qs, JW (Lw w) B G wr st h qs ∧ Rw st h qs ∧ Kp (Lw w) w wr ∧ Own qs) (fun i _ => N - (intOf i).toNat)
  case atStart => exact ⟨0, Nat.zero_le _, rfl, I0.out⟩
  case round =>
    clear I0
    obtain ⟨k, hkl, rfl, st, h, qs, j, r, kp, own⟩ := hrel
    by_cases hlt : k < N
    · have hlt' : (k : Int) < (N : Int) := by omega
      obtain ⟨z, hz⟩ : ∃ z, l[k]? = some z := ⟨_, List.getElem?_eq_getElem (by have := HN.out; omega)⟩
      obtain ⟨b0, off, cs, rfl, hcl, hcells, hE⟩ := (HJ.out.below (Wa.Kp.lw kp) (fun cs x e => StE.below (Wa.Kp.lw kp) e)) k z hz
      obtain ⟨ca, cc, rfl, hA, hlc, hcm, hg, hk⟩ := id hE
      have e0 := hcells 0 (by decide)
      have e1 := hcells 1 (by decide)
      have e2 := hcells 2 (by decide)
      have e3 := hcells 3 (by decide)
      simp only [List.getElem?_cons_zero, List.getElem?_cons_succ, Nat.add_zero] at e0 e1 e2 e3
      have SE := hide hE
      clear hcl hcells hE hA hlc hcm hg hk hz
      obtain ⟨wh, g, kk, lc⟩ := z
      simp only at e0 e1 e2 e3 SE
      obtain ⟨nc, hnc⟩ : ∃ nc, lc.length = nc := ⟨_, rfl⟩
      rw [hnc] at e3 SE
      have HNC := hide hnc
      clear hnc
      have BA := below_alloc wr (.cells #[.int .i64 wh, .int .i64 g, .int .i64 kk, .slice ca nc cc] 33)
      have JN := hide (j.below BA)
      have KN := hide (Wa.kp_b kp BA j.ylt)
      have SE2 := hide (StE.below BA SE.out)
      have R0 := hide r
      have OW := hide own
      have DO := hide (does_stp JN.out R0.out SE2.out)
      unfold DoW at DO
      simp only [] at DO
      clear j r kp BA SE own SE2
      by_cases hw2 : wh = 2
      · subst hw2
        go_wp2_with fail
        go_roundw
        case rel => exact ⟨k + 1, by omega, by go_num, st, h, qs, JN.out, R0.out, KN.out, OW.out⟩
        case measure => simp [intOf]; omega
      have dw : (wh == 2) = false := beq_eq_false_iff_ne.mpr hw2
      have dw2 : (wh != 2) = true := by simp [hw2]
      have HW2 : Hid (wh ≠ 2) := hw2
      clear hw2
      go_wp2_with fail
      refine DO.out.mono ?_
      rintro e v1 ⟨rfl, st2, h2, qs2, j2, r2, k2, nx2⟩
      have FIN : Hid (∃ st h qs, JW (Lw w) B G v1 st h qs ∧ Rw st h qs ∧ Kp (Lw w) w v1 ∧ Own qs) := ⟨st2, h2, qs2, j2, r2, KN.out.trans k2, nx2.2.2 HW2.out OW.out⟩
      clear j2 r2 k2 nx2 DO e0 e1 e2 e3 JN KN R0 OW
      go_wp2_with fail
      go_roundw
      case rel => exact ⟨k + 1, by omega, by go_num, FIN.out⟩
      case measure => simp [intOf]; omega
    · have hlt' : ¬ ((k : Int) < (N : Int)) := by omega
      have AL := hide (allL j r)
      have QL := hide (r.len j)
      have R0 := hide r
      have KP := hide kp
      have OW := hide own
      obtain ⟨nq, hnq⟩ : ∃ nq, qs.L.length = nq := ⟨_, rfl⟩
      have LQ := hide (r.len j)
      rw [hnq] at AL QL
      have hql : (nq : Int) ≤ 100000 := by have := QL.out; omega
      clear j r kp own hnq
      go_wp2_with fail
      clear hlt hlt'
      refine AL.out.mono ?_
      rintro e v2 ⟨o8, c8, ks, rfl, hkl8, ks8, a8, j3, k3⟩
      have KS := hide ks8
      have KL := hide hkl8
      have A8 := hide a8
      have K3 := hide (KP.out.trans k3)
      have J3 := hide j3
      clear ks8 hkl8 a8 j3 k3 AL KP
      by_cases hn2 : nq < 2
      · have dn : decide ((nq : Int) < 2) = true := decide_eq_true (by omega)
        have dn' : decide (nq < 2) = true := decide_eq_true hn2
        go_wp2_with fail
        refine (Wa.two_any _).mono ?_
        rintro r w3 ⟨rfl, b3⟩
        have B3 := hide (btr (Wa.Kp.lw K3.out) b3)
        clear b3
        go_wp2_with fail
        go_ret
        exact ⟨rfl, B3.out⟩
      have dn : decide ((nq : Int) < 2) = false := decide_eq_false (by omega)
      have dn' : decide (nq < 2) = false := decide_eq_false hn2
      by_cases hc0 : ch < 0
      · have dc : decide (ch < 0) = true := decide_eq_true hc0
        go_wp2_with fail
        refine (Wa.two_any _).mono ?_
        rintro r w3 ⟨rfl, b3⟩
        have B3 := hide (btr (Wa.Kp.lw K3.out) b3)
        clear b3
        go_wp2_with fail
        go_ret
        exact ⟨rfl, B3.out⟩
      have dc : decide (ch < 0) = false := decide_eq_false hc0
      have ATQ : Hid (Calls Try.prog 14 #[.pointer (some ⟨G, 0, none⟩), .int .i64 ch] v2 fun r w' => r = .returned (.int .i64 (at_ qs.L ch)) ∧ Below v2.heap.size v2 w') := by
        obtain ⟨vq, -, qx, -⟩ := J3.out
        exact at_any qx ch LQ.out
      by_cases ha : 0 ≤ at_ qs.L ch
      · have da : decide (0 ≤ at_ qs.L ch) = true := decide_eq_true ha
        clear ha
        generalize at_ qs.L ch = ac at *
        go_wp2_with fail
        refine ATQ.out.mono ?_
        rintro e v3 ⟨rfl, b3⟩
        have KB : Hid (Below w.heap.size w v3) := btr (Wa.Kp.lw K3.out) b3
        clear b3
        go_wp2_with fail
        refine (Wa.two_any _).mono ?_
        rintro r w3 ⟨rfl, b3⟩
        have B3 := hide (btr KB.out b3)
        clear b3
        go_wp2_with fail
        go_ret
        exact ⟨rfl, B3.out⟩
      have CN : Hid (at_ qs.L ch = -1) := by
        rcases at_inv (l := qs.L) (g := ch) with ⟨e, -⟩ | ⟨k', _, e, -⟩
        · exact e
        · rw [e] at ha; omega
      rw [CN.out] at ATQ
      have HC0 : Hid (0 ≤ ch) := by show 0 ≤ ch; omega
      clear ha hc0
      -- the last and the first of all
      have hlast : nq - 1 < ks.length := by have := KL.out; omega
      have hfst : 0 < ks.length := by have := KL.out; omega
      obtain ⟨b9, f9, rfl, x9⟩ := A8.out (nq - 1) hlast
      obtain ⟨b9', f9', e9', x0⟩ := A8.out 0 hfst
      cases e9'
      have LAST : Hid ((st.f (Ba.nth ks (nq - 1))).isSome = true ∧ wfk (Ba.nth ks (nq - 1)) ∧ (st.f (Ba.nth ks 0)).isSome = true ∧ wfk (Ba.nth ks 0) ∧ Ba.nth ks 0 ≠ Ba.nth ks (nq - 1)) := by
        have m1 : Ba.nth ks (nq - 1) ∈ ks := by rw [Ba.nth_lt ks _ hlast]; exact List.getElem_mem _
        have m0 : Ba.nth ks 0 ∈ ks := by rw [Ba.nth_lt ks _ hfst]; exact List.getElem_mem _
        refine ⟨(KS.out.mem _).1 m1, KS.out.wf _ m1, (KS.out.mem _).1 m0, KS.out.wf _ m0, fun e => ?_⟩
        rw [Ba.nth_lt ks _ hlast, Ba.nth_lt ks _ hfst] at e
        have := KS.out.lt 0 (nq - 1) _ _ (by omega) (List.getElem?_eq_getElem hfst) (List.getElem?_eq_getElem hlast)
        omega
      obtain ⟨nl, hnl⟩ : ∃ nl, nq - 1 = nl := ⟨_, rfl⟩
      have hnl1 : nq = nl + 1 := by omega
      rw [hnl] at x9 LAST
      clear hnl hlast hfst
      generalize Ba.nth ks nl = gone at *
      generalize Ba.nth ks 0 = par at *
      have RE := hide (fun u (b : Below v2.heap.size v2 u) => retireP (J3.out.below b) R0.out gone LAST.out.2.1)
      have hsub : (nq : Int) - 1 = (nl : Int) := by omega
      have hnl0 : (0 : Int) < (nq : Int) := by omega
      have hnl2 : (nl : Int) < (nq : Int) := by omega
      clear hnl1
      go_wp2_with fail
      refine ATQ.out.mono ?_
      rintro e v3 ⟨rfl, b3⟩
      have B3 := hide b3
      have x9b := cellB x9 b3
      have x0b := cellB x0 b3
      rw [Nat.add_zero] at x0b
      clear b3 x9 x0
      go_wp2_with fail
      refine (RE.out _ B3.out).mono ?_
      rintro e v4 ⟨e4, st4, h4, qs4, rfl, re, j4, k4, r4⟩
      obtain ⟨kg, og, bg, lg, -, hag, hkg, hgg, -⟩ := R0.out.some_at LAST.out.1
      obtain ⟨rfl, og', hog', rfl⟩ := re.done hag
      rw [hkg] at hog'
      cases hog'
      have OW4 := hide ((ReR.nx R0.out (.inr ⟨kg, og, hag, hkg, R0.out.t256 (by have := J3.out.bd; have := R0.out.T; omega) hkg, rfl, rfl⟩) 5).2.2 (by decide) OW.out)
      have SPW := hide (spawnM j4 r4 par ch LAST.out.2.2.2.1 WCH.out)
      have RM := hide (fun (a e : Int) (q5 : Qst) (sp : SpR { qs with L := rtL qs.L gone og.t } par ch a e q5) => R0.out.room hkg hgg LAST.out.2.2.1 LAST.out.2.2.2.2 HC0.out CN.out r4 sp)
      have R4 := hide r4
      have K4 : Hid (Kp (Lw w) w v4) := (Wa.kp_b K3.out B3.out (fun x q => J3.out.ylt x (.inl q))).trans (Wa.Kp.mono k4 fun x q => .inl q)
      clear j4 k4 r4 re RE hag hkg hgg
      go_wp2_with fail
      refine SPW.out.mono ?_
      rintro e v5 ⟨a5, e5, st5, h5, qs5, rfl, sp, j5, k5, r5⟩
      obtain rfl := RM.out _ _ _ sp
      obtain ⟨t5, ht5, rfl, ag⟩ := SpR.again R4.out OW4.out sp
      have AG := hide ag
      have R5 := hide r5
      have AL5 := hide (allM j5 r5)
      have QL5 : Hid (qs5.L.length ≤ 100000) := by
        have := j5.bd.2.2.2
        have := r5.n
        show _ ≤ _
        omega
      obtain ⟨n5, hn5⟩ : ∃ n5, qs5.L.length = n5 := ⟨_, rfl⟩
      rw [hn5] at AL5 QL5
      have hq5 : (n5 : Int) ≤ 100000 := by have := QL5.out; omega
      have K5 : Hid (Kp (Lw w) w v5) := K4.out.trans (Wa.Kp.mono k5 fun x q => .inl q)
      have H256 := hide ht5
      clear sp j5 k5 r5 ag hn5 SPW RM R4 K4
      go_wp2_with fail
      refine AL5.out.mono ?_
      rintro e v6 ⟨o6, c6, ks6, rfl, hkl6, ks6', a6, j6, k6⟩
      have KS6 := hide ks6'
      have KL6 := hide hkl6
      have A6 : Hid (∀ u, Kp (YL (YL (Lw w) (some ⟨b9, f9, none⟩)) o6) v6 u → Ba.At u o6 ks6) := fun u q => at_blk a6 (fun a ea => q.block _ (.inr ⟨a, ea, rfl⟩))
      have K6 : Hid (Kp (Lw w) w v6) := K5.out.trans (Wa.Kp.mono k6 fun x q => .inl q)
      have J6 := hide j6
      have K0 : Hid (Kp (YL (YL (Lw w) (some ⟨b9, f9, none⟩)) o6) v6 v6) := ⟨rfl, rfl, rfl, Nat.le_refl _, fun _ _ => rfl⟩
      clear ks6' hkl6 a6 j6 k6 AL5 K5
      go_wp2_with fail
      rename World => wz
      go_loopw [110] (fun s wq => ∃ (i8 : Nat) (h' : Nat → Option (List Int)), i8 ≤ n5 ∧ s = .int .i64 (i8 : Int) ∧ JW (YL (YL (Lw w) (some ⟨b9, f9, none⟩)) o6) B G wq st5 h' qs ∧ Rw st5 h' qs5 ∧ Kp (YL (YL (Lw w) (some ⟨b9, f9, none⟩)) o6) wz wq) (fun s _ => n5 - (intOf s).toNat)
      case atStart => exact ⟨0, h5, Nat.zero_le _, rfl, J6.out, R5.out, K0.out⟩
      case round =>
        obtain ⟨i8, h', hi8, rfl, jq, rq, kq⟩ := hrel
        clear J6 K0
        by_cases hlt8 : i8 < n5
        · have hlt8' : (i8 : Int) < (n5 : Int) := by omega
          have hil : i8 < ks6.length := by have := KL6.out; omega
          obtain ⟨b7, f7, rfl, x7⟩ := A6.out _ kq i8 hil
          have mi : Ba.nth ks6 i8 ∈ ks6 := by rw [Ba.nth_lt ks6 i8 hil]; exact List.getElem_mem _
          obtain ⟨k7, o7, bb7, l7, fo, -, hk7, g7, hb, gd⟩ := rq.some_at ((KS6.out.mem _).1 mi)
          have ag7 := AG.out k7 o7 hk7
          rw [g7, ← gd t5 H256.out] at ag7
          have CL := hide (clockM jq rq (Ba.nth ks6 i8) (KS6.out.wf _ mi) o7.t bb7 l7 fo hb)
          have KQ := hide kq
          clear jq rq kq fo hb gd hk7 g7 mi hil
          generalize Ba.nth ks6 i8 = gx at *
          by_cases hgc : gx = ch
          · have v1 : nth l7 t5 = 1 := ag7.1 hgc
            have V1 := hide v1
            subst hgc
            clear ag7 v1
            have dg : (gx == gx) = true := by simp
            have dg2 : (gx != gx) = false := by simp
            go_wp2_with fail
            refine CL.out.mono ?_
            rintro e v7 ⟨A1, h7, rfl, hA1, j7, r7, k7⟩
            have FIN := hide (And.intro j7 (And.intro r7 (KQ.out.trans k7)))
            have G1 := hide (getW j7 A1 l7 t5 hA1)
            rw [V1.out] at G1
            clear j7 r7 k7 hA1
            go_wp2_with fail
            refine G1.out.mono ?_
            rintro e v8 ⟨rfl, e8⟩
            obtain rfl := e8.symm
            go_wp2_with fail
            go_roundw
            case rel =>
              first
              | exact ⟨i8 + 1, h7, by omega, by go_num, FIN.out.1, FIN.out.2.1, FIN.out.2.2⟩
              | ((repeat apply Exists.intro); exact ⟨⟨i8 + 1, h7, by omega, by go_num, FIN.out.1, FIN.out.2.1, FIN.out.2.2⟩, rfl⟩)
            case measure => simp [intOf]; omega
          · have v1 : nth l7 t5 = 0 := ag7.2 hgc
            have V1 := hide v1
            have dg : (gx == ch) = false := beq_eq_false_iff_ne.mpr hgc
            have dg2 : (gx != ch) = true := by simp [hgc]
            clear ag7 v1 hgc
            go_wp2_with fail
            refine CL.out.mono ?_
            rintro e v7 ⟨A1, h7, rfl, hA1, j7, r7, k7⟩
            have FIN := hide (And.intro j7 (And.intro r7 (KQ.out.trans k7)))
            have G1 := hide (getW j7 A1 l7 t5 hA1)
            rw [V1.out] at G1
            clear j7 r7 k7 hA1
            go_wp2_with fail
            refine G1.out.mono ?_
            rintro e v8 ⟨rfl, e8⟩
            obtain rfl := e8.symm
            go_wp2_with fail
            go_roundw
            case rel =>
              first
              | exact ⟨i8 + 1, h7, by omega, by go_num, FIN.out.1, FIN.out.2.1, FIN.out.2.2⟩
              | ((repeat apply Exists.intro); exact ⟨⟨i8 + 1, h7, by omega, by go_num, FIN.out.1, FIN.out.2.1, FIN.out.2.2⟩, rfl⟩)
            case measure => simp [intOf]; omega
        · have hlt8' : ¬ ((i8 : Int) < (n5 : Int)) := by omega
          have KZ : Hid (Kp (Lw w) w wr) := K6.out.trans (Wa.Kp.mono kq fun x q => .inl (.inl q))
          clear jq rq kq
          go_wp2_with fail
          refine (Wa.two_any _).mono ?_
          rintro r w3 ⟨rfl, b3⟩
          have B3 := hide (btr (Wa.Kp.lw KZ.out) b3)
          clear b3
          go_wp2_with fail
          go_ret
          exact ⟨rfl, B3.out⟩

/-! ### the row -/
set_option maxRecDepth 100000 in
theorem lifted (os : Os) (started : os.Started) (H : Type) (enc : TypeId × Value → H) :
    ReturnsInHanded {} Try.checked os 5 .any (Rows.watchAgainSpec.pre6 enc Try.prog Try.f5 Rows.watchAgainRow.domain false) (Rows.watchAgainSpec.post enc Try.prog Try.f5 false true false false) := by
  refine returnsInHanded_of_change (C := Try.checked) own started (by kernel_rfl) Try.func5
    (ChangeSpec.witness6 (enc := enc) (C := Try.checked) false ⟨#[], #[.int .i64 0, .slice none 0 0, .int .i64 0], []⟩ 8 (by kernel_rfl) (by kernel_rfl) (by kernel_rfl) (by kernel_rfl)) ?_
  intro W base args ds gs before hval0 hW hcnd _
  have hval : ∀ (j : Nat) t v, Try.f5.params[j]? = some t → args[j]? = some v → Value.okWide Try.prog W .any base t v := hval0
  have hW' := hW
  obtain ⟨p, q, hA0, hV, rfl, hfz, hnd⟩ := hW
  have hA : DataW.TrodAll enc Try.prog W 0 (fun _ => true) true Try.f5.params.toList args.toList ds p := hA0
  rw [Try.params5] at hA hval
  obtain ⟨v0, vs0, d0, ds0, p0, q0, hargs, rfl, rfl, h0, r0⟩ := trodAll_cons hA
  obtain ⟨v1, vs1, d1, ds1, p1, q1, rfl, rfl, rfl, h1, r1⟩ := trodAll_cons r0
  obtain ⟨v2, vs2, d2, ds2, p2, q2, rfl, rfl, rfl, h2, r2⟩ := trodAll_cons r1
  obtain ⟨rfl, rfl, rfl⟩ := trodAll_nil r2
  obtain rfl : args = #[v0, v1, v2] := by cases args; simp_all
  obtain ⟨rfl, rfl⟩ := trodVars_none hV
  obtain ⟨a0, rfl, rfl, rfl, w0⟩ := open_int Try.underlying3 (hval 0 3 v0 rfl rfl) h0
  obtain ⟨oa1, n1, c1, rfl⟩ := okWide_slice Try.underlying22 (hval 1 22 v1 rfl rfl)
  have k1 := h1
  have lt1 : ∀ x ∈ p1, x.block < W.heap.size := by obtain ⟨m, hm⟩ := k1; exact DataW.trod_lt m _ _ _ hm
  obtain ⟨l1, rfl, A1, C1, M1⟩ := h1.elim fun _ hf => steps_open hf
  obtain ⟨a2, rfl, rfl, rfl, w2⟩ := open_int Try.underlying3 (hval 2 3 v2 rfl rfl) h2
  clear hA0 hval0
  refine (core (w := W) a0 oa1 l1 c1 A1 (Nat.le_trans C1 M1) a2 w2).mono fun e W' ⟨he, bel⟩ => ?_
  subst he
  exact ⟨_, rfl, _, _, _, [], _, [], hW', trodAll_mk1 (shut_bool Try.underlying4 _), (trodAll_cons_mk (shut_int Try.underlying3 w0) (trodAll_cons_mk (Below.trod laidOut (by kernel_rfl) (of_decide_eq_true (by kernel_rfl)) k1 bel lt1) (trodAll_cons_mk (shut_int Try.underlying3 w2) trodAll_mk0))), rfl, bel.frame _, fun h => by cases h⟩

theorem over : Rows.watchAgainRow.holds Try.pinned (OpenSpec.ofChange Rows.watchAgainSpec) :=
  OpenClaim.holds_of_wide 5 Try.f5 rfl rfl rfl rfl rfl rfl rfl ⟨rfl, rfl, rfl, rfl, rfl⟩ rfl rfl rfl rfl rfl (by kernel_rfl) Try.func5 (by kernel_rfl)
    (of_decide_eq_true (by kernel_rfl)) (by unfold Func.isWrapper; first | (rw [if_pos (by decide +kernel)]; kernel_rfl) | (rw [if_neg (by decide +kernel)]; exact ⟨rfl, rfl⟩))
    (fun os started H enc _ => lifted os started H enc)

/-- the statement -/
theorem proved : Rows.WatchAgainSaid := over
#print axioms proved
end Go.Proofs.Ytfimfgffbfjkeaa.watchAgain
