/- What the k'th receive fetches is what the k'th send gave, what the (k + C)'th send fetches is what the k'th receive gave, and never more than 2 C + 2 clocks are kept (15.3): of every row of sends and receives that is not too long. -/
import Derived.Test.YtbangoghekefcaaTj
import Derived.ShutString
import Derived.ChangeOld
import Derived.Below
namespace Go.Proofs.Ytbangoghekefcaa.slotsPairs
open Go.ChangeShapes Go.WideShapes Go.ChangeAt Go.RowKit
open Go.ChangeMaps (open_string shut_string)
open Sl Ck

theorem own : ownKnob Try.prog.godebug = none := by kernel_rfl
theorem laidOut : laidOutB Try.prog = true := by kernel_rfl

theorem sw_less {Y Y' : Nat → Prop} {S : Nat} {w : World} {st : Sst} {h : Nat → Option (List Int)} (s : SW Y S w st h) (hi : ∀ k, Y' k → Y k) : SW Y' S w st h := by
  obtain ⟨vg, vb, s⟩ := s
  exact ⟨vg, vb, s.less hi⟩
theorem PI.few {m : Nat} {pre : List Bool} {st : Sst} {h : Nat → Option (List Int)} (i : PI m pre st h) (hm : m ≤ 4) : st.gv.length ≤ 1000 ∧ st.bk.length ≤ 1000 ∧ (keptL st).length ≤ 2 * m + 2 := by
  have h1 := i.gm
  have h2 := i.cnt
  have h3 : st.bk.length ≤ m := by
    by_cases q : m = 0
    · rw [i.b0 q]; simp
    · have := i.bl (by omega)
      omega
  refine ⟨by omega, by omega, ?_⟩
  unfold keptL
  rw [i.cl]
  simp
  omega
theorem trm_one (p : Nat) : trm [((p : Int) + 1)] = [((p : Int) + 1)] := by
  have h : ((p : Int) + 1) ≠ 0 := by omega
  unfold trm tlen
  simp [tlen, h]
theorem valid_one (p : Nat) (hp : p ≤ 400) : Valid [((p : Int) + 1)] := by
  intro k hk
  have : k = 0 := by simp at hk; exact hk
  subst this
  show okN ((p : Int) + 1) = true
  rw [okN_iff]
  omega
set_option maxRecDepth 100000 in
set_option maxHeartbeats 12800000 in
theorem core {w : World} (n : Int) (oa : Option Addr) (l : List Bool) (c : Nat) (hB : Ba.BAt w oa l) :
    Calls Try.prog 4 #[.int .i64 n, .slice oa l.length c] w fun r w' => r = .returned (.bool true) ∧ Below w.heap.size w w' := by
  have HB := hide hB
  clear hB
  by_cases hn : n < 0 ∨ 4 < n
  · have NB := hide (new_bad n w hn)
    clear hn
    go_enter Try.func4, Try.ntmps4
    go_wp2_with fail
    refine NB.out.mono ?_
    rintro r w1 ⟨rfl, e1⟩
    obtain rfl := e1.symm
    go_wp2_with fail
    refine (fetches_any _).mono ?_
    rintro r w3 ⟨rfl, b3⟩
    have B3 := hide b3
    clear b3
    go_wp2_with fail
    go_ret
    exact ⟨rfl, B3.out⟩
  obtain ⟨m, rfl⟩ : ∃ m : Nat, n = (m : Int) := ⟨n.toNat, by omega⟩
  have hm : m ≤ 4 := by omega
  have NW := hide (new_any m (Lw w) h0 w hm (cx0 w))
  by_cases hl : 300 < l.length
  · have d : decide (300 < (l.length : Int)) = true := decide_eq_true (by omega)
    go_enter Try.func4, Try.ntmps4
    go_wp2_with fail
    refine NW.out.mono ?_
    rintro r w1 ⟨S, rfl, s1, b1⟩
    have B1 := hide b1
    clear s1 b1 NW
    go_wp2_with fail
    refine (fetches_any _).mono ?_
    rintro r w3 ⟨rfl, b3⟩
    have B3 := hide (btr B1.out b3)
    clear b3
    go_wp2_with fail
    go_ret
    exact ⟨rfl, B3.out⟩
  have d : decide (300 < (l.length : Int)) = false := decide_eq_false (by omega)
  go_enter Try.func4, Try.ntmps4
  go_wp2_with fail
  refine NW.out.mono ?_
  rintro r w1 ⟨S, rfl, s1, b1⟩
  have S1 : Hid (SW (Lw w) S w1 ⟨m, 0, 0, [], [], none⟩ h0) := ⟨_, _, s1⟩
  have K1 : Hid (Kp (Lw w) w w1) := Kp.of b1 fun _ q => q
  clear s1 b1 NW
  go_wp2_with fail
  go_loopw [7, 8, 43] (fun vs vr i wr => ∃ (p : Nat) (st : Sst) (h : Nat → Option (List Int)), p ≤ l.length ∧ i = .int .i64 (p : Int) ∧ (vs = .int .i64 (st.sn : Int) ∧ vr = .int .i64 (st.rc : Int)) ∧ SW (Lw w) S wr st h ∧ (PI m (l.take p) st h ∧ st.sn ≤ p) ∧ Kp (Lw w) w wr) (fun _ _ i _ => l.length - (intOf i).toNat)
  case atStart => exact ⟨0, _, h0, Nat.zero_le _, rfl, ⟨rfl, rfl⟩, S1.out, ⟨PI.new m h0, Nat.le_refl _⟩, K1.out⟩
  case round =>
    clear S1 K1
    obtain ⟨p, st, h, hpl, rfl, ⟨rfl, rfl⟩, s, ⟨pi, hsp⟩, kp⟩ := hrel
    have SS := hide s
    have PP := hide pi
    have KP := hide kp
    have HCNT := hide (And.intro pi.cnt pi.gm)
    have HZ := hide pi.z
    have hrc0 : st.rc ≤ 1000000 := by have := pi.cnt; omega
    have hrs0 : st.rc ≤ st.sn := by have := pi.cnt; omega
    clear s pi kp
    by_cases hlt : p < l.length
    · have hlt' : (p : Int) < (l.length : Int) := by omega
      obtain ⟨b, hb⟩ : ∃ b, l[p]? = some b := ⟨_, List.getElem?_eq_getElem hlt⟩
      obtain ⟨b0, off, rfl, hcell⟩ := HB.out.below (Kp.lw KP.out) p b hb
      have TK := hide (take_one l p b hb)
      have HPRE : Hid ((l.take p).length = p) := by show _ = _; rw [List.length_take]; omega
      clear hb
      have OF := hide (of_sw (SS.out.below (below_alloc wr (.cells #[.int .i64 ((p : Int) + 1)] 3))) (some ⟨wr.heap.size, 0, none⟩) [((p : Int) + 1)] 1 1 rfl (At.lit _ _ _ _ (by rfl)) (by decide) (by decide) (by decide) (valid_one p (by omega)))
      rw [trm_one] at OF
      have YL := hide SS.out.ylt
      cases b
      · go_wp2_with fail
        refine OF.out.mono ?_
        rintro r w2 ⟨a, h2, rfl, x2, ea, s2, b2⟩
        have S2 := hide s2
        have X2 := hide x2
        have EA := hide ea
        have K2 := hide (kp_b KP.out (btr (below_alloc wr _) b2) YL.out)
        have PX := hide (PP.out.ext x2)
        clear s2 x2 ea b2 OF
        cases hg : st.gv with
        | nil =>
          obtain ⟨vg, vb, s2⟩ := S2.out
          have RN := hide (recv_none s2 (.pointer (some ⟨a, 0, none⟩)) hg)
          have hd : dB m (cF m 0 (l.take p)) false = false := by
            have := PP.out.c
            rw [hg] at this
            simp [dB, ← this]
          have PN : Hid (PI m (l.take (p + 1)) st h2) := by rw [TK.out]; exact PX.out.no hd
          have HG := hide hg
          clear s2 hd hg
          go_wp2_with fail
          refine RN.out.mono ?_
          rintro r w3 ⟨rfl, b3⟩
          have S3 := hide (S2.out.below b3)
          have K3 := hide (kp_b K2.out b3 S2.out.ylt)
          have P3 := hide PN.out
          have hs3 : st.sn ≤ p + 1 := by omega
          clear b3 RN
          go_wp2_with fail
          have fw := PI.few P3.out hm
          refine (held_any S3.out fw.1 fw.2.1).mono ?_
          rintro r w4 ⟨v4, As, h4, rfl, HI⟩
          obtain ⟨o4, c4, e4⟩ := own_sl HI.own
          have hk4 := fw.2.2
          have S4 := hide (sw_less HI.sw fun k q => .inl q)
          have P4 := hide (P3.out.ext HI.ext)
          have K4 := hide (K3.out.trans HI.kp)
          clear HI fw
          generalize (keptL (st)).length = nk at *
          subst e4
          have d4 : decide (2 * (m : Int) + 2 < (nk : Int)) = false := decide_eq_false (by omega)
          go_wp2_with fail
          go_roundw
          case rel => exact ⟨p + 1, st, h4, by omega, by go_num, ⟨rfl, rfl⟩, S4.out, ⟨P4.out, hs3⟩, K4.out⟩
          case measure => simp [intOf]; omega

        | cons x gl =>
          obtain ⟨i, gi1, gi2⟩ := PX.out.gvv 0 x (by rw [hg]; rfl)
          rw [Nat.add_zero] at gi1
          have GI := hide (dn_pre m true l p _ i gi1)
          have EX := hide gi2
          have fb := (PI.few PX.out hm).2.1
          have RO := hide (recv_ok S2.out a _ EA.out x gl hg hrc0 fb)
          unfold ptr at RO
          have HG := hide hg
          clear gi1 gi2 fb hg
          go_wp2_with fail
          refine RO.out.mono ?_
          rintro r w3 ⟨rfl, A, h3, x3, e3, s3, k3⟩
          have S3 := hide s3
          have K3 := hide (K2.out.trans k3)
          have P3 : Hid (PI m (l.take (p + 1)) (recvS st A) h3) := by rw [TK.out]; exact PX.out.recv HG.out x3 (by rw [HPRE.out]; exact e3)
          have hs3 : (recvS st A).sn ≤ p + 1 := by show st.sn ≤ p + 1; omega
          have GY := hide (fun cap => given_yes x _ l cap true st.rc m i w3 (HB.out.below (Kp.lw K3.out)) (by omega) hm GI.out (s3.get (x3 x _ EX.out)).1)
          clear s3 k3 x3 e3 RO
          go_wp2_with fail
          refine (GY.out _).mono ?_
          rintro r w3' ⟨rfl, b3'⟩
          have S3' := hide (S3.out.below b3')
          have K3' := hide (kp_b K3.out b3' S3.out.ylt)
          clear b3' S3 K3
          have S3 := hide S3'.out
          have K3 := hide K3'.out
          clear S3' K3' GY
          go_wp2_with fail
          have fw := PI.few P3.out hm
          refine (held_any S3.out fw.1 fw.2.1).mono ?_
          rintro r w4 ⟨v4, As, h4, rfl, HI⟩
          obtain ⟨o4, c4, e4⟩ := own_sl HI.own
          have hk4 := fw.2.2
          have S4 := hide (sw_less HI.sw fun k q => .inl q)
          have P4 := hide (P3.out.ext HI.ext)
          have K4 := hide (K3.out.trans HI.kp)
          clear HI fw
          generalize (keptL (recvS st A)).length = nk at *
          subst e4
          have d4 : decide (2 * (m : Int) + 2 < (nk : Int)) = false := decide_eq_false (by omega)
          go_wp2_with fail
          go_roundw
          case rel => exact ⟨p + 1, recvS st A, h4, by omega, by go_num, ⟨rfl, by go_num⟩, S4.out, ⟨P4.out, hs3⟩, K4.out⟩
          case measure => simp [intOf]; omega

      · go_wp2_with fail
        refine OF.out.mono ?_
        rintro r w2 ⟨a, h2, rfl, x2, ea, s2, b2⟩
        have S2 := hide s2
        have EA := hide ea
        have K2 := hide (kp_b KP.out (btr (below_alloc wr _) b2) YL.out)
        have PX := hide (PP.out.ext x2)
        clear s2 x2 ea b2 OF
        by_cases hE : sendE st = 0
        case neg =>
          have hd : dB m (cF m 0 (l.take p)) true = false := by
            cases q : dB m (cF m 0 (l.take p)) true with
            | false => rfl
            | true => exact absurd (PX.out.ok.2 q) hE
          have P3 : Hid (PI m (l.take (p + 1)) st h2) := by rw [TK.out]; exact PX.out.no hd
          have SE : Hid (Calls Try.prog 13 #[.pointer (some ⟨S, 0, none⟩), .pointer (some ⟨a, 0, none⟩)] w2 fun r w' => r = .returned (.tuple #[.pointer none, .int .i64 (sendE st)]) ∧ Below w2.heap.size w2 w') := by
            obtain ⟨vg, vb, s2⟩ := S2.out
            exact send_err s2 _ hE (by omega) hrs0
          clear hd
          generalize sendE st = E at *
          have hE' : (E == 0) = false := by rw [beq_eq_false_iff_ne]; exact hE
          go_wp2_with fail
          refine SE.out.mono ?_
          rintro r w3 ⟨rfl, b3⟩
          have S3 := hide (S2.out.below b3)
          have K3 := hide (kp_b K2.out b3 S2.out.ylt)
          have hs3 : st.sn ≤ p + 1 := by omega
          clear b3 SE
          go_wp2_with fail
          have fw := PI.few P3.out hm
          refine (held_any S3.out fw.1 fw.2.1).mono ?_
          rintro r w4 ⟨v4, As, h4, rfl, HI⟩
          obtain ⟨o4, c4, e4⟩ := own_sl HI.own
          have hk4 := fw.2.2
          have S4 := hide (sw_less HI.sw fun k q => .inl q)
          have P4 := hide (P3.out.ext HI.ext)
          have K4 := hide (K3.out.trans HI.kp)
          clear HI fw
          generalize (keptL (st)).length = nk at *
          subst e4
          have d4 : decide (2 * (m : Int) + 2 < (nk : Int)) = false := decide_eq_false (by omega)
          go_wp2_with fail
          go_roundw
          case rel => exact ⟨p + 1, st, h4, by omega, by go_num, ⟨rfl, rfl⟩, S4.out, ⟨P4.out, hs3⟩, K4.out⟩
          case measure => simp [intOf]; omega

        case pos =>
          have hd := PX.out.ok.1 hE
          have fw0 := PI.few PX.out hm
          have SO := hide (send_ok S2.out a _ EA.out hE (by omega) hrs0 fw0.1)
          have PS : Hid (∀ A h3, Ext h2 h3 → h3 A = some [((p : Nat) : Int) + 1] → PI m (l.take (p + 1)) (sendS st A) h3) := fun A h3 x3 e3 => by rw [TK.out]; exact PX.out.send hd x3 (by rw [HPRE.out]; exact e3)
          have hbl := PX.out.bl
          have hb0 := PX.out.b0
          have hc : st.gv.length < max 1 m := by rw [PX.out.c]; simpa [dB] using hd
          have hcnt := HCNT.out.1
          have hz := HZ.out
          by_cases hc3 : 0 < m ∧ m ≤ st.sn
          · have hlen := hbl hc3.1
            obtain ⟨x, bl, hbx⟩ : ∃ x bl, st.bk = x :: bl := by
              cases q : st.bk with
              | nil => rw [q] at hlen; simp at hlen; omega
              | cons x bl => exact ⟨x, bl, rfl⟩
            have hf : fetS st = some x := by unfold fetS; rw [hz, if_neg (by omega), hbx]; rfl
            obtain ⟨i, gi1, gi2⟩ := PX.out.bkv 0 x (by rw [hbx]; rfl)
            rw [Nat.add_zero] at gi1
            have GI := hide (dn_pre m false l p _ i gi1)
            have EX := hide gi2
            rw [hf] at SO
            have ecl : clv (some x) = .pointer (some ⟨x, 0, none⟩) := rfl
            rw [ecl] at SO
            have ek : ((st.sn - m : Nat) : Int) = (st.sn : Int) - (m : Int) := by omega
            have g1 : decide (0 < (m : Int)) = true := decide_eq_true (by omega)
            have g1n : decide (0 < m) = true := decide_eq_true (by omega)
            have g3n : decide (m = 0) = false := decide_eq_false (by omega)
            have g3m : (m == 0) = false := by rw [beq_eq_false_iff_ne]; omega
            have g2 : decide ((m : Int) ≤ (st.sn : Int)) = true := decide_eq_true (by omega)
            have g2n : decide (m ≤ st.sn) = true := decide_eq_true (by omega)
            have g3 : ((m : Int) == 0) = false := by rw [beq_eq_false_iff_ne]; omega
            have g4 : decide ((st.sn : Int) < (m : Int)) = false := decide_eq_false (by omega)
            have g4n : decide (st.sn < m) = false := decide_eq_false (by omega)
            have EK := hide ek
            clear gi1 gi2 ecl hf hbx hlen hbl hb0 hd fw0 hc hcnt hz hc3 ek
            go_wp2_with fail
            refine SO.out.mono ?_
            rintro r w3 ⟨rfl, A, h3, -, x3, e3, s3, k3⟩
            have S3 := hide s3
            have K3 := hide (K2.out.trans k3)
            have P3 := hide (PS.out A h3 x3 e3)
            have hs3 : (sendS st A).sn ≤ p + 1 := by show st.sn + 1 ≤ p + 1; omega
            have GY := hide (fun cap => given_yes x _ l cap false (st.sn - m) m i w3 (HB.out.below (Kp.lw K3.out)) (by omega) hm GI.out (s3.get (x3 x _ EX.out)).1)
            rw [EK.out] at GY
            clear s3 k3 x3 e3 SO
            go_wp2_with fail
            refine (GY.out _).mono ?_
            rintro r w3' ⟨rfl, b3'⟩
            have S3' := hide (S3.out.below b3')
            have K3' := hide (kp_b K3.out b3' S3.out.ylt)
            clear b3' S3 K3
            have S3 := hide S3'.out
            have K3 := hide K3'.out
            clear S3' K3' GY
            go_wp2_with fail
            have fw := PI.few P3.out hm
            refine (held_any S3.out fw.1 fw.2.1).mono ?_
            rintro r w4 ⟨v4, As, h4, rfl, HI⟩
            obtain ⟨o4, c4, e4⟩ := own_sl HI.own
            have hk4 := fw.2.2
            have S4 := hide (sw_less HI.sw fun k q => .inl q)
            have P4 := hide (P3.out.ext HI.ext)
            have K4 := hide (K3.out.trans HI.kp)
            clear HI fw
            generalize (keptL (sendS st A)).length = nk at *
            subst e4
            have d4 : decide (2 * (m : Int) + 2 < (nk : Int)) = false := decide_eq_false (by omega)
            go_wp2_with fail
            go_roundw
            case rel => exact ⟨p + 1, sendS st A, h4, by omega, by go_num, ⟨by go_num, rfl⟩, S4.out, ⟨P4.out, hs3⟩, K4.out⟩
            case measure => simp [intOf]; omega

          · have hf : fetS st = none := by
              unfold fetS
              rw [hz]
              split
              · rfl
              · rw [hb0 (by omega)]; rfl
            rw [hf] at SO
            have ecl : clv none = .pointer none := rfl
            rw [ecl] at SO
            by_cases hm0 : m = 0
            · have g1 : decide (0 < (m : Int)) = false := decide_eq_false (by omega)
              have g3 : ((m : Int) == 0) = true := by rw [beq_iff_eq]; omega
              have g1n : decide (0 < m) = false := decide_eq_false (by omega)
              clear ecl hf hbl hb0 hd fw0 hc hcnt hz hc3 hm0
              go_wp2_with fail
              refine SO.out.mono ?_
              rintro r w3 ⟨rfl, A, h3, -, x3, e3, s3, k3⟩
              have S3 := hide s3
              have K3 := hide (K2.out.trans k3)
              have P3 := hide (PS.out A h3 x3 e3)
              have hs3 : (sendS st A).sn ≤ p + 1 := by show st.sn + 1 ≤ p + 1; omega
              clear s3 k3 x3 e3 SO
              go_wp2_with fail
              have fw := PI.few P3.out hm
              refine (held_any S3.out fw.1 fw.2.1).mono ?_
              rintro r w4 ⟨v4, As, h4, rfl, HI⟩
              obtain ⟨o4, c4, e4⟩ := own_sl HI.own
              have hk4 := fw.2.2
              have S4 := hide (sw_less HI.sw fun k q => .inl q)
              have P4 := hide (P3.out.ext HI.ext)
              have K4 := hide (K3.out.trans HI.kp)
              clear HI fw
              generalize (keptL (sendS st A)).length = nk at *
              subst e4
              have d4 : decide (2 * (m : Int) + 2 < (nk : Int)) = false := decide_eq_false (by omega)
              go_wp2_with fail
              go_roundw
              case rel => exact ⟨p + 1, sendS st A, h4, by omega, by go_num, ⟨by go_num, rfl⟩, S4.out, ⟨P4.out, hs3⟩, K4.out⟩
              case measure => simp [intOf]; omega

            · have g1 : decide (0 < (m : Int)) = true := decide_eq_true (by omega)
              have g1n : decide (0 < m) = true := decide_eq_true (by omega)
              have g3n : decide (m = 0) = false := decide_eq_false (by omega)
              have g3m : (m == 0) = false := by rw [beq_eq_false_iff_ne]; omega
              have g2 : decide ((m : Int) ≤ (st.sn : Int)) = false := decide_eq_false (by omega)
              have g2n : decide (m ≤ st.sn) = false := decide_eq_false (by omega)
              have g3 : ((m : Int) == 0) = false := by rw [beq_eq_false_iff_ne]; omega
              have g4 : decide ((st.sn : Int) < (m : Int)) = true := decide_eq_true (by omega)
              have g4n : decide (st.sn < m) = true := decide_eq_true (by omega)
              clear ecl hf hbl hb0 hd fw0 hc hcnt hz hc3 hm0
              go_wp2_with fail
              refine SO.out.mono ?_
              rintro r w3 ⟨rfl, A, h3, -, x3, e3, s3, k3⟩
              have S3 := hide s3
              have K3 := hide (K2.out.trans k3)
              have P3 := hide (PS.out A h3 x3 e3)
              have hs3 : (sendS st A).sn ≤ p + 1 := by show st.sn + 1 ≤ p + 1; omega
              clear s3 k3 x3 e3 SO
              go_wp2_with fail
              have fw := PI.few P3.out hm
              refine (held_any S3.out fw.1 fw.2.1).mono ?_
              rintro r w4 ⟨v4, As, h4, rfl, HI⟩
              obtain ⟨o4, c4, e4⟩ := own_sl HI.own
              have hk4 := fw.2.2
              have S4 := hide (sw_less HI.sw fun k q => .inl q)
              have P4 := hide (P3.out.ext HI.ext)
              have K4 := hide (K3.out.trans HI.kp)
              clear HI fw
              generalize (keptL (sendS st A)).length = nk at *
              subst e4
              have d4 : decide (2 * (m : Int) + 2 < (nk : Int)) = false := decide_eq_false (by omega)
              go_wp2_with fail
              go_roundw
              case rel => exact ⟨p + 1, sendS st A, h4, by omega, by go_num, ⟨by go_num, rfl⟩, S4.out, ⟨P4.out, hs3⟩, K4.out⟩
              case measure => simp [intOf]; omega

    · have hlt' : ¬ ((p : Int) < (l.length : Int)) := by omega
      go_wp2_with fail
      refine (fetches_any _).mono ?_
      rintro r wd ⟨rfl, bd⟩
      have KD := hide (kp_b KP.out bd SS.out.ylt)
      clear bd
      go_wp2_with fail
      go_ret
      exact ⟨rfl, Kp.lw KD.out⟩

/-! ### the row -/
set_option maxRecDepth 100000 in
theorem lifted (os : Os) (started : os.Started) (H : Type) (enc : TypeId × Value → H) :
    ReturnsInHanded {} Try.checked os 4 .any (Rows.slotsPairsSpec.pre6 enc Try.prog Try.f4 Rows.slotsPairsRow.domain false) (Rows.slotsPairsSpec.post enc Try.prog Try.f4 false true false false) := by
  refine returnsInHanded_of_change (C := Try.checked) own started (by kernel_rfl) Try.func4
    (ChangeSpec.witness6 (enc := enc) (C := Try.checked) false ⟨#[], #[.int .i64 0, .slice none 0 0], []⟩ 8 (by kernel_rfl) (by kernel_rfl) (by kernel_rfl) (by kernel_rfl)) ?_
  intro W base args ds gs before hval0 hW hcnd _
  have hval : ∀ (j : Nat) t v, Try.f4.params[j]? = some t → args[j]? = some v → Value.okWide Try.prog W .any base t v := hval0
  have hW' := hW
  obtain ⟨p, q, hA0, hV, rfl, hfz, hnd⟩ := hW
  have hA : DataW.TrodAll enc Try.prog W 0 (fun _ => true) true Try.f4.params.toList args.toList ds p := hA0
  rw [Try.params4] at hA hval
  obtain ⟨v0, vs0, d0, ds0, p0, q0, hargs, rfl, rfl, h0, r0⟩ := trodAll_cons hA
  obtain ⟨v1, vs1, d1, ds1, p1, q1, rfl, rfl, rfl, h1, r1⟩ := trodAll_cons r0
  obtain ⟨rfl, rfl, rfl⟩ := trodAll_nil r1
  obtain rfl : args = #[v0, v1] := by cases args; simp_all
  obtain ⟨rfl, rfl⟩ := trodVars_none hV
  obtain ⟨a0, rfl, rfl, rfl, w0⟩ := open_int Try.underlying3 (hval 0 3 v0 rfl rfl) h0
  obtain ⟨oa1, n1, c1, rfl⟩ := okWide_slice Try.underlying53 (hval 1 53 v1 rfl rfl)
  have k1 := h1
  have lt1 : ∀ x ∈ p1, x.block < W.heap.size := by obtain ⟨m, hm⟩ := k1; exact DataW.trod_lt m _ _ _ hm
  obtain ⟨l1, rfl, A1, C1, M1⟩ := h1.elim fun _ hf => Ba.bools_open hf
  clear hA0 hval0
  refine (core (w := W) a0 oa1 l1 c1 A1).mono fun e W' ⟨he, bel⟩ => ?_
  subst he
  exact ⟨_, rfl, _, _, _, [], _, [], hW', trodAll_mk1 (shut_bool Try.underlying4 _), (trodAll_cons_mk (shut_int Try.underlying3 w0) (trodAll_cons_mk (Below.trod laidOut (by kernel_rfl) (of_decide_eq_true (by kernel_rfl)) k1 bel lt1) trodAll_mk0)), rfl, bel.frame _, fun h => by cases h⟩

theorem over : Rows.slotsPairsRow.holds Try.pinned (OpenSpec.ofChange Rows.slotsPairsSpec) :=
  OpenClaim.holds_of_wide 4 Try.f4 rfl rfl rfl rfl rfl rfl rfl ⟨rfl, rfl, rfl, rfl, rfl⟩ rfl rfl rfl rfl rfl (by kernel_rfl) Try.func4 (by kernel_rfl)
    (of_decide_eq_true (by kernel_rfl)) (by unfold Func.isWrapper; first | (rw [if_pos (by decide +kernel)]; kernel_rfl) | (rw [if_neg (by decide +kernel)]; exact ⟨rfl, rfl⟩))
    (fun os started H enc _ => lifted os started H enc)

/-- the statement -/
theorem proved : Rows.SlotsPairsSaid := over
#print axioms proved
end Go.Proofs.Ytbangoghekefcaa.slotsPairs
