/- The reference's Park, over this seat's program. -/
import Derived.Test.YtdcmlimglajpkaaJj
namespace Go.Proofs.Ytdcmlimglajpkaa
open Go.ChangeShapes Go.WideShapes Go.ChangeAt Go.RowKit
namespace Fk
open Ba Pe _root_.Go.Proofs.Ytdcmlimglajpkaa.Pi Rp

set_option maxRecDepth 100000 in
theorem rpark_bad (g : Int) (oc : Option Addr) (l : List Ca) (cc : Nat) (oa : Option Addr) (n : Nat) (cp : Nat) (w : World) (h : pkBad g l = true) :
    Calls Try.prog 26 #[.int .i64 g, .slice oc l.length cc, .slice oa n cp] w fun r w' => r = .returned (.tuple #[.int .i64 0, .int .i64 1]) ∧ Below w.heap.size w w' := by
  unfold pkBad at h
  generalize l.length = m at h ⊢
  by_cases hg : g < 0
  · clear h
    go_enter Try.func26, Try.ntmps26
    go_wp2_with fail
    go_ret2
    exact ⟨rfl, Below.refl _ _⟩
  · have hm : (4 : Int) < (m : Int) := by simp [hg] at h; omega
    clear h
    go_enter Try.func26, Try.ntmps26
    go_wp2_with fail
    go_ret2
    exact ⟨rfl, Below.refl _ _⟩
set_option maxRecDepth 100000 in
theorem rpark_ready (g : Int) (oc : Option Addr) (l : List Ca) (cc : Nat) (oa : Option Addr) (bs : List (Option Nat)) (cp : Nat) (Fs : Nat → Nat → Prop) (sts : List (Option St)) (w : World) (hC : CaAt w oc l) (h : Qs Rr w oa bs Fs sts) (hb : pkBad g l = false) (hr : 0 < (rdyL l sts).length) :
    Calls Try.prog 26 #[.int .i64 g, .slice oc l.length cc, .slice oa bs.length cp] w fun r w' => r = .returned (.tuple #[.int .i64 0, .int .i64 7]) ∧ Below w.heap.size w w' := by
  unfold pkBad at hb
  simp only [Bool.or_eq_false_iff, decide_eq_false_iff_not] at hb
  have hg : ¬ g < 0 := hb.1
  have hm' : l.length ≤ 4 := by omega
  have RD := hide (rreadyL_any oc l cc oa bs cp Fs sts w hC h (by omega))
  have hm : ¬ (4 : Int) < (l.length : Int) := by omega
  have hr' : (0 : Int) < ((rdyL l sts).length : Int) := by omega
  clear hb hC h hr
  generalize hR : (rdyL l sts).length = R at RD hr'
  generalize l.length = m at RD hm hm' ⊢
  clear hR
  go_enter Try.func26, Try.ntmps26
  go_wp2_with fail
  refine RD.out.mono ?_
  rintro r w1 ⟨ob, d, rfl, -, b1⟩
  have B1 := hide b1
  clear b1
  go_wp2_with fail
  go_ret2
  exact ⟨rfl, B1.out⟩
set_option maxRecDepth 100000 in
set_option maxHeartbeats 6400000 in
theorem rpark_ok (g : Int) (oc : Option Addr) (l : List Ca) (cc : Nat) (oa : Option Addr) (bs : List (Option Nat)) (cp : Nat) (Fs : Nat → Nat → Prop) (sts : List (Option St)) (w : World) (hC : CaAt w oc l) (hCn : 0 < l.length → ∀ a, oc = some a → ¬ All Fs a.block) (h : Qs Rr w oa bs Fs sts) (hb : pkBad g l = false) (hr : rdyL l sts = []) (hle : ∀ (i : Nat) (st : St), sts[i]? = some (some st) → ∀ b, (own st b).length ≤ 1000) :
    Calls Try.prog 26 #[.int .i64 g, .slice oc l.length cc, .slice oa bs.length cp] w fun r w' => r = .returned (.tuple #[.int .i64 ((ps (hasC sts l) l.length).length : Int), .int .i64 0]) ∧ Rz Rr w w' oa bs Fs (pkS g l sts l.length) := by
  unfold pkBad at hb
  simp only [Bool.or_eq_false_iff, decide_eq_false_iff_not] at hb
  have hg : ¬ g < 0 := hb.1
  have hg0 : 0 ≤ g := by omega
  have hm' : l.length ≤ 4 := by omega
  have hm : ¬ (4 : Int) < (l.length : Int) := by omega
  have IV0 := hide (Iv.start (g := g) hr hle)
  have RD := hide (rreadyL_any oc l cc oa bs cp Fs sts w hC h (by omega))
  rw [hr] at RD
  simp only [List.length_nil] at RD
  have HC := hide hC
  have HQ := hide h
  have HN := hide hCn
  obtain ⟨P, hP⟩ : ∃ P, P = hasC sts l := ⟨_, rfl⟩
  rw [← hP]
  have HP := hide hP
  clear hb hC h hr hle hCn hP
  go_enter Try.func26, Try.ntmps26
  go_wp2_with fail
  refine RD.out.mono ?_
  rintro r w1 ⟨ob, d, rfl, -, b1⟩
  have R0 := hide (Rz.same frR HQ.out b1)
  clear b1 RD
  go_wp2_with fail
  go_loopw [8, 26] (fun rn i wz => ∃ (k : Nat), k ≤ l.length ∧ i = .int .i64 k ∧ rn = .int .i64 ((ps P k).length : Int) ∧ Rz Rr w wz oa bs Fs (pkS g l sts k)) (fun _ i _ => l.length - (intOf i).toNat)
  case atStart => exact ⟨0, Nat.zero_le _, rfl, rfl, R0.out⟩
  case round =>
    clear R0
    obtain ⟨k, hk, rfl, rfl, rz⟩ := hrel
    have RZ := hide rz
    clear rz
    have SU := hide (ps_succ P k)
    have hpl := ps_len P k
    by_cases hkl : k < l.length
    · have hkl' : (k : Int) < (l.length : Int) := by omega
      obtain ⟨c, hc⟩ : ∃ c, l[k]? = some c := ⟨_, List.getElem?_eq_getElem hkl⟩
      obtain ⟨Fs', nw, qs, kf⟩ := RZ.out
      obtain ⟨bc, offc, rfl, c0, c1, c2⟩ := HC.out.kf kf (HN.out (by omega)) k c hc
      have IV := IV0.out.all hg0 k (by omega)
      have SK : Hid (pkS g l sts (k + 1) = pk1 g k c (pkS g l sts k)) := by
        show _ = _
        rw [pkS, hc]
      have PK : Hid (P k = (nmB sts c.ch).isSome) := by
        show _ = _
        rw [HP.out]
        unfold hasC
        rw [hc]
      have NN := pkS_none g l sts k c.ch
      have BX := below_alloc wr (.cells #[.bool c.sd, .int .i64 c.ch, .int .i64 c.v] 32)
      have XN := hide (heap_new wr (.cells #[.bool c.sd, .int .i64 c.ch, .int .i64 c.v] 32))
      have NM := hide (rnamed_any oa bs c.ch cp _ (qs.row.below BX))
      generalize pkS g l sts k = s at RZ qs IV SK NN
      rcases qs.nm c.ch with ⟨q1, q2⟩ | ⟨B, st, q1, q2, q3, q4, q5, q6, q7⟩
      · rw [q1] at NM
        simp only [pt, Option.map_none] at NM
        have RN : Hid (Rz Rr w (wr.alloc (.cells #[.bool c.sd, .int .i64 c.ch, .int .i64 c.v] 32)) oa bs Fs (pkS g l sts (k + 1))) := by
          show Rz _ _ _ _ _ _ _
          rw [SK.out]
          unfold pk1
          rw [q2]
          exact RZ.out.below frR BX
        have LN : Hid ((ps P (k + 1)).length = (ps P k).length) := by
          show _ = _
          rw [SU.out, PK.out, NN.1 q2]
          rfl
        clear hc nw qs kf IV NN BX q1 q2 RZ
        go_wp2_with fail
        generalize wr.alloc (.cells #[.bool c.sd, .int .i64 c.ch, .int .i64 c.v] 32) = W1 at XN NM RN ⊢
        generalize wr.heap.size = A at XN ⊢
        refine NM.out.mono ?_
        rintro r z1 ⟨rfl, rfl⟩
        go_wp2_with fail
        go_roundw
        case rel => exact ⟨k + 1, by omega, by go_num, by rw [LN.out], RN.out⟩
        case measure => simp [intOf]; omega
      · rw [q1] at NM
        simp only [pt, Option.map_some] at NM
        have OK := (IV.ok hg0 (by omega) (List.mem_of_getElem? hc) q2 k).1
        have WT : Hid (Calls Try.prog 25 #[.pointer (some ⟨B, 0, none⟩), .bool c.sd, wv ⟨g, k, c.v⟩] (wr.alloc (.cells #[.bool c.sd, .int .i64 c.ch, .int .i64 c.v] 32)) fun r w' => r = .returned (.int .i64 0) ∧ Rz Rr w w' oa bs Fs (pkS g l sts (k + 1))) := by
          have pu : Rr (wr.alloc (.cells #[.bool c.sd, .int .i64 c.ch, .int .i64 c.v] 32)) B (Fs' c.ch.toNat) st := frR.sm q7 (Sm.below BX (qs.bd _))
          refine (rwait_any B _ st c.sd ⟨g, k, c.v⟩ _ pu).mono ?_
          rintro r w9 ⟨rfl, k9, F9, n9, p9⟩
          refine ⟨by rw [OK], ?_⟩
          have r1 := Rz.trans nw kf (Rz.step frR qs BX q5 k9 n9 p9)
          rw [SK.out]
          unfold pk1
          rw [q2]
          exact r1
        have LN : Hid ((ps P (k + 1)).length = (ps P k).length + 1) := by
          show _ = _
          have hS : (nmB sts c.ch).isSome = true := by
            cases hq : nmB sts c.ch with
            | none => rw [NN.2 hq] at q2; cases q2
            | some _ => rfl
          rw [SU.out, PK.out, hS]
          simp
        unfold wv at WT
        clear hc nw qs kf IV NN BX q1 q2 q3 q4 q5 q6 q7 OK RZ
        go_wp2_with fail
        generalize wr.alloc (.cells #[.bool c.sd, .int .i64 c.ch, .int .i64 c.v] 32) = W1 at XN NM WT ⊢
        generalize wr.heap.size = A at XN ⊢
        refine NM.out.mono ?_
        rintro r z1 ⟨rfl, rfl⟩
        have e0 : z1.cell? ⟨A, 0, none⟩ = some (.bool c.sd) := cell_of XN.out 0
        have e2 : z1.cell? ⟨A, 2, none⟩ = some (.int .i64 c.v) := cell_of XN.out 2
        go_wp2_with fail
        refine WT.out.mono ?_
        rintro r z2 ⟨rfl, r2⟩
        have R2 := hide r2
        clear r2 e0 e2
        go_wp2_with fail
        go_roundw
        case rel => exact ⟨k + 1, by omega, by go_num, by rw [LN.out]; go_num, R2.out⟩
        case measure => simp [intOf]; omega
    · have hkl' : ¬ ((k : Int) < (l.length : Int)) := by omega
      obtain rfl : k = l.length := by omega
      go_wp2_with fail
      go_ret2
      exact ⟨rfl, RZ.out⟩
/-- the reference's Park, whatever its arguments are -/
theorem rpark_any (g : Int) (oc : Option Addr) (l : List Ca) (cc : Nat) (oa : Option Addr) (bs : List (Option Nat)) (cp : Nat) (Fs : Nat → Nat → Prop) (sts : List (Option St)) (w : World) (hC : CaAt w oc l) (hCn : 0 < l.length → ∀ a, oc = some a → ¬ All Fs a.block) (h : Qs Rr w oa bs Fs sts) (hle : ∀ (i : Nat) (st : St), sts[i]? = some (some st) → ∀ b, (own st b).length ≤ 1000) :
    Calls Try.prog 26 #[.int .i64 g, .slice oc l.length cc, .slice oa bs.length cp] w fun r w' => r = .returned (.tuple #[.int .i64 (pkN g l sts), .int .i64 (pkE g l sts)]) ∧ Rz Rr w w' oa bs Fs (pkA g l sts) := by
  unfold pkN pkE pkA
  cases hb : pkBad g l
  · simp only [Bool.false_eq_true, if_false]
    by_cases hr : 0 < (rdyL l sts).length
    · simp only [if_pos hr]
      refine (rpark_ready g oc l cc oa bs cp Fs sts w hC h hb hr).mono ?_
      rintro r w1 ⟨e, b1⟩
      exact ⟨e, Rz.same frR h b1⟩
    · simp only [if_neg hr]
      exact rpark_ok g oc l cc oa bs cp Fs sts w hC hCn h hb (List.eq_nil_of_length_eq_zero (by omega)) hle
  · simp only [if_true]
    refine (rpark_bad g oc l cc oa bs.length cp w hb).mono ?_
    rintro r w1 ⟨e, b1⟩
    exact ⟨e, Rz.same frR h b1⟩
end Fk
end Go.Proofs.Ytdcmlimglajpkaa
