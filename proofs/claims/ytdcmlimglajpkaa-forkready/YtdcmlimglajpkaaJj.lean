/- Package fork: Park, over this seat's program. -/
import Derived.Test.YtdcmlimglajpkaaJi
namespace Go.Proofs.Ytdcmlimglajpkaa
open Go.ChangeShapes Go.WideShapes Go.ChangeAt Go.RowKit
namespace Fk
open Ba Pe _root_.Go.Proofs.Ytdcmlimglajpkaa.Pi Rp

theorem park1_any (c : Ca) (q : Option Nat) (w : World) :
    Calls Try.prog 38 #[cv c, pt q] w fun r w' => r = .returned (.bool q.isSome) ∧ Below w.heap.size w w' := by
  unfold cv
  cases q with
  | none =>
    simp only [pt, Option.map_none]
    go_enter Try.func38, Try.ntmps38
    go_wp2_with fail
    go_ret
    exact ⟨ret_bool (by simp), below_alloc _ _⟩
  | some D =>
    simp only [pt, Option.map_some]
    go_enter Try.func38, Try.ntmps38
    go_wp2_with fail
    go_ret
    exact ⟨ret_bool (by simp), below_alloc _ _⟩
theorem CaAt.kf {w w' : World} {F : Nat → Prop} {oa : Option Addr} {l : List Ca} (h : CaAt w oa l) (k : KF F w w') (hn : ∀ a, oa = some a → ¬ F a.block) : CaAt w' oa l := by
  intro j x hx
  obtain ⟨b, off, e, h0, h1, h2⟩ := h j x hx
  exact ⟨b, off, e, k.cell h0 (hn _ e), k.cell h1 (hn _ e), k.cell h2 (hn _ e)⟩
set_option maxRecDepth 100000 in
theorem park_bad (g : Int) (oc : Option Addr) (l : List Ca) (cc : Nat) (oa : Option Addr) (n : Nat) (cp : Nat) (w : World) (h : pkBad g l = true) :
    Calls Try.prog 16 #[.int .i64 g, .slice oc l.length cc, .slice oa n cp] w fun r w' => r = .returned (.tuple #[.int .i64 0, .int .i64 1]) ∧ Below w.heap.size w w' := by
  unfold pkBad at h
  generalize l.length = m at h ⊢
  by_cases hg : g < 0
  · clear h
    go_enter Try.func16, Try.ntmps16
    go_wp2_with fail
    go_ret2
    exact ⟨rfl, Below.refl _ _⟩
  · have hm : (4 : Int) < (m : Int) := by simp [hg] at h; omega
    clear h
    go_enter Try.func16, Try.ntmps16
    go_wp2_with fail
    go_ret2
    exact ⟨rfl, Below.refl _ _⟩
set_option maxRecDepth 100000 in
theorem park_ready (g : Int) (oc : Option Addr) (l : List Ca) (cc : Nat) (oa : Option Addr) (bs : List (Option Nat)) (cp : Nat) (Fs : Nat → Nat → Prop) (sts : List (Option St)) (w : World) (hC : CaAt w oc l) (h : Qs Pp w oa bs Fs sts) (hb : pkBad g l = false) (hr : 0 < (rdyL l sts).length) :
    Calls Try.prog 16 #[.int .i64 g, .slice oc l.length cc, .slice oa bs.length cp] w fun r w' => r = .returned (.tuple #[.int .i64 0, .int .i64 7]) ∧ Below w.heap.size w w' := by
  unfold pkBad at hb
  simp only [Bool.or_eq_false_iff, decide_eq_false_iff_not] at hb
  have hg : ¬ g < 0 := hb.1
  have hm' : l.length ≤ 4 := by omega
  have RD := hide (fready_any oc l cc oa bs cp Fs sts w hC h (by omega))
  have hm : ¬ (4 : Int) < (l.length : Int) := by omega
  have hr' : (0 : Int) < ((rdyL l sts).length : Int) := by omega
  clear hb hC h hr
  generalize hR : (rdyL l sts).length = R at RD hr'
  generalize l.length = m at RD hm hm' ⊢
  clear hR
  go_enter Try.func16, Try.ntmps16
  go_wp2_with fail
  refine RD.out.mono ?_
  rintro r w1 ⟨ob, d, rfl, -, b1⟩
  have B1 := hide b1
  clear b1
  go_wp2_with fail
  go_ret2
  exact ⟨rfl, B1.out⟩
set_option maxRecDepth 100000 in
set_option maxHeartbeats 6400000 in
theorem park_ok (g : Int) (oc : Option Addr) (l : List Ca) (cc : Nat) (oa : Option Addr) (bs : List (Option Nat)) (cp : Nat) (Fs : Nat → Nat → Prop) (sts : List (Option St)) (w : World) (hC : CaAt w oc l) (hCn : 0 < l.length → ∀ a, oc = some a → ¬ All Fs a.block) (h : Qs Pp w oa bs Fs sts) (hb : pkBad g l = false) (hr : rdyL l sts = []) (hle : ∀ (i : Nat) (st : St), sts[i]? = some (some st) → ∀ b, (own st b).length ≤ 1000) :
    Calls Try.prog 16 #[.int .i64 g, .slice oc l.length cc, .slice oa bs.length cp] w fun r w' => r = .returned (.tuple #[.int .i64 ((ps (hasC sts l) l.length).length : Int), .int .i64 0]) ∧ Rz Pp w w' oa bs Fs (pkS g l sts l.length) := by
  unfold pkBad at hb
  simp only [Bool.or_eq_false_iff, decide_eq_false_iff_not] at hb
  have hg : ¬ g < 0 := hb.1
  have hg0 : 0 ≤ g := by omega
  have hm' : l.length ≤ 4 := by omega
  have hm : ¬ (4 : Int) < (l.length : Int) := by omega
  have IV0 := hide (Iv.start (g := g) hr hle)
  have RD := hide (fready_any oc l cc oa bs cp Fs sts w hC h (by omega))
  rw [hr] at RD
  simp only [List.length_nil] at RD
  have HC := hide hC
  have HQ := hide h
  have HN := hide hCn
  have HLE := hide hle
  have GA : Hid (∀ u, Below w.heap.size w u → Calls Try.prog 32 #[.slice oc l.length cc, .slice oa bs.length cp, .func (.func 38) #[] #[]] u fun r w' => ∃ ob d, r = .returned (.slice ob (ps (hasC sts l) l.length).length d) ∧ w'.ownsRow u.heap.size 3 1 (.slice ob (ps (hasC sts l) l.length).length d) (ps (hasC sts l) l.length).length (ic (ps (hasC sts l) l.length)) ∧ Below u.heap.size u w') := by
    intro u hu
    refine gather_p (hasC sts l) oc l cc oa bs cp u (hC.below hu) (h.row.below hu) (by omega) ?_
    intro i c v hi hv
    have e : hasC sts l i = (nmB bs c.ch).isSome := by
      unfold hasC
      rw [hi]
      simp only
      rcases h.nm c.ch with ⟨q1, q2⟩ | ⟨B, st, q1, q2, _⟩
      · rw [q1, q2]; rfl
      · rw [q1, q2]; rfl
    rw [e]
    exact park1_any c _ v
  have FIN := hide (pk_ps g l sts l.length)
  obtain ⟨L, hL⟩ : ∃ L, L = ps (hasC sts l) l.length := ⟨_, rfl⟩
  have MB : Hid (∀ k, k < L.length → ∃ (p : Nat) (c : Ca) (st : St), nth L k = (p : Int) ∧ p < l.length ∧ l[p]? = some c ∧ nmB sts c.ch = some st) := by
    intro k hk
    rw [hL] at hk ⊢
    obtain ⟨p, e, hp, hh⟩ := ps_mem hk
    unfold hasC at hh
    rw [List.getElem?_eq_getElem hp] at hh
    simp only at hh
    obtain ⟨st, hst⟩ := Option.isSome_iff_exists.1 hh
    exact ⟨p, _, st, e, hp, List.getElem?_eq_getElem hp, hst⟩
  have hLl : L.length ≤ 4 := by rw [hL]; exact Nat.le_trans (ps_len _ _) hm'
  rw [← hL] at GA FIN ⊢
  rw [← FIN.out]
  clear hL FIN hb hC h hr hle hCn
  go_enter Try.func16, Try.ntmps16
  go_wp2_with fail
  refine RD.out.mono ?_
  rintro r w1 ⟨ob, d, rfl, -, b1⟩
  have B1 := hide b1
  clear b1 RD
  go_wp2_with fail
  refine (GA.out _ B1.out).mono ?_
  rintro r w6 ⟨o6, d6, rfl, ow6, b6⟩
  obtain ⟨o6', c6', e6, at6, nb6⟩ := own_at2 ow6
  simp only [Value.slice.injEq] at e6
  obtain ⟨rfl, -, rfl⟩ := e6
  have A6 := hide at6
  have B6 := hide (btr B1.out b6)
  have N6 : Hid (∀ a, o6 = some a → ¬ All Fs a.block) := by
    intro a e hf
    have h1 := nb6 a e
    have h2 := B1.out.size
    obtain ⟨i, hi⟩ := hf
    have := HQ.out.bd i _ hi
    omega
  have Q6 := hide (HQ.out.below frP B6.out)
  have C6 := hide (HC.out.below B6.out)
  have RS : Hid (∀ (p : Nat) (c : Ca) (st : St) (u : World), l[p]? = some c → nmB sts c.ch = some st → Below w6.heap.size w6 u → Calls Try.prog 39 #[.int .i64 g, cv c, .slice oc l.length cc, .slice oa bs.length cp] u fun r w' => r = .returned (.int .i64 0) ∧ Below u.heap.size u w') := by
    intro p c st u hp hst hu
    have qu := Q6.out.below frP hu
    rcases qu.nm c.ch with ⟨q1, q2⟩ | ⟨B, st', q1, q2, q3, q4, q5, q6, q7⟩
    · rw [q2] at hst; cases hst
    · rw [q2] at hst
      cases hst
      refine rehearse_ok g c oc l cc oa bs cp Fs sts B st u (C6.out.below hu) qu hm' hg0 q1 ?_ (HLE.out _ _ q6 _)
      intro v hv
      exact ⟨_, frP.sm q7 (Sm.below hv (qu.bd _))⟩
  clear at6 nb6 ow6 b6 GA HC HQ
  obtain ⟨n2, hn2⟩ : ∃ n2, L.length = n2 := ⟨_, rfl⟩
  rw [hn2] at MB hLl
  have HN2 := hide hn2
  rw [hn2]
  clear hn2
  go_wp2_with fail
  go_loopw [33] (fun i wz => ∃ (j : Nat), j ≤ n2 ∧ i = .int .i64 j ∧ Below w6.heap.size w6 wz) (fun i _ => n2 - (intOf i).toNat)
  case atStart => exact ⟨0, Nat.zero_le _, rfl, Below.refl _ _⟩
  case round =>
    obtain ⟨j, hj, rfl, b7⟩ := hrel
    have B7 := hide b7
    clear b7
    by_cases hjl : j < n2
    · have hjl' : (j : Int) < (n2 : Int) := by omega
      have hjn : j < L.length := by have := HN2.out; omega
      obtain ⟨p, c, st, ep, hp, hpc, hst⟩ := MB.out j hjl
      obtain ⟨b9, off9, e9, q9⟩ := A6.out.below B7.out j hjn
      rw [ep] at q9
      subst e9
      have hp' : (p : Int) < (l.length : Int) := by omega
      obtain ⟨bc, offc, rfl, c0, c1, c2⟩ := C6.out.below B7.out p c hpc
      have RSU := hide (RS.out p c st wr hpc hst B7.out)
      unfold cv at RSU
      clear hpc hst
      go_wp2_with fail
      refine RSU.out.mono ?_
      rintro r w9 ⟨rfl, b9'⟩
      have B9 := hide (btr B7.out b9')
      clear b9' c0 c1 c2 q9 RSU
      go_wp2_with fail
      go_roundw
      case rel => exact ⟨j + 1, by omega, by go_num, B9.out⟩
      case measure => simp [intOf]; omega
    · have hjl' : ¬ ((j : Int) < (n2 : Int)) := by omega
      clear RS
      have R0 := hide (Rz.same frP Q6.out B7.out)
      go_wp2_with fail
      go_loopw [51] (fun i wz => ∃ (j : Nat) (s : List (Option St)), j ≤ n2 ∧ i = .int .i64 j ∧ s = pkL g l sts (L.take j) ∧ Iv g l (1000 + j) s ∧ (∀ d, nmB s d = none ↔ nmB sts d = none) ∧ Rz Pp w6 wz oa bs Fs s) (fun i _ => n2 - (intOf i).toNat)
      case atStart => exact ⟨0, sts, Nat.zero_le _, rfl, rfl, IV0.out, fun _ => Iff.rfl, R0.out⟩
      case round =>
        clear R0 B7
        obtain ⟨j, s, hj, rfl, es, iv, hno, rz⟩ := hrel
        have ES := hide es
        have IV := hide iv
        have NO := hide hno
        have RZ := hide rz
        clear es iv hno rz
        by_cases hjl : j < n2
        · have hjl' : (j : Int) < (n2 : Int) := by omega
          have hjn : j < L.length := by have := HN2.out; omega
          obtain ⟨p, c, st0, ep, hp, hpc, hst⟩ := MB.out j hjl
          obtain ⟨Fs', nw, qs, kf⟩ := RZ.out
          obtain ⟨b9, off9, e9, q9⟩ := at_kf A6.out kf N6.out j hjn
          rw [ep] at q9
          subst e9
          have hp' : (p : Int) < (l.length : Int) := by omega
          obtain ⟨bc, offc, rfl, c0, c1, c2⟩ := C6.out.kf kf (HN.out (by omega)) p c hpc
          have TK : Hid (pk1 g p c s = pkL g l sts (L.take (j + 1))) := by
            show _ = _
            have e2 : L[j] = (p : Int) := by rw [← ep, nth_lt _ _ hjn]
            rw [List.take_succ_eq_append_getElem hjn, e2, pkL_app g l sts _ p c hpc, ES.out]
          have IVN := hide (IV.out.step hg0 (by omega) (List.mem_of_getElem? hpc) p)
          have NON : Hid (∀ d, nmB (pk1 g p c s) d = none ↔ nmB sts d = none) := fun d => (pk1_none g p c s d).trans (NO.out d)
          rcases qs.nm c.ch with ⟨q1, q2⟩ | ⟨B, st, q1, q2, q3, q4, q5, q6, q7⟩
          · have := (NO.out c.ch).1 q2
            rw [hst] at this
            cases this
          have OK := (IV.out.ok hg0 (by omega) (List.mem_of_getElem? hpc) q2 p).1
          have BX := below_alloc wr (.cells #[.bool c.sd, .int .i64 c.ch, .int .i64 c.v] 32)
          have XN := hide (heap_new wr (.cells #[.bool c.sd, .int .i64 c.ch, .int .i64 c.v] 32))
          have szx : (wr.alloc (.cells #[.bool c.sd, .int .i64 c.ch, .int .i64 c.v] 32)).heap.size = wr.heap.size + 1 := World.size_alloc _ _
          have NM : Hid (∀ u, Below (wr.alloc (.cells #[.bool c.sd, .int .i64 c.ch, .int .i64 c.v] 32)).heap.size (wr.alloc (.cells #[.bool c.sd, .int .i64 c.ch, .int .i64 c.v] 32)) u → Calls Try.prog 40 #[.int .i64 c.ch, .slice oa bs.length cp] u fun r w' => r = .returned (.pointer (some ⟨B, 0, none⟩)) ∧ w' = u) := by
            intro u hu
            have := named_any oa bs c.ch cp u (qs.row.below (btr BX hu))
            rw [q1] at this
            exact this
          have WT : Hid (∀ u, Below (wr.alloc (.cells #[.bool c.sd, .int .i64 c.ch, .int .i64 c.v] 32)).heap.size (wr.alloc (.cells #[.bool c.sd, .int .i64 c.ch, .int .i64 c.v] 32)) u → Calls Try.prog 24 #[.pointer (some ⟨B, 0, none⟩), .bool c.sd, wv ⟨g, p, c.v⟩] u fun r w' => r = .returned (.int .i64 0) ∧ Rz Pp w6 w' oa bs Fs (pk1 g p c s) ∧ (w'.cell? ⟨wr.heap.size, 0, none⟩ = some (.bool c.sd) ∧ w'.cell? ⟨wr.heap.size, 1, none⟩ = some (.int .i64 c.ch) ∧ w'.cell? ⟨wr.heap.size, 2, none⟩ = some (.int .i64 c.v))) := by
            intro u hu
            have bu := btr BX hu
            have pu : Pp u B (Fs' c.ch.toNat) st := frP.sm q7 (Sm.below bu (qs.bd _))
            refine (wait_any B _ st c.sd ⟨g, p, c.v⟩ u pu).mono ?_
            rintro r w9 ⟨rfl, k9, F9, n9, p9⟩
            have hX := k9.heap (heap_below XN.out hu) (fun hf => by have := qs.bd _ _ hf; omega)
            refine ⟨by rw [OK], ?_, cell_of hX 0, cell_of hX 1, cell_of hX 2⟩
            have r1 := Rz.trans nw kf (Rz.step frP qs bu q5 k9 n9 p9)
            unfold pk1
            rw [q2]
            exact r1
          unfold wv at WT
          simp only at WT
          clear hpc hst kf nw qs q1 q2 q3 q4 q5 q6 q7 OK BX szx IV NO RZ ES
          go_wp2_with fail
          have e0 : (wr.alloc (.cells #[.bool c.sd, .int .i64 c.ch, .int .i64 c.v] 32)).cell? ⟨wr.heap.size, 0, none⟩ = some (.bool c.sd) := cell_of XN.out 0
          have e1 : (wr.alloc (.cells #[.bool c.sd, .int .i64 c.ch, .int .i64 c.v] 32)).cell? ⟨wr.heap.size, 1, none⟩ = some (.int .i64 c.ch) := cell_of XN.out 1
          have e2 : (wr.alloc (.cells #[.bool c.sd, .int .i64 c.ch, .int .i64 c.v] 32)).cell? ⟨wr.heap.size, 2, none⟩ = some (.int .i64 c.v) := cell_of XN.out 2
          generalize wr.alloc (.cells #[.bool c.sd, .int .i64 c.ch, .int .i64 c.v] 32) = W1 at XN NM WT e0 e1 e2 ⊢
          generalize wr.heap.size = A at XN WT e0 e1 e2 ⊢
          have WA : Hid (∀ u, Calls Try.prog 41 #[.int .i64 g, .int .i64 (p : Int), .agg #[.bool c.sd, .int .i64 c.ch, .int .i64 c.v]] u fun r w' => r = .returned (.agg #[.int .i64 g, .int .i64 (p : Int), .int .i64 c.v]) ∧ Below u.heap.size u w') := fun u => waiter_any g p c u
          clear c0 c1 c2 q9
          go_region_held3 (fun w' => w'.cell? ⟨A, 0, none⟩ = some (.bool c.sd) ∧ w'.cell? ⟨A, 1, none⟩ = some (.int .i64 c.ch) ∧ w'.cell? ⟨A, 2, none⟩ = some (.int .i64 c.v))
            (first
              | go_keep
              | assumption
              | (go_split_ands
                 refine ⟨?_, ?_, ?_⟩ <;> (refine cellB ?_ k2; assumption)))
            (first
              | (go_at_call 40; refine (NM.out _ (by first | exact bdrew1 _ | exact btr (bdrew1 _) k2)).mono ?_; rintro r z1 ⟨rfl, rfl⟩)
              | (go_at_call 41; refine (WA.out _).mono ?_; rintro r z2 ⟨rfl, k2⟩)
              | (go_at_call 24; refine (WT.out _ (btr (bdrew1 _) k2)).mono ?_; rintro r z3 ⟨rfl, r3, h3⟩))
          all_goals (
            have R3 := hide r3
            clear h3 r3 k2 NM WT WA e0 e1 e2 XN
            go_wp2_with fail
            go_roundw
            case rel => exact ⟨j + 1, _, by omega, by go_num, TK.out, IVN.out, NON.out, R3.out⟩
            case measure => simp [intOf]; omega)
        · have hjl' : ¬ ((j : Int) < (n2 : Int)) := by omega
          have EE : Hid (s = pkL g l sts L) := by
            show _ = _
            rw [ES.out, List.take_of_length_le (by have := HN2.out; omega)]
          have RF : Hid (Rz Pp w wr oa bs Fs (pkL g l sts L)) := by
            show Rz _ _ _ _ _ _ _
            rw [← EE.out]
            exact Rz.trans (NwA.refl _ _) (KF.of B6.out) RZ.out
          go_wp2_with fail
          go_ret2
          exact ⟨by rw [HN2.out]; rfl, RF.out⟩
/-- Park, whatever its arguments are -/
theorem park_any (g : Int) (oc : Option Addr) (l : List Ca) (cc : Nat) (oa : Option Addr) (bs : List (Option Nat)) (cp : Nat) (Fs : Nat → Nat → Prop) (sts : List (Option St)) (w : World) (hC : CaAt w oc l) (hCn : 0 < l.length → ∀ a, oc = some a → ¬ All Fs a.block) (h : Qs Pp w oa bs Fs sts) (hle : ∀ (i : Nat) (st : St), sts[i]? = some (some st) → ∀ b, (own st b).length ≤ 1000) :
    Calls Try.prog 16 #[.int .i64 g, .slice oc l.length cc, .slice oa bs.length cp] w fun r w' => r = .returned (.tuple #[.int .i64 (pkN g l sts), .int .i64 (pkE g l sts)]) ∧ Rz Pp w w' oa bs Fs (pkA g l sts) := by
  unfold pkN pkE pkA
  cases hb : pkBad g l
  · simp only [Bool.false_eq_true, if_false]
    by_cases hr : 0 < (rdyL l sts).length
    · simp only [if_pos hr]
      refine (park_ready g oc l cc oa bs cp Fs sts w hC h hb hr).mono ?_
      rintro r w1 ⟨e, b1⟩
      exact ⟨e, Rz.same frP h b1⟩
    · simp only [if_neg hr]
      exact park_ok g oc l cc oa bs cp Fs sts w hC hCn h hb (List.eq_nil_of_length_eq_zero (by omega)) hle
  · simp only [if_true]
    refine (park_bad g oc l cc oa bs.length cp w hb).mono ?_
    rintro r w1 ⟨e, b1⟩
    exact ⟨e, Rz.same frP h b1⟩
end Fk
end Go.Proofs.Ytdcmlimglajpkaa
