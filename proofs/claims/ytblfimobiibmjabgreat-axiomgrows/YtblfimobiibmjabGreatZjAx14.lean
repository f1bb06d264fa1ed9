import Derived.Test.YtblfimobiibmjabGreatZjAx13
import Derived.ScopeJumps
import Derived.Shelf.Strings.BuilderK
namespace Go.Proofs.YtblfimobiibmjabGreat
open Go.ChangeShapes Go.WideShapes Go.ChangeAt Go.RowKit
namespace Fk
open Ba Pe _root_.Go.Proofs.YtblfimobiibmjabGreat.Pi Rp
set_option maxRecDepth 100000 in
theorem rpark_bad (g : Int) (oc : Option Addr) (l : List Ca) (cc : Nat) (oa : Option Addr) (n : Nat) (cp : Nat) (w : World) (h : pkBad g l = true) :
 Calls Tryz.prog 70 #[.int .i64 g, .slice oc l.length cc, .slice oa n cp] w fun r w' => r = .returned (.tuple #[.int .i64 0, .int .i64 1]) ∧ Below w.heap.size w w' := by
 unfold pkBad at h
 generalize l.length = m at h ⊢
 by_cases hg : g < 0
 ·clear h
  go_enter Tryz.func70, Tryz.ntmps70
  go_wp2_with fail
  go_ret2
  exact ⟨rfl, Below.refl _ _⟩
 ·have hm : (4 : Int) < (m : Int) := by simp [hg] at h; omega
  clear h
  go_enter Tryz.func70, Tryz.ntmps70
  go_wp2_with fail
  go_ret2
  exact ⟨rfl, Below.refl _ _⟩
set_option maxRecDepth 100000 in
theorem rpark_ready (g : Int) (oc : Option Addr) (l : List Ca) (cc : Nat) (oa : Option Addr) (bs : List (Option Nat)) (cp : Nat) (Fs : Nat → Nat → Prop) (sts : List (Option St)) (w : World) (hC : CaAt w oc l) (h : Qs Rr w oa bs Fs sts) (hb : pkBad g l = false) (hr : 0 < (rdyL l sts).length) :
 Calls Tryz.prog 70 #[.int .i64 g, .slice oc l.length cc, .slice oa bs.length cp] w fun r w' => r = .returned (.tuple #[.int .i64 0, .int .i64 7]) ∧ Below w.heap.size w w' := by
 unfold pkBad at hb
 simp only [Bool.or_eq_false_iff, decide_eq_false_iff_not] at hb
 have hg : ¬ g < 0 := hb.1
 have hm' : l.length ≤ 4 := by omega
 have RD := hide (rreadyL_any oc l cc oa bs cp Fs sts w hC h (by omega))
 have hm : ¬ (4 : Int) < (l.length : Int) := by omega
 have hr' : (0 : Int) < ((rdyL l sts).length : Int) := by omega
 clear hb hC h hr
 generalize hR : (rdyL l sts).length = R at RD hr'
 generalize l.length = m at RD hm hm' ⊢
 clear hR
 go_enter Tryz.func70, Tryz.ntmps70
 go_wp2_with fail
 refine RD.out.mono ?_
 rintro r w1 ⟨ob, d, rfl, -, b1⟩
 have B1 := hide b1
 clear b1
 go_wp2_with fail
 go_ret2
 exact ⟨rfl, B1.out⟩
set_option maxRecDepth 100000 in
set_option maxHeartbeats 6400000 in
theorem rpark_ok (g : Int) (oc : Option Addr) (l : List Ca) (cc : Nat) (oa : Option Addr) (bs : List (Option Nat)) (cp : Nat) (Fs : Nat → Nat → Prop) (sts : List (Option St)) (w : World) (hC : CaAt w oc l) (hCn : 0 < l.length → ∀ a, oc = some a → ¬ All Fs a.block) (h : Qs Rr w oa bs Fs sts) (hb : pkBad g l = false) (hr : rdyL l sts = []) (hle : ∀ (i : Nat) (st : St), sts[i]? = some (some st) → ∀ b, (own st b).length ≤ 1000) :
 Calls Tryz.prog 70 #[.int .i64 g, .slice oc l.length cc, .slice oa bs.length cp] w fun r w' => r = .returned (.tuple #[.int .i64 ((ps (hasC sts l) l.length).length : Int), .int .i64 0]) ∧ Rz Rr w w' oa bs Fs (pkS g l sts l.length) := by
 unfold pkBad at hb
 simp only [Bool.or_eq_false_iff, decide_eq_false_iff_not] at hb
 have hg : ¬ g < 0 := hb.1
 have hg0 : 0 ≤ g := by omega
 have hm' : l.length ≤ 4 := by omega
 have hm : ¬ (4 : Int) < (l.length : Int) := by omega
 have IV0 := hide (Iv.start (g := g) hr hle)
 have RD := hide (rreadyL_any oc l cc oa bs cp Fs sts w hC h (by omega))
 rw [hr] at RD
 simp only [List.length_nil] at RD
 have HC := hide hC
 have HQ := hide h
 have HN := hide hCn
 obtain ⟨P, hP⟩ : ∃ P, P = hasC sts l := ⟨_, rfl⟩
 rw [← hP]
 have HP := hide hP
 clear hb hC h hr hle hCn hP
 go_enter Tryz.func70, Tryz.ntmps70
 go_wp2_with fail
 refine RD.out.mono ?_
 rintro r w1 ⟨ob, d, rfl, -, b1⟩
 have R0 := hide (Rz.same frR HQ.out b1)
 clear b1 RD
 go_wp2_with fail
 go_loopw [8, 26] (fun rn i wz => ∃ (k : Nat), k ≤ l.length ∧ i = .int .i64 k ∧ rn = .int .i64 ((ps P k).length : Int) ∧ Rz Rr w wz oa bs Fs (pkS g l sts k)) (fun _ i _ => l.length - (intOf i).toNat)
 case atStart => exact ⟨0, Nat.zero_le _, rfl, rfl, R0.out⟩
 case round =>
  clear R0
  obtain ⟨k, hk, rfl, rfl, rz⟩ := hrel
  have RZ := hide rz
  clear rz
  have SU := hide (ps_succ P k)
  have hpl := ps_len P k
  by_cases hkl : k < l.length
  ·have hkl' : (k : Int) < (l.length : Int) := by omega
   obtain ⟨c, hc⟩ : ∃ c, l[k]? = some c := ⟨_, List.getElem?_eq_getElem hkl⟩
   obtain ⟨Fs', nw, qs, kf⟩ := RZ.out
   obtain ⟨bc, offc, rfl, c0, c1, c2⟩ := HC.out.kf kf (HN.out (by omega)) k c hc
   have IV := IV0.out.all hg0 k (by omega)
   have SK : Hid (pkS g l sts (k + 1) = pk1 g k c (pkS g l sts k)) := by
    show _ = _
    rw [pkS, hc]
   have PK : Hid (P k = (nmB sts c.ch).isSome) := by
    show _ = _
    rw [HP.out]
    unfold hasC
    rw [hc]
   have NN := pkS_none g l sts k c.ch
   have BX := below_alloc wr (.cells #[.bool c.sd, .int .i64 c.ch, .int .i64 c.v] 97)
   have XN := hide (heap_new wr (.cells #[.bool c.sd, .int .i64 c.ch, .int .i64 c.v] 97))
   have NM := hide (rnamed_any oa bs c.ch cp _ (qs.row.below BX))
   generalize pkS g l sts k = s at RZ qs IV SK NN
   rcases qs.nm c.ch with ⟨q1, q2⟩ | ⟨B, st, q1, q2, q3, q4, q5, q6, q7⟩
   ·rw [q1] at NM
    simp only [pt, Option.map_none] at NM
    have RN : Hid (Rz Rr w (wr.alloc (.cells #[.bool c.sd, .int .i64 c.ch, .int .i64 c.v] 97)) oa bs Fs (pkS g l sts (k + 1))) := by
     show Rz _ _ _ _ _ _ _
     rw [SK.out]
     unfold pk1
     rw [q2]
     exact RZ.out.below frR BX
    have LN : Hid ((ps P (k + 1)).length = (ps P k).length) := by
     show _ = _
     rw [SU.out, PK.out, NN.1 q2]
     rfl
    clear hc nw qs kf IV NN BX q1 q2 RZ
    go_wp2_with fail
    generalize wr.alloc (.cells #[.bool c.sd, .int .i64 c.ch, .int .i64 c.v] 97) = W1 at XN NM RN ⊢
    generalize wr.heap.size = A at XN ⊢
    refine NM.out.mono ?_
    rintro r z1 ⟨rfl, rfl⟩
    go_wp2_with fail
    go_roundw
    case rel => exact ⟨k + 1, by omega, by go_num, by rw [LN.out], RN.out⟩
    case measure => simp [intOf]; omega
   ·rw [q1] at NM
    simp only [pt, Option.map_some] at NM
    have OK := (IV.ok hg0 (by omega) (List.mem_of_getElem? hc) q2 k).1
    have WT : Hid (Calls Tryz.prog 63 #[.pointer (some ⟨B, 0, none⟩), .bool c.sd, wv ⟨g, k, c.v⟩] (wr.alloc (.cells #[.bool c.sd, .int .i64 c.ch, .int .i64 c.v] 97)) fun r w' => r = .returned (.int .i64 0) ∧ Rz Rr w w' oa bs Fs (pkS g l sts (k + 1))) := by
     have pu : Rr (wr.alloc (.cells #[.bool c.sd, .int .i64 c.ch, .int .i64 c.v] 97)) B (Fs' c.ch.toNat) st := frR.sm q7 (Sm.below BX (qs.bd _))
     refine (rwait_any B _ st c.sd ⟨g, k, c.v⟩ _ pu).mono ?_
     rintro r w9 ⟨rfl, k9, F9, n9, p9⟩
     refine ⟨by rw [OK], ?_⟩
     have r1 := Rz.trans nw kf (Rz.step frR qs BX q5 k9 n9 p9)
     rw [SK.out]
     unfold pk1
     rw [q2]
     exact r1
    have LN : Hid ((ps P (k + 1)).length = (ps P k).length + 1) := by
     show _ = _
     have hS : (nmB sts c.ch).isSome = true := by
      cases hq : nmB sts c.ch with
      | none => rw [NN.2 hq] at q2; cases q2
      | some _ => rfl
     rw [SU.out, PK.out, hS]
     simp
    unfold wv at WT
    clear hc nw qs kf IV NN BX q1 q2 q3 q4 q5 q6 q7 OK RZ
    go_wp2_with fail
    generalize wr.alloc (.cells #[.bool c.sd, .int .i64 c.ch, .int .i64 c.v] 97) = W1 at XN NM WT ⊢
    generalize wr.heap.size = A at XN ⊢
    refine NM.out.mono ?_
    rintro r z1 ⟨rfl, rfl⟩
    have e0 : z1.cell? ⟨A, 0, none⟩ = some (.bool c.sd) := cell_of XN.out 0
    have e2 : z1.cell? ⟨A, 2, none⟩ = some (.int .i64 c.v) := cell_of XN.out 2
    go_wp2_with fail
    refine WT.out.mono ?_
    rintro r z2 ⟨rfl, r2⟩
    have R2 := hide r2
    clear r2 e0 e2
    go_wp2_with fail
    go_roundw
    case rel => exact ⟨k + 1, by omega, by go_num, by rw [LN.out]; go_num, R2.out⟩
    case measure => simp [intOf]; omega
  ·have hkl' : ¬ ((k : Int) < (l.length : Int)) := by omega
   obtain rfl : k = l.length := by omega
   go_wp2_with fail
   go_ret2
   exact ⟨rfl, RZ.out⟩
theorem rpark_any (g : Int) (oc : Option Addr) (l : List Ca) (cc : Nat) (oa : Option Addr) (bs : List (Option Nat)) (cp : Nat) (Fs : Nat → Nat → Prop) (sts : List (Option St)) (w : World) (hC : CaAt w oc l) (hCn : 0 < l.length → ∀ a, oc = some a → ¬ All Fs a.block) (h : Qs Rr w oa bs Fs sts) (hle : ∀ (i : Nat) (st : St), sts[i]? = some (some st) → ∀ b, (own st b).length ≤ 1000) :
 Calls Tryz.prog 70 #[.int .i64 g, .slice oc l.length cc, .slice oa bs.length cp] w fun r w' => r = .returned (.tuple #[.int .i64 (pkN g l sts), .int .i64 (pkE g l sts)]) ∧ Rz Rr w w' oa bs Fs (pkA g l sts) := by
 unfold pkN pkE pkA
 cases hb : pkBad g l
 ·simp only [Bool.false_eq_true, if_false]
  by_cases hr : 0 < (rdyL l sts).length
  ·simp only [if_pos hr]
   refine (rpark_ready g oc l cc oa bs cp Fs sts w hC h hb hr).mono ?_
   rintro r w1 ⟨e, b1⟩
   exact ⟨e, Rz.same frR h b1⟩
  ·simp only [if_neg hr]
   exact rpark_ok g oc l cc oa bs cp Fs sts w hC hCn h hb (List.eq_nil_of_length_eq_zero (by omega)) hle
 ·simp only [if_true]
  refine (rpark_bad g oc l cc oa bs.length cp w hb).mono ?_
  rintro r w1 ⟨e, b1⟩
  exact ⟨e, Rz.same frR h b1⟩
end Fk
end Go.Proofs.YtblfimobiibmjabGreat
namespace Go.Proofs.YtblfimobiibmjabGreat
open Go.ChangeShapes Go.WideShapes Go.ChangeAt Go.RowKit
namespace Rlo
open Ba Lo
theorem cat_tq {col col' : Nat → Nat} {w w' : World} {N : Nat} {oc : Option Addr} {cs : List De.Cs} (h : De.CAt w oc cs) (hn : 0 < cs.length → ∀ a, oc = some a → a.block < N) (h6 : ∀ x, x < N → col x = 6) (t : Tq col col' w w') : De.CAt w' oc cs := by
 intro k x hx
 obtain ⟨b, off, e, q0, q1, q2⟩ := h k x hx
 have h7 := h6 b (hn (Nat.lt_of_le_of_lt (Nat.zero_le k) (List.getElem?_eq_some_iff.1 hx).1) _ e)
 exact ⟨b, off, e, t.cell q0 (by rw [h7]; omega), t.cell q1 (by rw [h7]; omega), t.cell q2 (by rw [h7]; omega)⟩
set_option maxRecDepth 100000 in
set_option maxHeartbeats 3200000 in
theorem choose_r (L N : Nat) (col : Nat → Nat) (s : Lm) (K : Nat) (g : Int) (ok_ oa_ ob_ : Int) (cs : List De.Cs) (df : Bool) (oc : Option Addr) (cc : Nat) (w : World) (h : RW w col L N s) (ok : Ok K s) (hK : K ≤ 99000)
 (hC : De.CAt w oc cs) (hCn : 0 < cs.length → ∀ a, oc = some a → a.block < N) (h4 : cs.length ≤ 4) (hcs : ∀ c ∈ cs, 0 ≤ c.ch ∧ c.ch ≤ 7) :
 Calls Tryz.prog 43 #[.pointer (some ⟨L, 0, none⟩), .int .i64 g, .agg #[.int .i64 ok_, .int .i64 oa_, .int .i64 ob_, .slice oc cs.length cc, .bool df]] w fun r w' => r = .returned (.tuple #[]) ∧ ∃ col', RW w' col' L N (chooseR s g ⟨ok_, oa_, ob_, cs, df⟩) ∧ Tq col col' w w' := by
 obtain ⟨C, B, FB, hd, pa, pc, oa, oc1, bs, Fs, cs1, ta, tc, h⟩ := h
 obtain ⟨col1, h1, t1, n1⟩ := h.below (below_alloc w (.cells #[.int .i64 ok_, .int .i64 oa_, .int .i64 ob_, .slice oc cs.length cc, .bool df] 43))
 have T1 := hide t1
 have H1 := hide h1
 have E1 := hide (heap_new w (.cells #[.int .i64 ok_, .int .i64 oa_, .int .i64 ob_, .slice oc cs.length cc, .bool df] 43))
 have N1 := hide (n1 w.heap.size (Nat.le_refl _))
 have C1 := hide (hC.below (below_alloc w (.cells #[.int .i64 ok_, .int .i64 oa_, .int .i64 ob_, .slice oc cs.length cc, .bool df] 43)))
 have CN := hide hCn
 have PI := hide (fun u (hb : Below (w.alloc (.cells #[.int .i64 ok_, .int .i64 oa_, .int .i64 ob_, .slice oc cs.length cc, .bool df] 43)).heap.size (w.alloc (.cells #[.int .i64 ok_, .int .i64 oa_, .int .i64 ob_, .slice oc cs.length cc, .bool df] 43)) u) => pipes_q (w.alloc (.cells #[.int .i64 ok_, .int .i64 oa_, .int .i64 ob_, .slice oc cs.length cc, .bool df] 43)) u H1.out hb)
 have hm : (cs.map cav).length = cs.length := List.length_map _
 have RD := hide (fun u ob d (hc : De.CAt u oc cs) (hq : Fk.Qs Rp.Rr u ob (vw s.nm bs) (Fv s.nm Fs) s.sts) => Fk.rreadyL_any oc (cs.map cav) cc ob (vw s.nm bs) d (Fv s.nm Fs) s.sts u (ca_at hc) hq (by rw [hm]; omega))
 rw [hm] at RD
 have OK := hide ok
 have HCS := hide hcs
 have PA := hide (fun h0 => pick_at (s := s) (o := ⟨ok_, oa_, ob_, cs, df⟩) h0 h4 ok.dd)
 obtain ⟨R, hR⟩ : ∃ R, chooseR s g ⟨ok_, oa_, ob_, cs, df⟩ = R := ⟨_, rfl⟩
 rw [hR]
 unfold chooseR at hR
 unfold cas at PA hR
 simp only at hR PA
 have HR := hide hR
 have RL : Hid ((Fk.rdyL (cs.map cav) s.sts).length ≤ 4) := Nat.le_trans (rdyL_len _ _) (by rw [hm]; exact h4)
 have c3 : (w.alloc (.cells #[.int .i64 ok_, .int .i64 oa_, .int .i64 ob_, .slice oc cs.length cc, .bool df] 43)).cell? ⟨w.heap.size, 3, none⟩ = some (.slice oc cs.length cc) := cell_of E1.out 3
 clear h t1 h1 n1 ok hR hcs hC hCn
 go_enter Tryz.func43, Tryz.ntmps43
 go_wp2_with fail
 go_region_held3 (fun w' => w'.cell? ⟨w.heap.size, 3, none⟩ = some (.slice oc cs.length cc))
  (first | (go_keep; done) | (exact y3) | (exact y3b))
  (first
    | (go_at_call 60; refine (PI.out _ (bdrew1 _)).mono ?_; rintro r w2 ⟨ob, d, rfl, q2, b2⟩; have hb2 := btr (bdrew1 (w.alloc (.cells #[.int .i64 ok_, .int .i64 oa_, .int .i64 ob_, .slice oc cs.length cc, .bool df] 43))) b2; have Y2 := hide (heap_below E1.out hb2); have y3 : w2.cell? ⟨w.heap.size, 3, none⟩ = some (.slice oc cs.length cc) := cell_of Y2.out 3)
    | (go_at_call 68; refine (RD.out _ ob d (C1.out.below hb2) q2).mono ?_; rintro r w3 ⟨o3, d3, rfl, ow3, b3⟩; have hb3 := btr hb2 b3; have y3b : w3.cell? ⟨w.heap.size, 3, none⟩ = some (.slice oc cs.length cc) := cell_of (heap_below E1.out hb3) 3))
 obtain ⟨col3, h3, t3, n3⟩ := H1.out.below hb3
 have H3 := hide h3
 have T3 := hide (T1.out.trans t3)
 have N3 : Hid (col3 w.heap.size = 7) := (t3.old _ (heap_lt E1.out) (by rw [N1.out]; omega)).trans N1.out
 have E3 := hide (heap_below E1.out hb3)
 have C3 := hide (C1.out.below hb3)
 have AT : Hid (∀ k, k < (Fk.rdyL (cs.map cav) s.sts).length → ∃ b off, o3 = some ⟨b, off, none⟩ ∧ w3.cell? ⟨b, off + k, none⟩ = some (.int .i64 (nth (Fk.rdyL (cs.map cav) s.sts) k)) ∧ col3 b = 7) := fun k hk => by
  obtain ⟨oa', c', e, hA, _⟩ := Rp.own_at ow3
  cases e
  obtain ⟨b, off, e2, hc⟩ := hA k hk
  subst e2
  exact ⟨b, off, rfl, hc, n3 b (Nat.le_trans hb2.size (ow3.lt b rfl).1)⟩
 have hE3 := heap_lt E3.out
 rename_i hH2
 clear hH2 h3 t3 n3 b2 b3 hb2 hb3 q2 ow3 Y2 y3 y3b PI RD T1 H1 E1 N1 C1 c3
 rcases Nat.eq_zero_or_pos (Fk.rdyL (cs.map cav) s.sts).length with hn | hn
 ·have hR := HR.out
  rw [if_neg (by omega)] at hR
  rw [hn]
  cases df
  ·simp only [Bool.false_eq_true, if_false] at hR
   have HR2 := hide hR
   have e4 : w3.cell? ⟨w.heap.size, 4, none⟩ = some (.bool false) := cell_of E3.out 4
   clear HR hR AT PA RL
   go_wp2_with fail
   refine (bare_r 6 g _).mono ?_
   rintro r w5 ⟨rfl, b5⟩
   unfold En.evv En.evc bareE
   obtain ⟨col6, h6, t6, n6⟩ := H3.out.below (btr b5 (below_alloc w5 (.cells #[.int .i64 6, .int .i64 g, .int .i64 (-1), .int .i64 (cs.length : Int), .int .i64 0, .int .i64 (-1), .bool false, .bool false] 29)))
   have s5 := b5.size
   have hE5 : w.heap.size < w5.heap.size := by omega
   have T6 := hide (T3.out.trans t6)
   have E6 := hide (t6.heap E3.out N3.out)
   have N6 : Hid (col6 w.heap.size = 7) := (t6.old _ (heap_lt E3.out) (by rw [N3.out]; omega)).trans N3.out
   have C6 := hide (cat_tq C3.out CN.out H3.out.c6 t6)
   have x3 : w5.cell? ⟨w.heap.size, 3, none⟩ = some (.slice oc cs.length cc) := cell_of (heap_below E3.out b5) 3
   have NO := hide (note_x (⟨6, g, -1, (cs.length : Int), 0, -1, false, false⟩ : Ev) _ h6 (by have := OK.out.tn; omega))
   have D6 := hide h6.c6
   unfold En.evv En.evc at NO
   clear h6 t6 n6 H3 T3 E3 N3 C3 b5 e4
   go_wp2_with fail
   refine NO.out.mono ?_
   rintro r w7 ⟨rfl, ta7, tc7, col7, h7, t7⟩
   have T7 := hide (T6.out.trans t7)
   have E7 := hide (t7.heap E6.out N6.out)
   have N7 : Hid (col7 w.heap.size = 7) := (t7.old _ (heap_lt E6.out) (by rw [N6.out]; omega)).trans N6.out
   have C7 := hide (cat_tq C6.out CN.out D6.out t7)
   have H7 := hide h7
   have PI := hide (pipes_q w7 w7.drew h7 (bdrew1 _))
   have PK := hide (fun u ob d (hc : De.CAt u oc cs) (hq : Fk.Qs Rp.Rr u ob (vw s.nm bs) (Fv s.nm Fs) s.sts) => Fk.rpark_any g oc (cs.map cav) cc ob (vw s.nm bs) d (Fv s.nm Fs) s.sts u (ca_at hc) (by
    rw [hm]
    rintro h0 a e ⟨i, i8, i0, hf⟩
    have q4 := H7.out.c4 _ _ hf
    rw [H7.out.c6 a.block (CN.out h0 a e)] at q4
    omega) hq OK.out.wl)
   rw [hm] at PK
   have x3 : w7.cell? ⟨w.heap.size, 3, none⟩ = some (.slice oc cs.length cc) := cell_of E7.out 3
   clear h7 t7 NO T6 E6 N6 C6 D6
   go_wp2_with fail
   go_region_held3 (fun w' => w'.cell? ⟨w.heap.size, 3, none⟩ = some (.slice oc cs.length cc))
    (first | (go_keep; done) | (exact y3) | (exact y3b))
    (first
      | (go_at_call 60; refine PI.out.mono ?_; rintro r w8 ⟨ob, d, rfl, q8, b8⟩; have hb8 := btr (bdrew1 w7) b8; have Y8 := hide (heap_below E7.out hb8); have y3 : w8.cell? ⟨w.heap.size, 3, none⟩ = some (.slice oc cs.length cc) := cell_of Y8.out 3)
      | (go_at_call 70; refine (PK.out _ ob d (C7.out.below hb8) q8).mono ?_; rintro r w9 ⟨rfl, p9⟩; obtain ⟨Fs9, cs9, col9, h9, t9, -⟩ := H7.out.back hb8 p9; have y3b : w9.cell? ⟨w.heap.size, 3, none⟩ = some (.slice oc cs.length cc) := cell_of (t9.heap E7.out N7.out) 3))
   have H9 := hide h9
   have T9 := hide (T7.out.trans t9)
   have ya := cell_of h9.hp 6
   simp [rcs] at ya
   have TU := hide (Cr.rturn01 B FB s.cr K g w9 h9.cr OK.out.cb (by omega))
   rename_i hH9
   clear hH9 h9 t9 p9 q8 b8 hb8 Y8 y3 y3b PK PI
   go_wp2_with fail
   refine TU.out.mono ?_
   rintro r wb ⟨rfl, pb⟩
   obtain ⟨FBb, colb, hb, tb⟩ := H9.out.crew pb
   have Hb := hide hb
   have Tb := hide (T9.out.trans tb)
   clear hb tb pb TU
   go_wp2_with fail
   go_end0
   refine ⟨rfl, colb, ?_, Tb.out⟩
   rw [← HR2.out]
   exact Hb.out.lw
  ·simp only [if_true] at hR
   have HR2 := hide hR
   have e4 : w3.cell? ⟨w.heap.size, 4, none⟩ = some (.bool true) := cell_of E3.out 4
   clear HR hR AT PA RL C3
   go_wp2_with fail
   refine (bare_r 8 g _).mono ?_
   rintro r w5 ⟨rfl, b5⟩
   unfold En.evv En.evc bareE
   obtain ⟨col6, h6, t6, -⟩ := H3.out.below b5
   have T6 := hide (T3.out.trans t6)
   have NO := hide (note_x (bareE 8 g) _ h6 (by have := OK.out.tn; omega))
   unfold En.evv En.evc bareE at NO
   clear h6 t6 b5
   go_wp2_with fail
   refine NO.out.mono ?_
   rintro r w7 ⟨rfl, ta7, tc7, col7, h7, t7⟩
   have H7 := hide h7
   have T7 := hide (T6.out.trans t7)
   have ya := cell_of h7.hp 6
   simp [rcs] at ya
   have TU := hide (Cr.rturn00 B FB s.cr K g w7 h7.cr OK.out.cb (by omega))
   clear h7 t7 NO
   go_wp2_with fail
   refine TU.out.mono ?_
   rintro r wb ⟨rfl, pb⟩
   obtain ⟨FBb, colb, hb, tb⟩ := H7.out.crew pb
   have Hb := hide hb
   have Tb := hide (T7.out.trans tb)
   clear hb tb pb TU
   go_wp2_with fail
   refine bodyPost_ret (results_none rfl _ _ _) rfl ⟨rfl, colb, ?_, Tb.out⟩
   rw [← HR2.out]
   exact Hb.out.lw
 ·have hR := HR.out
  rw [if_pos hn] at hR
  obtain ⟨i, p, c, hi, hin, hnp, hpp, hcx, hca, hrd⟩ := PA.out hn
  rw [hca, hpp] at hR
  have hcm : c ∈ cs := List.mem_of_getElem? hcx
  obtain ⟨hc0, hc7⟩ := HCS.out c hcm
  obtain ⟨kc, hkc⟩ : ∃ kc : Nat, c.ch = (kc : Int) := ⟨c.ch.toNat, by omega⟩
  have hk8 : kc < 8 := by omega
  have hcv : cav c = ⟨c.send, (kc : Int), c.val⟩ := by unfold cav; rw [hkc]
  rw [hcv] at hR
  have hpl : p < cs.length := (List.getElem?_eq_some_iff.1 hcx).1
  obtain ⟨rb, ro, hob, hrc, hrb⟩ := AT.out i hin
  subst hob
  rw [hnp] at hrc
  obtain ⟨cb, co, hoc, k0, k1, k2⟩ := C3.out p c hcx
  subst hoc
  rw [hkc] at k1
  have hcb : col3 cb = 6 := H3.out.c6 cb (CN.out (by omega) _ rfl)
  obtain ⟨n, hnn⟩ : ∃ n, (Fk.rdyL (cs.map cav) s.sts).length = n := ⟨_, rfl⟩
  rw [hnn] at hR hn hin hi ⊢
  have DW := hide (Pk.rdraw_any C N s.p s.d (n : Int) w3 H3.out.cu H3.out.nc OK.out.dd)
  rw [hi] at DW
  have y1 := cell_of H3.out.hp 5
  simp [rcs] at y1
  have HR2 := hide hR
  clear HR hR AT PA RL hca hpp hnp HCS hi hrd hcx hcv hkc hcm
  have hnI : (0 : Int) < (n : Int) := by omega
  go_wp2_with fail
  refine DW.out.mono ?_
  rintro r w4 ⟨rfl, cu4, kb4⟩
  obtain ⟨col4, h4', t4⟩ := H3.out.cursor cu4 kb4
  have T4 := hide (T3.out.trans t4)
  have m0 : w4.cell? ⟨rb, ro + i, none⟩ = some (.int .i64 (p : Int)) := t4.cell hrc (by rw [hrb]; omega)
  have m1 : w4.cell? ⟨cb, co + p * 3, none⟩ = some (.bool c.send) := t4.cell k0 (by rw [hcb]; omega)
  have m2 : w4.cell? ⟨cb, co + p * 3 + 1, none⟩ = some (.int .i64 (kc : Int)) := t4.cell k1 (by rw [hcb]; omega)
  have m3 : w4.cell? ⟨cb, co + p * 3 + 2, none⟩ = some (.int .i64 c.val) := t4.cell k2 (by rw [hcb]; omega)
  have m4 : w4.cell? ⟨w.heap.size, 3, none⟩ = some (.slice (some ⟨cb, co, none⟩) cs.length cc) := t4.cell (cell_of E3.out 3) (by rw [N3.out]; omega)
  have TY := hide (talk_any L N col4 _ K g (p : Int) c.send kc c.val w4 h4'.lw (OK.out.draw n) hK hk8)
  clear cu4 kb4 h4' t4 H3 T3 hrc k0 k1 k2 E3 N3 C3 DW y1
  have i0 : (0 : Int) ≤ (i : Int) := by omega
  have i1 : (i : Int) < (n : Int) := by omega
  have p0 : (0 : Int) ≤ (p : Int) := by omega
  have p1 : (p : Int) < (cs.length : Int) := by omega
  go_wp2_with fail
  refine TY.out.mono ?_
  rintro r w5 ⟨rfl, col5, h5, t5⟩
  have H5 := hide h5
  have T5 := hide (T4.out.trans t5)
  clear h5 t5 TY
  go_wp2_with fail
  refine bodyPost_ret (results_none rfl _ _ _) rfl ⟨rfl, col5, ?_, T5.out⟩
  rw [← HR2.out]
  exact H5.out
end Rlo
end Go.Proofs.YtblfimobiibmjabGreat
namespace Go.Proofs.YtblfimobiibmjabGreat
open Go.ChangeShapes Go.WideShapes Go.ChangeAt Go.RowKit
namespace Rlo
open Ba Lo
theorem rcs_num (q : Hd) (pa : Option Addr) (n pc C B : Nat) (oa : Option Addr) (cn oc : Nat) (nm : List Int) (ta : Option Addr) (tn tc : Nat) (pk : Bool) (k : Nat) (v : Int) (hl : nm.length = 8) (hk : k < 8) :
 (rcs q pa n pc C B oa cn oc nm ta tn tc pk).setIfInBounds (8 + k) (.int .i64 v) = rcs q pa n pc C B oa cn oc (nm.set k v) ta tn tc pk := by
 obtain ⟨a0, a1, a2, a3, a4, a5, a6, a7, rfl⟩ := eight hl
 rcases (show k = 0 ∨ k = 1 ∨ k = 2 ∨ k = 3 ∨ k = 4 ∨ k = 5 ∨ k = 6 ∨ k = 7 by omega) with rfl | rfl | rfl | rfl | rfl | rfl | rfl | rfl <;> rfl
theorem nth_set8 (m : List Int) (k j : Nat) (x : Int) (hk : k < m.length) : nth (m.set k x) j = if j = k then x else nth m j := by
 unfold nth
 by_cases h : j = k
 ·subst h
  simp [hk]
 ·rw [if_neg h, List.getD_eq_getElem?_getD, List.getD_eq_getElem?_getD, List.getElem?_set_ne (fun e => h e.symm)]
theorem NI.more {nm : List Int} {n k : Nat} (h : NI nm n) (hk : k < 8) : NI (nm.set k (n : Int)) (n + 1) := by
 have hl := h.len
 refine ⟨by rw [List.length_set]; exact hl, fun i hi => ?_, fun i hi => ?_, fun i j hi hj h0 e => ?_⟩
 ·rw [nth_set8 _ _ _ _ (by omega)]
  have := h.lt i hi
  split <;> omega
 ·rw [nth_set8 _ _ _ _ (by omega)]
  have := h.ge i hi
  split <;> omega
 ·rw [nth_set8 _ _ _ _ (by omega)] at h0 e
  rw [nth_set8 _ _ _ _ (by omega)] at e
  have l1 := h.lt i hi
  have l2 := h.lt j hj
  by_cases e1 : i = k
  ·by_cases e2 : j = k
   ·omega
   ·rw [if_pos e1, if_neg e2] at e
    omega
  ·by_cases e2 : j = k
   ·rw [if_neg e1, if_pos e2] at e
    omega
   ·rw [if_neg e1] at h0
    rw [if_neg e1, if_neg e2] at e
    exact h.inj i j hi hj h0 e
theorem vw_more {nm : List Int} {k : Nat} {cs : List (Option St)} {x : Option St} (h : NI nm cs.length) (hk : k < 8) : (vw nm cs).set k x = vw (nm.set k (cs.length : Int)) (cs ++ [x]) := by
 have hl := h.len
 apply List.ext_getElem?
 intro i
 by_cases i8 : i < 8
 ·rw [vw_at (by rw [List.length_set]; omega), nth_set8 _ _ _ _ (by omega)]
  by_cases e : i = k
  ·subst e
   rw [List.getElem?_set_self (by rw [vw_len, hl]; exact hk), if_pos rfl, if_neg (by omega), Int.toNat_natCast, List.getElem?_append_right (Nat.le_refl _)]
   simp
  ·rw [List.getElem?_set_ne (fun e2 => e e2.symm), vw_at (by omega), if_neg e]
   by_cases h0 : nth nm i < 0
   ·rw [if_pos h0, if_pos h0]
   ·have := h.lt i i8
    rw [if_neg h0, if_neg h0, List.getElem?_append_left (by omega)]
 ·rw [List.getElem?_eq_none (by rw [List.length_set, vw_len, hl]; omega), List.getElem?_eq_none (by rw [vw_len, List.length_set]; omega)]
section
variable {w0 w u u2 w6 : World} {col0 col : Nat → Nat} {L N C B : Nat} {FB : Nat → Prop} {q : Hd} {pa : Option Addr} {pc : Nat} {oa : Option Addr} {oc : Nat} {bs : List (Option Nat)} {Fs : Nat → Nat → Prop} {cs : List (Option St)} {ta : Option Addr} {tc : Nat} {s : Lm}
theorem RX.made {k z Eb G n' oc' : Nat} {oa' : Option Addr} {F : Nat → Prop} (h : RX w col L N C B FB q pa pc oa oc bs Fs cs ta tc s) (T : Tq col0 col w0 w) (hz : w0.heap.size ≤ Eb) (hE : col Eb = 7) (hk : k < 8) (kb : KB Eb w u) (p : Rp.Rr u G F (_root_.Go.Proofs.YtblfimobiibmjabGreat.Pi.st0 z)) (nF : ∀ x, F x → w.heap.size ≤ x)
 (k2 : KB L u u2) (hp2 : u2.heap[L]? = some (.cells (rcs q pa s.ps.length pc C B oa bs.length oc (s.nm.set k s.md) ta s.tr.length tc s.pk) 75 (0, 0))) (hn : n' = bs.length + 1)
 (ho : w6.ownsRow 0 116 1 (.slice oa' n' oc') n' ((bs ++ [some G]).map Pe.pt)) (hg : u2.grownBy w6 (Value.slice oa bs.length oc).ownBlock)
 (hat : (Value.slice oa' n' oc').ownBlock = (Value.slice oa bs.length oc).ownBlock ∨ (Value.slice oa' n' oc').ownBlock = some u2.heap.size) :
 ∃ col', RX (w6.setCell ⟨L, 7, none⟩ (.slice oa' n' oc')) col' L N C B FB q pa pc oa' oc' (bs ++ [some G]) (Fk.up Fs bs.length F) (cs ++ [some (_root_.Go.Proofs.YtblfimobiibmjabGreat.Pi.st0 z)]) ta tc { s with sts := s.sts.set k (some (_root_.Go.Proofs.YtblfimobiibmjabGreat.Pi.st0 z)), nm := s.nm.set k s.md, md := s.md + 1 } ∧ Tq col0 col' w0 (w6.setCell ⟨L, 7, none⟩ (.slice oa' n' oc')) ∧ ∀ x o, x < w.heap.size → u.heap[x]? = some o → col x = 7 → (w6.setCell ⟨L, 7, none⟩ (.slice oa' n' oc')).heap[x]? = some o ∧ col' x = 7 := by
 classical
 obtain ⟨col', hc'⟩ : ∃ col' : Nat → Nat, col' = fun x => if x < w.heap.size then col x else if F x then 4 else if (Value.slice oa' n' oc').ownBlock = some x then 3 else 7 := ⟨_, rfl⟩
 have hL := h.lt
 have s1 := kb.size
 have s2 := k2.size
 have s3 := hg.size
 have old : ∀ x, x < w.heap.size → col' x = col x := fun x hx => by rw [hc']; simp [hx]
 have c4F : ∀ x, F x → col' x = 4 := fun x hx => by
  have := nF x hx
  rw [hc']
  simp [hx, Nat.not_lt.2 this]
 have rowlt : ∀ g, (Value.slice oa bs.length oc).ownBlock = some g → g < w.heap.size := fun g e => h.blk e
 have sz : (w6.setCell ⟨L, 7, none⟩ (.slice oa' n' oc')).heap.size = w6.heap.size := by simp [World.setCell]
 have K6 := (KB.refl L w6).setCell 7 (.slice oa' n' oc')
 have up : ∀ x, x < u.heap.size → x ≠ L → (Value.slice oa bs.length oc).ownBlock ≠ some x → (w6.setCell ⟨L, 7, none⟩ (.slice oa' n' oc')).heap[x]? = u.heap[x]? := fun x hx h1 h2 =>
  (K6.block x (by omega) h1).trans ((hg.block x (by omega) (fun e => h2 e.symm)).trans (k2.block x hx h1))
 have c : Lo.Ch (fun c => c = 0 ∨ c = 3 ∨ c = 7) col col' w (w6.setCell ⟨L, 7, none⟩ (.slice oa' n' oc')) := by
  refine ⟨hg.os.trans (k2.os.trans kb.os), hg.tape.trans (k2.tape.trans kb.tape), hg.output.trans (k2.output.trans kb.output), by omega, fun x hx hc => ?_, old⟩
  refine (up x (by omega) (fun e => hc (by rw [e]; exact .inl h.c0)) (fun e => hc (.inr (.inl (h.c3 x e))))).trans (kb.block x hx (fun e => hc (by rw [e]; exact .inr (.inr hE))))
 have md := h.md
 have cl : cs.length = bs.length := h.qs.len.symm
 have mdc : s.md = (cs.length : Int) := by rw [md, cl]
 have hL6 : w6.heap[L]? = some (.cells (rcs q pa s.ps.length pc C B oa bs.length oc (s.nm.set k s.md) ta s.tr.length tc s.pk) 75 (0, 0)) :=
  (hg.block L (by omega) (fun e => by have := h.c3 L e.symm; rw [h.c0] at this; omega)).trans hp2
 have hlen : (bs ++ [some G]).length = n' := by rw [hn]; simp
 have own' : (w6.setCell ⟨L, 7, none⟩ (.slice oa' n' oc')).ownsRow 0 116 1 (.slice oa' (bs ++ [some G]).length oc') (bs ++ [some G]).length ((bs ++ [some G]).map Pe.pt) := by
  rw [hlen]
  refine Cr.own_keep ho fun g e => K6.block g (by obtain ⟨_, cur, hc⟩ := Cr.own_blk ho g e; exact heap_lt hc) (fun e2 => ?_)
  obtain ⟨_, cur, hc⟩ := Cr.own_blk ho g e
  rw [e2, hL6] at hc
  cases hc
 have rowF : ∀ g, (Value.slice oa' n' oc').ownBlock = some g → ∀ i, ¬ Fk.up Fs bs.length F i g := by
  intro g e i hi
  by_cases ei : i = bs.length
  ·subst ei
   rw [Fk.up_same] at hi
   have b1 := p.bd g hi
   have b2 := nF g hi
   rcases hat with q | q
   ·have := rowlt g (q ▸ e)
    omega
   ·rw [q] at e
    cases e
    omega
  ·rw [Fk.up_other _ _ _ _ ei] at hi
   have b1 := h.qs.bd i g hi
   rcases hat with q | q
   ·have h3 := h.c3 g (q ▸ e)
    rw [h.c4 i g hi] at h3
    omega
   ·rw [q] at e
    cases e
    omega
 have qs : Fk.Qs Rp.Rr (w6.setCell ⟨L, 7, none⟩ (.slice oa' n' oc')) oa' (bs ++ [some G]) (Fk.up Fs bs.length F) (cs ++ [some (_root_.Go.Proofs.YtblfimobiibmjabGreat.Pi.st0 z)]) := by
  refine ⟨(own_row own').1, by simp [cl], fun i B1 hi => ?_, fun i hi => ?_, fun i j hij x h1 h2 => ?_, fun a e i h1 => ?_, fun i x hx => ?_⟩
  ·by_cases il : i < bs.length
   ·rw [List.getElem?_append_left il] at hi
    obtain ⟨st, e1, e2⟩ := h.qs.one i B1 hi
    refine ⟨st, by rw [List.getElem?_append_left (by omega)]; exact e1, ?_⟩
    rw [Fk.up_other _ _ _ _ (by omega)]
    exact e2.sm fun x hx => c.block x (h.qs.bd i x hx) (by rw [h.c4 i x hx]; omega)
   ·have ib : i = bs.length := by
     have := (List.getElem?_eq_some_iff.1 hi).1
     rw [hlen] at this
     omega
    subst ib
    rw [List.getElem?_append_right (Nat.le_refl _)] at hi
    simp at hi
    subst hi
    refine ⟨_root_.Go.Proofs.YtblfimobiibmjabGreat.Pi.st0 z, by rw [List.getElem?_append_right (by omega)]; simp [cl], ?_⟩
    rw [Fk.up_same]
    refine p.sm fun x hx => up x (p.bd x hx) (fun e => ?_) (fun e => ?_)
    ·have := nF x hx
     omega
    ·have := nF x hx
     have := rowlt x e
     omega
  ·by_cases il : i < bs.length
   ·rw [List.getElem?_append_left il] at hi
    rw [List.getElem?_append_left (by omega)]
    exact h.qs.non i hi
   ·have ib : i = bs.length := by
     have := (List.getElem?_eq_some_iff.1 hi).1
     rw [hlen] at this
     omega
    subst ib
    rw [List.getElem?_append_right (Nat.le_refl _)] at hi
    simp at hi
  ·by_cases e1 : i = bs.length
   ·by_cases e2 : j = bs.length
    ·omega
    ·subst e1
     rw [Fk.up_same] at h1
     rw [Fk.up_other _ _ _ _ e2] at h2
     have := nF x h1
     have := h.qs.bd j x h2
     omega
   ·by_cases e2 : j = bs.length
    ·subst e2
     rw [Fk.up_same] at h2
     rw [Fk.up_other _ _ _ _ e1] at h1
     have := nF x h2
     have := h.qs.bd i x h1
     omega
    ·rw [Fk.up_other _ _ _ _ e1] at h1
     rw [Fk.up_other _ _ _ _ e2] at h2
     exact h.qs.ap i j hij x h1 h2
  ·have := (own_row own').2 a e
   rw [hlen] at this
   exact rowF _ this i h1
  ·by_cases ei : i = bs.length
   ·subst ei
    rw [Fk.up_same] at hx
    have := p.bd x hx
    rw [sz]
    omega
   ·rw [Fk.up_other _ _ _ _ ei] at hx
    have := h.qs.bd i x hx
    rw [sz]
    omega
 refine ⟨col', ⟨?_, h.keepPs c (by simp), h.keepCu c (by simp) (by simp), h.nc, h.keepCr c (by simp), own', qs, ?_, ?_, ?_, h.keepTr c (by simp), h.k0 c, h.k1 c, h.k2 c, fun g e => ?_, fun i x hx => ?_, h.k5 c, h.k6 c⟩, ?_, fun x o hx ho7 h7 => ⟨?_, (old x hx).trans h7⟩⟩
 ·rw [Ba.heap_setCell_same hL6]
  rw [hlen]
  rfl
 ·show NI (s.nm.set k s.md) (bs ++ [some G]).length
  rw [hlen, hn, md]
  exact h.ni.more hk
 ·show s.md + 1 = ((bs ++ [some G]).length : Int)
  rw [hlen, hn, md]
  omega
 ·show s.sts.set k _ = vw (s.nm.set k s.md) (cs ++ [_])
  rw [mdc, h.vs]
  exact vw_more (by rw [cl]; exact h.ni) hk
 ·rw [hlen] at e
  rcases Nat.lt_or_ge g w.heap.size with q1 | q1
  ·rcases hat with z1 | z1
   ·rw [z1] at e
    exact h.k3 c g e
   ·rw [z1] at e
    cases e
    omega
  ·have hnF : ¬ F g := fun hf => rowF g e bs.length (by rw [Fk.up_same]; exact hf)
   rw [hc']
   simp [Nat.not_lt.2 q1, hnF, e]
 ·by_cases ei : i = bs.length
  ·subst ei
   rw [Fk.up_same] at hx
   exact c4F x hx
  ·rw [Fk.up_other _ _ _ _ ei] at hx
   exact h.k4 c i x hx
 ·refine ⟨c.os.trans T.os, c.tape.trans T.tape, c.output.trans T.output, Nat.le_trans T.size c.size, fun x hx h6 => ?_, fun x hx h6 => (old x (Nat.lt_of_lt_of_le hx T.size)).trans (T.old x hx h6)⟩
  have hx2 := Nat.lt_of_lt_of_le hx T.size
  have e6 := T.old x hx h6
  refine ((up x (by omega) (fun e => ?_) (fun e => ?_)).trans (kb.block x hx2 (by omega))).trans (T.block x hx h6)
  ·rw [e, h.c0] at e6
   rw [e] at h6
   omega
  ·have := h.c3 x e
   omega
 ·refine (up x (by omega) (fun e => ?_) (fun e => ?_)).trans ho7
  ·rw [e, h.c0] at h7
   omega
  ·have := h.c3 x e
   omega
end
set_option maxRecDepth 100000 in
set_option maxHeartbeats 3200000 in
theorem other_read (L N : Nat) (col : Nat → Nat) (s : Lm) (K : Nat) (g : Int) (a_ b_ : Int) (oc0 : Option Addr) (cn cc : Nat) (df : Bool) (w : World) (h : RW w col L N s) (ok : Ok K s) (hK : K ≤ 99000) :
 Calls Tryz.prog 44 #[.pointer (some ⟨L, 0, none⟩), .int .i64 g, .agg #[.int .i64 7, .int .i64 a_, .int .i64 b_, .slice oc0 cn cc, .bool df]] w fun r w' => r = .returned (.tuple #[]) ∧ ∃ col', RW w' col' L N (goS s ⟨9, g, -1, -1, a_, -1, false, false⟩) ∧ Tq col col' w w' := by
 obtain ⟨C, B, FB, hd, pa, pc, oa, oc, bs, Fs, cs, ta, tc, h⟩ := h
 obtain ⟨col1, h1, t1, n1⟩ := h.below (below_alloc w (.cells #[.int .i64 7, .int .i64 a_, .int .i64 b_, .slice oc0 cn cc, .bool df] 43))
 have T1 := hide t1
 have H1 := hide h1
 have E1 := hide (heap_new w (.cells #[.int .i64 7, .int .i64 a_, .int .i64 b_, .slice oc0 cn cc, .bool df] 43))
 have N1 := hide (n1 w.heap.size (Nat.le_refl _))
 have OK := hide ok
 clear h t1 h1 n1 ok
 go_enter Tryz.func44, Tryz.ntmps44
 go_wp2_with fail
 refine (bare_r 0 g _).mono ?_
 rintro r w5 ⟨rfl, b5⟩
 unfold En.evv En.evc bareE
 obtain ⟨col6, h6, t6, n6⟩ := H1.out.below (btr b5 (below_alloc w5 (.cells #[.int .i64 9, .int .i64 g, .int .i64 (-1), .int .i64 (-1), .int .i64 a_, .int .i64 (-1), .bool false, .bool false] 29)))
 have s5 := b5.size
 have V6 := hide (heap_new w5 (.cells #[.int .i64 9, .int .i64 g, .int .i64 (-1), .int .i64 (-1), .int .i64 a_, .int .i64 (-1), .bool false, .bool false] 29))
 have c0 := cell_of (heap_below E1.out b5) 0
 have c1 := cell_of (heap_below E1.out b5) 1
 have c2 := cell_of (heap_below E1.out b5) 2
 have y6 := cell_of (heap_below H1.out.hp b5) 6
 simp [rcs] at c0 c1 c2 y6
 have hL5 : L < w5.heap.size := Nat.lt_of_lt_of_le H1.out.lt s5
 have C6 := hide (n6 w5.heap.size s5)
 have T6 := hide (T1.out.trans t6)
 have E6 := hide (t6.heap E1.out N1.out)
 have N6 : Hid (col6 w.heap.size = 7) := (t6.old _ (heap_lt E1.out) (by rw [N1.out]; omega)).trans N1.out
 have H6 := hide h6
 have hE1 := heap_lt E1.out
 have hz6 : w.heap.size ≤ w5.heap.size := by omega
 have hz7 : w.heap.size < w5.heap.size := by omega
 have hn6 : w.heap.size ≠ w5.heap.size := by omega
 have hL6 : L ≠ w5.heap.size := fun e => by have := H6.out.c0; rw [e, C6.out] at this; omega
 clear h6 t6 n6 b5 T1 H1 E1 N1 hE1 s5
 have H8 := H6
 have T8 := T6
 have E8 := E6
 have N8 := N6
 have NO := hide (note_x (⟨9, g, -1, -1, a_, -1, false, false⟩ : Ev) _ H8.out (by have := OK.out.tn; show s.tr.length ≤ _; omega))
 unfold En.evv En.evc at NO
 go_wp2_with fail
 refine NO.out.mono ?_
 rintro r w9 ⟨rfl, ta9, tc9, col9, h9, t9⟩
 have T9 := hide (T8.out.trans t9)
 have H9 := hide h9
 have k9 := cell_of (t9.heap E8.out N8.out) 0
 have ya := cell_of h9.hp 6
 simp [rcs] at ya k9
 have TU := hide (Cr.rturn00 B _ s.cr K g w9 h9.cr OK.out.cb (by omega))
 clear h9 t9 NO
 go_wp2_with fail
 refine TU.out.mono ?_
 rintro r wb ⟨rfl, pb⟩
 obtain ⟨FBb, colb, hb, tb⟩ := H9.out.crew pb
 have Hb := hide hb
 have Tb := hide (T9.out.trans tb)
 clear hb tb pb TU
 go_wp2_with fail
 go_end0
 refine ⟨rfl, colb, ?_, Tb.out⟩
 exact Hb.out.lw
set_option maxRecDepth 100000 in
set_option maxHeartbeats 3200000 in
theorem other_write (L N : Nat) (col : Nat → Nat) (s : Lm) (K : Nat) (g : Int) (a_ b_ : Int) (oc0 : Option Addr) (cn cc : Nat) (df : Bool) (w : World) (h : RW w col L N s) (ok : Ok K s) (hK : K ≤ 99000) :
 Calls Tryz.prog 44 #[.pointer (some ⟨L, 0, none⟩), .int .i64 g, .agg #[.int .i64 8, .int .i64 a_, .int .i64 b_, .slice oc0 cn cc, .bool df]] w fun r w' => r = .returned (.tuple #[]) ∧ ∃ col', RW w' col' L N (goS s ⟨10, g, -1, -1, a_, -1, false, false⟩) ∧ Tq col col' w w' := by
 obtain ⟨C, B, FB, hd, pa, pc, oa, oc, bs, Fs, cs, ta, tc, h⟩ := h
 obtain ⟨col1, h1, t1, n1⟩ := h.below (below_alloc w (.cells #[.int .i64 8, .int .i64 a_, .int .i64 b_, .slice oc0 cn cc, .bool df] 43))
 have T1 := hide t1
 have H1 := hide h1
 have E1 := hide (heap_new w (.cells #[.int .i64 8, .int .i64 a_, .int .i64 b_, .slice oc0 cn cc, .bool df] 43))
 have N1 := hide (n1 w.heap.size (Nat.le_refl _))
 have OK := hide ok
 clear h t1 h1 n1 ok
 go_enter Tryz.func44, Tryz.ntmps44
 go_wp2_with fail
 refine (bare_r 0 g _).mono ?_
 rintro r w5 ⟨rfl, b5⟩
 unfold En.evv En.evc bareE
 obtain ⟨col6, h6, t6, n6⟩ := H1.out.below (btr b5 (below_alloc w5 (.cells #[.int .i64 10, .int .i64 g, .int .i64 (-1), .int .i64 (-1), .int .i64 a_, .int .i64 (-1), .bool false, .bool false] 29)))
 have s5 := b5.size
 have V6 := hide (heap_new w5 (.cells #[.int .i64 10, .int .i64 g, .int .i64 (-1), .int .i64 (-1), .int .i64 a_, .int .i64 (-1), .bool false, .bool false] 29))
 have c0 := cell_of (heap_below E1.out b5) 0
 have c1 := cell_of (heap_below E1.out b5) 1
 have c2 := cell_of (heap_below E1.out b5) 2
 have y6 := cell_of (heap_below H1.out.hp b5) 6
 simp [rcs] at c0 c1 c2 y6
 have hL5 : L < w5.heap.size := Nat.lt_of_lt_of_le H1.out.lt s5
 have C6 := hide (n6 w5.heap.size s5)
 have T6 := hide (T1.out.trans t6)
 have E6 := hide (t6.heap E1.out N1.out)
 have N6 : Hid (col6 w.heap.size = 7) := (t6.old _ (heap_lt E1.out) (by rw [N1.out]; omega)).trans N1.out
 have H6 := hide h6
 have hE1 := heap_lt E1.out
 have hz6 : w.heap.size ≤ w5.heap.size := by omega
 have hz7 : w.heap.size < w5.heap.size := by omega
 have hn6 : w.heap.size ≠ w5.heap.size := by omega
 have hL6 : L ≠ w5.heap.size := fun e => by have := H6.out.c0; rw [e, C6.out] at this; omega
 clear h6 t6 n6 b5 T1 H1 E1 N1 hE1 s5
 have H8 := H6
 have T8 := T6
 have E8 := E6
 have N8 := N6
 have NO := hide (note_x (⟨10, g, -1, -1, a_, -1, false, false⟩ : Ev) _ H8.out (by have := OK.out.tn; show s.tr.length ≤ _; omega))
 unfold En.evv En.evc at NO
 go_wp2_with fail
 refine NO.out.mono ?_
 rintro r w9 ⟨rfl, ta9, tc9, col9, h9, t9⟩
 have T9 := hide (T8.out.trans t9)
 have H9 := hide h9
 have k9 := cell_of (t9.heap E8.out N8.out) 0
 have ya := cell_of h9.hp 6
 simp [rcs] at ya k9
 have TU := hide (Cr.rturn00 B _ s.cr K g w9 h9.cr OK.out.cb (by omega))
 clear h9 t9 NO
 go_wp2_with fail
 refine TU.out.mono ?_
 rintro r wb ⟨rfl, pb⟩
 obtain ⟨FBb, colb, hb, tb⟩ := H9.out.crew pb
 have Hb := hide hb
 have Tb := hide (T9.out.trans tb)
 clear hb tb pb TU
 go_wp2_with fail
 go_end0
 refine ⟨rfl, colb, ?_, Tb.out⟩
 exact Hb.out.lw
set_option maxRecDepth 100000 in
set_option maxHeartbeats 3200000 in
theorem other_spawn (L N : Nat) (col : Nat → Nat) (s : Lm) (K : Nat) (g : Int) (a_ b_ : Int) (oc0 : Option Addr) (cn cc : Nat) (df : Bool) (w : World) (h : RW w col L N s) (ok : Ok K s) (hK : K ≤ 99000) :
 Calls Tryz.prog 44 #[.pointer (some ⟨L, 0, none⟩), .int .i64 g, .agg #[.int .i64 1, .int .i64 a_, .int .i64 b_, .slice oc0 cn cc, .bool df]] w fun r w' => r = .returned (.tuple #[]) ∧ ∃ col', RW w' col' L N (goS { s with cr := Cr.spL s.cr a_ } ⟨1, g, -1, -1, a_, Cr.spV s.cr a_, false, false⟩) ∧ Tq col col' w w' := by
 obtain ⟨C, B, FB, hd, pa, pc, oa, oc, bs, Fs, cs, ta, tc, h⟩ := h
 obtain ⟨col1, h1, t1, n1⟩ := h.below (below_alloc w (.cells #[.int .i64 1, .int .i64 a_, .int .i64 b_, .slice oc0 cn cc, .bool df] 43))
 have T1 := hide t1
 have H1 := hide h1
 have E1 := hide (heap_new w (.cells #[.int .i64 1, .int .i64 a_, .int .i64 b_, .slice oc0 cn cc, .bool df] 43))
 have N1 := hide (n1 w.heap.size (Nat.le_refl _))
 have OK := hide ok
 clear h t1 h1 n1 ok
 go_enter Tryz.func44, Tryz.ntmps44
 go_wp2_with fail
 refine (bare_r 0 g _).mono ?_
 rintro r w5 ⟨rfl, b5⟩
 unfold En.evv En.evc bareE
 obtain ⟨col6, h6, t6, n6⟩ := H1.out.below (btr b5 (below_alloc w5 (.cells #[.int .i64 0, .int .i64 g, .int .i64 (-1), .int .i64 (-1), .int .i64 (-1), .int .i64 (-1), .bool false, .bool false] 29)))
 have s5 := b5.size
 have V6 := hide (heap_new w5 (.cells #[.int .i64 0, .int .i64 g, .int .i64 (-1), .int .i64 (-1), .int .i64 (-1), .int .i64 (-1), .bool false, .bool false] 29))
 have c0 := cell_of (heap_below E1.out b5) 0
 have c1 := cell_of (heap_below E1.out b5) 1
 have c2 := cell_of (heap_below E1.out b5) 2
 have y6 := cell_of (heap_below H1.out.hp b5) 6
 simp [rcs] at c0 c1 c2 y6
 have hL5 : L < w5.heap.size := Nat.lt_of_lt_of_le H1.out.lt s5
 have C6 := hide (n6 w5.heap.size s5)
 have T6 := hide (T1.out.trans t6)
 have E6 := hide (t6.heap E1.out N1.out)
 have N6 : Hid (col6 w.heap.size = 7) := (t6.old _ (heap_lt E1.out) (by rw [N1.out]; omega)).trans N1.out
 have H6 := hide h6
 have hE1 := heap_lt E1.out
 have hz6 : w.heap.size ≤ w5.heap.size := by omega
 have hz7 : w.heap.size < w5.heap.size := by omega
 have hn6 : w.heap.size ≠ w5.heap.size := by omega
 have hL6 : L ≠ w5.heap.size := fun e => by have := H6.out.c0; rw [e, C6.out] at this; omega
 clear h6 t6 n6 b5 T1 H1 E1 N1 hE1 s5
 go_wp2_with fail
 generalize w5.alloc (.cells #[.int .i64 0, .int .i64 g, .int .i64 (-1), .int .i64 (-1), .int .i64 (-1), .int .i64 (-1), .bool false, .bool false] 29) = w6 at *
 clear hL5 hz7 c0 c1 c2 y6
 generalize w5.heap.size = Eb at *
 have SP := hide (Cr.rspawn_any B FB s.cr a_ w6.drew H6.out.drew.cr)
 have c1 : w6.cell? ⟨w.heap.size, 1, none⟩ = some (.int .i64 a_) := cell_of E6.out 1
 have y6 : w6.cell? ⟨L, 6, none⟩ = some (.pointer (some ⟨B, 0, none⟩)) := cell_of H6.out.hp 6
 go_region_held3 (fun w' => w'.cell? ⟨L, 6, none⟩ = some (.pointer (some ⟨B, 0, none⟩)) ∧ w'.cell? ⟨w.heap.size, 1, none⟩ = some (.int .i64 a_))
  (first | (with_reducible exact ⟨z6, z1⟩) | (go_keep; done) | (exact ⟨z6, z1⟩))
  (first | (go_at_call 35; refine SP.out.mono ?_; rintro r w7 ⟨rfl, p7⟩; obtain ⟨FB7, col7, h7, t7⟩ := H6.out.drew.crew p7; have z6 : w7.cell? ⟨L, 6, none⟩ = some (.pointer (some ⟨B, 0, none⟩)) := cell_of h7.hp 6; have E7 := hide (t7.heap (heap_below E6.out (bdrew1 _)) N6.out); have z1 : w7.cell? ⟨w.heap.size, 1, none⟩ = some (.int .i64 a_) := cell_of E7.out 1))
 have V7 := hide (t7.heap (heap_below V6.out (bdrew1 _)) C6.out)
 have C7 : Hid (col7 Eb = 7) := (t7.old _ (heap_lt (heap_below V6.out (bdrew1 _))) (by rw [C6.out]; omega)).trans C6.out
 have N7 : Hid (col7 w.heap.size = 7) := (t7.old _ (heap_lt (heap_below E6.out (bdrew1 _))) (by rw [N6.out]; omega)).trans N6.out
 have T7 := hide (T6.out.drew.trans t7)
 have H7 := hide h7
 rename_i hH7
 clear hH7 h7 t7 p7 SP V6 C6 E6 N6 T6 H6 c1 y6 z6
 have v0 := cell_of V7.out 0
 have v1 := cell_of V7.out 1
 have v2 := cell_of V7.out 2
 have v3 := cell_of V7.out 3
 have v4 := cell_of V7.out 4
 have v5 := cell_of V7.out 5
 have v6 := cell_of V7.out 6
 have v7 := cell_of V7.out 7
 have f0 := frozen_of V7.out 0
 have f4 := frozen_of V7.out 4
 have f5 := frozen_of V7.out 5
 simp at v0 v1 v2 v3 v4 v5 v6 v7
 have K7 := (((KB.refl Eb w7).setCell 0 (.int .i64 1)).setCell 4 (.int .i64 a_)).setCell 5 (.int .i64 (Cr.spV s.cr a_))
 have H8 := hide (H7.out.kb K7 C7.out)
 have T8 := hide (T7.out.kb K7 hz6)
 have E8 := hide (K7.heap E7.out hn6)
 have N8 := N7
 clear K7
 have NO := hide (note_x (⟨1, g, -1, -1, a_, Cr.spV s.cr a_, false, false⟩ : Ev) _ H8.out (by have := OK.out.tn; show s.tr.length ≤ _; omega))
 unfold En.evv En.evc at NO
 go_wp2_with fail
 refine NO.out.mono ?_
 rintro r w9 ⟨rfl, ta9, tc9, col9, h9, t9⟩
 have T9 := hide (T8.out.trans t9)
 have H9 := hide h9
 have k9 := cell_of (t9.heap E8.out N8.out) 0
 have ya := cell_of h9.hp 6
 simp [rcs] at ya k9
 have TU := hide (Cr.rturn00 B _ (Cr.spL s.cr a_) K g w9 h9.cr (Cr.Bn.sp OK.out.cb a_) (by omega))
 clear h9 t9 NO
 go_wp2_with fail
 refine TU.out.mono ?_
 rintro r wb ⟨rfl, pb⟩
 obtain ⟨FBb, colb, hb, tb⟩ := H9.out.crew pb
 have Hb := hide hb
 have Tb := hide (T9.out.trans tb)
 clear hb tb pb TU
 go_wp2_with fail
 go_end0
 refine ⟨rfl, colb, ?_, Tb.out⟩
 exact Hb.out.lw
set_option maxRecDepth 100000 in
set_option maxHeartbeats 3200000 in
theorem other_exit (L N : Nat) (col : Nat → Nat) (s : Lm) (K : Nat) (g : Int) (a_ b_ : Int) (oc0 : Option Addr) (cn cc : Nat) (df : Bool) (w : World) (h : RW w col L N s) (ok : Ok K s) (hK : K ≤ 99000) :
 Calls Tryz.prog 44 #[.pointer (some ⟨L, 0, none⟩), .int .i64 g, .agg #[.int .i64 9, .int .i64 a_, .int .i64 b_, .slice oc0 cn cc, .bool df]] w fun r w' => r = .returned (.tuple #[]) ∧ ∃ col', RW w' col' L N (tellS { s with cr := Cr.chL s.cr g 0 2 0 } (bareE 11 g)) ∧ Tq col col' w w' := by
 obtain ⟨C, B, FB, hd, pa, pc, oa, oc, bs, Fs, cs, ta, tc, h⟩ := h
 obtain ⟨col1, h1, t1, n1⟩ := h.below (below_alloc w (.cells #[.int .i64 9, .int .i64 a_, .int .i64 b_, .slice oc0 cn cc, .bool df] 43))
 have T1 := hide t1
 have H1 := hide h1
 have E1 := hide (heap_new w (.cells #[.int .i64 9, .int .i64 a_, .int .i64 b_, .slice oc0 cn cc, .bool df] 43))
 have N1 := hide (n1 w.heap.size (Nat.le_refl _))
 have OK := hide ok
 clear h t1 h1 n1 ok
 go_enter Tryz.func44, Tryz.ntmps44
 go_wp2_with fail
 refine (bare_r 0 g _).mono ?_
 rintro r w5 ⟨rfl, b5⟩
 unfold En.evv En.evc bareE
 obtain ⟨col6, h6, t6, n6⟩ := H1.out.below (btr b5 (below_alloc w5 (.cells #[.int .i64 11, .int .i64 g, .int .i64 (-1), .int .i64 (-1), .int .i64 (-1), .int .i64 (-1), .bool false, .bool false] 29)))
 have s5 := b5.size
 have V6 := hide (heap_new w5 (.cells #[.int .i64 11, .int .i64 g, .int .i64 (-1), .int .i64 (-1), .int .i64 (-1), .int .i64 (-1), .bool false, .bool false] 29))
 have c0 := cell_of (heap_below E1.out b5) 0
 have c1 := cell_of (heap_below E1.out b5) 1
 have c2 := cell_of (heap_below E1.out b5) 2
 have y6 := cell_of (heap_below H1.out.hp b5) 6
 simp [rcs] at c0 c1 c2 y6
 have hL5 : L < w5.heap.size := Nat.lt_of_lt_of_le H1.out.lt s5
 have C6 := hide (n6 w5.heap.size s5)
 have T6 := hide (T1.out.trans t6)
 have E6 := hide (t6.heap E1.out N1.out)
 have N6 : Hid (col6 w.heap.size = 7) := (t6.old _ (heap_lt E1.out) (by rw [N1.out]; omega)).trans N1.out
 have H6 := hide h6
 have hE1 := heap_lt E1.out
 have hz6 : w.heap.size ≤ w5.heap.size := by omega
 have hz7 : w.heap.size < w5.heap.size := by omega
 have hn6 : w.heap.size ≠ w5.heap.size := by omega
 have hL6 : L ≠ w5.heap.size := fun e => by have := H6.out.c0; rw [e, C6.out] at this; omega
 clear h6 t6 n6 b5 T1 H1 E1 N1 hE1 s5
 have TU := hide (Cr.rturn02 B FB s.cr K g _ H6.out.cr OK.out.cb (by omega))
 go_wp2_with fail
 refine TU.out.mono ?_
 rintro r w8 ⟨rfl, p8⟩
 obtain ⟨FB8, col8, h8, t8⟩ := H6.out.crew p8
 have T8 := hide (T6.out.trans t8)
 have E8 := hide (t8.heap E6.out N6.out)
 have N8 : Hid (col8 w.heap.size = 7) := (t8.old _ (heap_lt E6.out) (by rw [N6.out]; omega)).trans N6.out
 have V8 := hide (t8.heap V6.out C6.out)
 have NO := hide (note_x (bareE 11 g) _ h8 (by have := OK.out.tn; show s.tr.length ≤ _; omega))
 unfold En.evv En.evc bareE at NO
 clear h8 t8 p8 TU c0 c1 c2 y6 V6 H6 T6 E6
 have v0 := cell_of V8.out 0
 have v1 := cell_of V8.out 1
 have v2 := cell_of V8.out 2
 have v3 := cell_of V8.out 3
 have v4 := cell_of V8.out 4
 have v5 := cell_of V8.out 5
 have v6 := cell_of V8.out 6
 have v7 := cell_of V8.out 7
 simp at v0 v1 v2 v3 v4 v5 v6 v7
 go_wp2_with fail
 refine NO.out.mono ?_
 rintro r w9 ⟨rfl, ta9, tc9, col9, h9, t9⟩
 have T9 := hide (T8.out.trans t9)
 have H9 := hide h9
 have k9 := cell_of (t9.heap E8.out N8.out) 0
 simp at k9
 clear h9 t9 NO
 go_wp2_with fail
 go_end0
 exact ⟨rfl, col9, H9.out.lw, T9.out⟩
set_option maxRecDepth 100000 in
set_option maxHeartbeats 3200000 in
theorem other_make (L N : Nat) (col : Nat → Nat) (s : Lm) (K : Nat) (g : Int) (a_ b_ : Nat) (ha : a_ < 8) (hb4 : b_ ≤ 4) (oc0 : Option Addr) (cn cc : Nat) (df : Bool) (w : World) (h : RW w col L N s) (ok : Ok K s) (hK : K ≤ 99000) :
 Calls Tryz.prog 44 #[.pointer (some ⟨L, 0, none⟩), .int .i64 g, .agg #[.int .i64 2, .int .i64 (a_ : Int), .int .i64 (b_ : Int), .slice oc0 cn cc, .bool df]] w fun r w' => r = .returned (.tuple #[]) ∧ ∃ col', RW w' col' L N (goS (opensS s a_ b_) ⟨2, g, s.md, -1, b_, -1, false, false⟩) ∧ Tq col col' w w' := by
 obtain ⟨C, B, FB, hd, pa, pc, oa, oc, bs, Fs, cs, ta, tc, h⟩ := h
 obtain ⟨col1, h1, t1, n1⟩ := h.below (below_alloc w (.cells #[.int .i64 2, .int .i64 (a_ : Int), .int .i64 (b_ : Int), .slice oc0 cn cc, .bool df] 43))
 have T1 := hide t1
 have H1 := hide h1
 have E1 := hide (heap_new w (.cells #[.int .i64 2, .int .i64 (a_ : Int), .int .i64 (b_ : Int), .slice oc0 cn cc, .bool df] 43))
 have N1 := hide (n1 w.heap.size (Nat.le_refl _))
 have OK := hide ok
 clear h t1 h1 n1 ok
 go_enter Tryz.func44, Tryz.ntmps44
 go_wp2_with fail
 refine (bare_r 0 g _).mono ?_
 rintro r w5 ⟨rfl, b5⟩
 unfold En.evv En.evc bareE
 obtain ⟨col6, h6, t6, n6⟩ := H1.out.below (btr b5 (below_alloc w5 (.cells #[.int .i64 0, .int .i64 g, .int .i64 (-1), .int .i64 (-1), .int .i64 (-1), .int .i64 (-1), .bool false, .bool false] 29)))
 have s5 := b5.size
 have V6 := hide (heap_new w5 (.cells #[.int .i64 0, .int .i64 g, .int .i64 (-1), .int .i64 (-1), .int .i64 (-1), .int .i64 (-1), .bool false, .bool false] 29))
 have c0 := cell_of (heap_below E1.out b5) 0
 have c1 := cell_of (heap_below E1.out b5) 1
 have c2 := cell_of (heap_below E1.out b5) 2
 have y6 := cell_of (heap_below H1.out.hp b5) 6
 simp [rcs] at c0 c1 c2 y6
 have hL5 : L < w5.heap.size := Nat.lt_of_lt_of_le H1.out.lt s5
 have C6 := hide (n6 w5.heap.size s5)
 have T6 := hide (T1.out.trans t6)
 have E6 := hide (t6.heap E1.out N1.out)
 have N6 : Hid (col6 w.heap.size = 7) := (t6.old _ (heap_lt E1.out) (by rw [N1.out]; omega)).trans N1.out
 have H6 := hide h6
 have hE1 := heap_lt E1.out
 have hz6 : w.heap.size ≤ w5.heap.size := by omega
 have hz7 : w.heap.size < w5.heap.size := by omega
 have hn6 : w.heap.size ≠ w5.heap.size := by omega
 have hL6 : L ≠ w5.heap.size := fun e => by have := H6.out.c0; rw [e, C6.out] at this; omega
 clear h6 t6 n6 b5 T1 H1 E1 N1 hE1 s5
 go_wp2_with fail
 generalize w5.alloc (.cells #[.int .i64 0, .int .i64 g, .int .i64 (-1), .int .i64 (-1), .int .i64 (-1), .int .i64 (-1), .bool false, .bool false] 29) = w6 at *
 clear hL5 hz7 c0 c1 c2 y6
 generalize w5.heap.size = Eb at *
 refine (Rp.rnew_ok b_ w6 hb4).mono ?_
 rintro r w7 ⟨G, F, rfl, p7, nF, b7⟩
 have P7 := hide p7
 have NFa := hide nF
 have V7 := hide (heap_below V6.out b7)
 have E7 := hide (heap_below E6.out b7)
 have L7 := hide (heap_below H6.out.hp b7)
 have B7 := hide b7
 clear p7 nF b7
 have hEb := heap_lt V6.out
 have hL := H6.out.lt
 have c2 : w7.cell? ⟨w.heap.size, 2, none⟩ = some (.int .i64 (b_ : Int)) := cell_of E7.out 2
 have y7 : w7.cell? ⟨L, 7, none⟩ = some (.slice oa bs.length oc) := cell_of L7.out 7
 have v0 := cell_of V7.out 0
 have v2 := cell_of V7.out 2
 have v4 := cell_of V7.out 4
 have f0 := frozen_of V7.out 0
 have f2 := frozen_of V7.out 2
 have f4 := frozen_of V7.out 4
 simp at v0 v2 v4
 have K7 := (((KB.refl Eb w7).setCell 0 (.int .i64 2)).setCell 4 (.int .i64 (b_ : Int))).setCell 2 (.int .i64 (bs.length : Int))
 have V8 := hide (Ba.heap_setCell_same (Ba.heap_setCell_same (Ba.heap_setCell_same V7.out (i := 0) (.int .i64 2)) (i := 4) (.int .i64 (b_ : Int))) (i := 2) (.int .i64 (bs.length : Int)))
 have E8 := hide (K7.heap E7.out hn6)
 have L8 := hide (K7.heap L7.out hL6)
 have KB8 : Hid (KB Eb w6 ((((w7.setCell ⟨Eb, 0, none⟩ (.int .i64 2)).setCell ⟨Eb, 4, none⟩ (.int .i64 (b_ : Int))).setCell ⟨Eb, 2, none⟩ (.int .i64 (bs.length : Int))))) := ⟨K7.os.trans B7.out.os, K7.tape.trans B7.out.tape, K7.output.trans B7.out.output, Nat.le_trans B7.out.size K7.size, fun x hx hr => (K7.block x (Nat.lt_of_lt_of_le hx B7.out.size) hr).trans (B7.out.block x hx)⟩
 have P8 : Hid (Rp.Rr ((((w7.setCell ⟨Eb, 0, none⟩ (.int .i64 2)).setCell ⟨Eb, 4, none⟩ (.int .i64 (b_ : Int))).setCell ⟨Eb, 2, none⟩ (.int .i64 (bs.length : Int)))) G F (_root_.Go.Proofs.YtblfimobiibmjabGreat.Pi.st0 b_)) := P7.out.sm fun x hx => K7.block x (P7.out.bd x hx) (fun e => by have := NFa.out x hx; omega)
 clear K7
 go_wp2_with fail
 clear V7 E7 L7 B7 P7 c2 y7 v0 v2 v4 f0 f2 f4
 generalize ((w7.setCell ⟨Eb, 0, none⟩ (.int .i64 2)).setCell ⟨Eb, 4, none⟩ (.int .i64 (b_ : Int))).setCell ⟨Eb, 2, none⟩ (.int .i64 (bs.length : Int)) = w8 at *
 have c1d : w8.drew.cell? ⟨w.heap.size, 1, none⟩ = some (.int .i64 (a_ : Int)) := cell_of E8.out 1
 have y7d : w8.drew.cell? ⟨L, 7, none⟩ = some (.slice oa bs.length oc) := cell_of L8.out 7
 have c1 : w8.cell? ⟨w.heap.size, 1, none⟩ = some (.int .i64 (a_ : Int)) := cell_of E8.out 1
 have y7 : w8.cell? ⟨L, 7, none⟩ = some (.slice oa bs.length oc) := cell_of L8.out 7
 have u0 : w8.cell? ⟨L, 8 + a_, none⟩ = some (.int .i64 (nth s.nm a_)) := (cell_of L8.out (8 + a_)).trans ((cell_of H6.out.hp (8 + a_)).symm.trans (H6.out.num ha))
 have uf : w8.frozen? ⟨L, 8 + a_, none⟩ = false := frozen_of L8.out (8 + a_)
 have k0 : (0 : Int) ≤ (a_ : Int) := by omega
 have k8 : (a_ : Int) < 8 := by omega
 have hwL : w.heap.size ≠ L := fun e => by have h1 := H6.out.c0; rw [← e, N6.out] at h1; omega
 have MD := hide H6.out.md
 have K9 := (KB.refl L w8).setCell (8 + a_) (.int .i64 (bs.length : Int))
 have L9 : Hid ((w8.setCell ⟨L, 8 + a_, none⟩ (.int .i64 (bs.length : Int))).drew.heap[L]? = some (.cells (rcs hd pa s.ps.length pc C B oa bs.length oc (s.nm.set a_ s.md) ta s.tr.length tc s.pk) 75 (0, 0))) := by
  show (w8.setCell ⟨L, 8 + a_, none⟩ (.int .i64 (bs.length : Int))).heap[L]? = _
  rw [Ba.heap_setCell_same L8.out, MD.out, rcs_num _ _ _ _ _ _ _ _ _ _ _ _ _ _ _ _ H6.out.ni.len ha]
 have c1e : (w8.setCell ⟨L, 8 + a_, none⟩ (.int .i64 (bs.length : Int))).drew.cell? ⟨w.heap.size, 1, none⟩ = some (.int .i64 (a_ : Int)) := kset1 c1 hwL
 have y7e : (w8.setCell ⟨L, 8 + a_, none⟩ (.int .i64 (bs.length : Int))).drew.cell? ⟨L, 7, none⟩ = some (.slice oa bs.length oc) := cell_of L9.out 7
 go_region_held3 (fun w' => w'.cell? ⟨w.heap.size, 1, none⟩ = some (.int .i64 (a_ : Int)) ∧ w'.cell? ⟨L, 7, none⟩ = some (.slice oa bs.length oc))
  (first | (with_reducible exact ⟨c1d, y7d⟩) | (with_reducible exact ⟨c1e, y7e⟩) | (go_keep; done))
  (fail)
 have V9 := hide (heap_below (K9.heap V8.out (fun e => hL6 e.symm)) (bdrew1 _))
 have E9 := hide (heap_below (K9.heap E8.out hwL) (bdrew1 _))
 have K89 : Hid (KB L w8 (w8.setCell ⟨L, 8 + a_, none⟩ (.int .i64 (bs.length : Int))).drew) := ⟨K9.os, K9.tape, K9.output, K9.size, fun x hx hr => K9.block x hx hr⟩
 rename_i hH9
 clear hH9 K9 c1d y7d c1 y7 u0 uf c1e y7e
 generalize w8.setCell ⟨L, 8 + a_, none⟩ (.int .i64 (bs.length : Int)) = w9z at *
 generalize w9z.drew = w9 at *
 have y9 : w9.cell? ⟨L, 7, none⟩ = some (.slice oa bs.length oc) := cell_of L9.out 7
 have f9 : w9.frozen? ⟨L, 7, none⟩ = false := frozen_of L9.out 7
 obtain ⟨i0, hi, hz0, hz1, hz2⟩ : ∃ i0, Tryz.prog.info? 116 = some i0 ∧ i0.zero = some (.pointer none) ∧ i0.size = 1 ∧ i0.bytes = 8 := by
  cases hi : Tryz.prog.info? 116 with
  | none => have := info_rp; rw [hi] at this; cases this
  | some i0 =>
    have hx := info_rp
    rw [hi] at hx
    simp at hx
    exact ⟨i0, rfl, hx⟩
 have INF := hide (And.intro hi (And.intro hz0 (And.intro hz1 hz2)))
 clear hi hz0 hz1 hz2
 have s6 := KB8.out.size
 have s8 := K89.out.size
 have BY := below_alloc w9 (.cells #[Value.pointer (some ⟨G, 0, none⟩)] 116)
 have OW : Hid ((w9.alloc (.cells #[Value.pointer (some ⟨G, 0, none⟩)] 116)).ownsRow 0 116 1 (.slice oa bs.length oc) bs.length (bs.map Pe.pt)) := Cr.own_keep H6.out.rw fun x e => by
  have hx := H6.out.blk e
  have h3 := H6.out.c3 x e
  refine (BY.block x (by omega)).trans ((K89.out.block x (by omega) (fun e2 => ?_)).trans (KB8.out.block x hx (fun e2 => ?_)))
  ·rw [e2, H6.out.c0] at h3
   omega
  ·rw [e2, C6.out] at h3
   omega
 have SRC := hide (cell_one_new w9 (.pointer (some ⟨G, 0, none⟩)) 116)
 have KA : Hid (KB L w8 (w9.alloc (.cells #[Value.pointer (some ⟨G, 0, none⟩)] 116))) := ⟨BY.os.trans K89.out.os, BY.tape.trans K89.out.tape, BY.output.trans K89.out.output, Nat.le_trans K89.out.size BY.size, fun x hx hr => (BY.block x (by omega)).trans (K89.out.block x hx hr)⟩
 have LA := hide (heap_below L9.out BY)
 have VB := hide (heap_below V9.out BY)
 have mdl := OK.out.md.2
 have hbl : bs.length ≤ 1000 := by have := MD.out; omega
 clear BY mdl
 go_wp2_with (at_builtin; refine wpList_append_own_at _ rfl _ _ 72 rfl 0 116 i0 (.pointer none) 1 8 Tryz.underlying72 INF.out.1 INF.out.2.1 INF.out.2.2.1 INF.out.2.2.2 rfl (by decide) _ _ _ rfl OW.out ⟨w9.heap.size, 0, none⟩ 1 1 [.pointer (some ⟨G, 0, none⟩)] rfl rfl ?c1 ?c2 ?c3 ?c4 ?c5 ?_)
 case c1 => exact SRC.out
 case c2 => exact pt_one [some G]
 case c3 => unfold maxLen; omega
 case c4 => omega
 case c5 => exact Nat.zero_le _
 intro v' wA ho hg hnil hat
 obtain ⟨oa', oc', rfl⟩ := own_sl1 ho
 have LW9 : wA.heap[L]? = some (.cells (rcs hd pa s.ps.length pc C B oa bs.length oc (s.nm.set a_ s.md) ta s.tr.length tc s.pk) 75 (0, 0)) := (hg.block L (heap_lt LA.out) (fun e => by have := H6.out.c3 L e.symm; rw [H6.out.c0] at this; omega)).trans LA.out
 have y9' : wA.cell? ⟨L, 7, none⟩ = some (.slice oa bs.length oc) := cell_of LW9 7
 have f9' : wA.frozen? ⟨L, 7, none⟩ = false := frozen_of LW9 7
 have ho2 : wA.ownsRow 0 116 1 (.slice oa' (bs.length + 1) oc') (bs.length + 1) ((bs ++ [some G]).map Pe.pt) := by rw [List.map_append]; exact ho
 obtain ⟨colM, hM, tM, oM⟩ := H6.out.made T6.out hz6 C6.out ha KB8.out P8.out NFa.out KA.out LA.out rfl ho2 hg (by rw [World.size_alloc]; exact hat)
 have HM := hide hM
 have TM := hide tM
 have EM := hide (oM w.heap.size _ (heap_lt E6.out) E8.out N6.out)
 have V10 : Hid (wA.heap[Eb]? = some (.cells #[.int .i64 2, .int .i64 g, .int .i64 (bs.length : Int), .int .i64 (-1), .int .i64 (b_ : Int), .int .i64 (-1), .bool false, .bool false] 29 (0, 0))) := (hg.block Eb (heap_lt VB.out) (fun e => by have := H6.out.c3 Eb e.symm; rw [C6.out] at this; omega)).trans (VB.out.trans rfl)
 clear ho hg hnil hat ho2 hM tM oM OW SRC KA LA LW9 y9 f9 E9 V9 L9 KB8 K89 P8 NFa VB
 have v0 := cell_of V10.out 0
 have v1 := cell_of V10.out 1
 have v2 := cell_of V10.out 2
 have v3 := cell_of V10.out 3
 have v4 := cell_of V10.out 4
 have v5 := cell_of V10.out 5
 have v6 := cell_of V10.out 6
 have v7 := cell_of V10.out 7
 simp at v0 v1 v2 v3 v4 v5 v6 v7
 have H8 := HM
 have T8 := TM
 have E8 := hide EM.out.1
 have N8 := hide EM.out.2
 have NO := hide (note_x (⟨2, g, (bs.length : Int), -1, (b_ : Int), -1, false, false⟩ : Ev) _ H8.out (by have := OK.out.tn; show s.tr.length ≤ _; omega))
 unfold En.evv En.evc at NO
 go_wp2_with fail
 refine NO.out.mono ?_
 rintro r w9 ⟨rfl, ta9, tc9, col9, h9, t9⟩
 have T9 := hide (T8.out.trans t9)
 have H9 := hide h9
 have k9 := cell_of (t9.heap E8.out N8.out) 0
 have ya := cell_of h9.hp 6
 simp [rcs] at ya k9
 have TU := hide (Cr.rturn00 B _ s.cr K g w9 h9.cr OK.out.cb (by omega))
 clear h9 t9 NO
 go_wp2_with fail
 refine TU.out.mono ?_
 rintro r wb ⟨rfl, pb⟩
 obtain ⟨FBb, colb, hb, tb⟩ := H9.out.crew pb
 have Hb := hide hb
 have Tb := hide (T9.out.trans tb)
 clear hb tb pb TU
 go_wp2_with fail
 go_end0
 refine ⟨rfl, colb, ?_, Tb.out⟩
 have e : opensS s (a_ : Int) (b_ : Int) = { s with sts := s.sts.set a_ (some (_root_.Go.Proofs.YtblfimobiibmjabGreat.Pi.st0 b_)), nm := s.nm.set a_ s.md, md := s.md + 1 } := by unfold opensS; simp
 rw [e, MD.out]
 have := Hb.out.lw
 rw [MD.out] at this
 exact this
end Rlo
end Go.Proofs.YtblfimobiibmjabGreat
namespace Go.Proofs.YtblfimobiibmjabGreat
open Go.ChangeShapes Go.WideShapes Go.ChangeAt Go.RowKit
namespace Rlo
open Ba Lo
set_option maxRecDepth 100000 in
set_option maxHeartbeats 1600000 in
theorem rverdict_any (L N : Nat) (col : Nat → Nat) (s : Lm) (w : World) (h : RW w col L N s) :
 Calls Tryz.prog 23 #[.pointer (some ⟨L, 0, none⟩)] w fun r w' => r = .returned (.int .i64 (verd s)) ∧ Below w.heap.size w w' := by
 obtain ⟨C, B, FB, q, pa, pc, oa, oc, bs, Fs, cs, ta, tc, h⟩ := h
 have y17 := cell_of h.hp 17
 have y6 := cell_of h.hp 6
 simp [rcs] at y17 y6
 unfold verd
 cases hp : s.pk
 ·rw [hp] at y17
  simp only [Bool.false_eq_true, if_false]
  have OV := hide (Cr.rover_any B FB s.cr w h.cr)
  generalize Cr.ovr s.cr = ov at OV ⊢
  by_cases h0 : ov = 0
  ·subst h0
   simp only [ne_eq, not_true, if_false]
   obtain ⟨la, ca, lb, cb, P, D, p0, d0, q0, ⟨-, q2, q3, q4, -⟩, -⟩ := h.cu
   have Y5 := hide (fun u (hb : Below w.heap.size w u) => cell_of (heap_below h.hp hb) 5)
   have Q0 := hide (fun u (hb : Below w.heap.size w u) => heap_below q0 hb)
   have hl : s.p.length = p0.length - P := by rw [q3, List.length_drop]
   rw [hl]
   clear h q0 hl q3
   by_cases hP : p0.length - P = 0
   ·rw [if_pos hP]
    have hP' : decide ((p0.length : Int) ≤ (P : Int)) = true := decide_eq_true (by omega)
    go_enter Tryz.func23, Tryz.ntmps23
    go_wp2_with fail
    refine OV.out.mono ?_
    rintro r w1 ⟨rfl, b1⟩
    have z5 := Y5.out w1 b1
    have z0 := cell_of (Q0.out w1 b1) 0
    have z2 := cell_of (Q0.out w1 b1) 2
    simp [rcs] at z5 z0 z2
    have B1 := hide b1
    clear b1 OV Y5 Q0
    go_wp2_with fail
    go_quiet (fail)
    go_wp2_with fail
    go_ret
    exact ⟨rfl, btr B1.out (bdrew _ _)⟩
   ·rw [if_neg hP]
    have hP' : decide ((p0.length : Int) ≤ (P : Int)) = false := decide_eq_false (by omega)
    go_enter Tryz.func23, Tryz.ntmps23
    go_wp2_with fail
    refine OV.out.mono ?_
    rintro r w1 ⟨rfl, b1⟩
    have z5 := Y5.out w1 b1
    have z0 := cell_of (Q0.out w1 b1) 0
    have z2 := cell_of (Q0.out w1 b1) 2
    simp [rcs] at z5 z0 z2
    have B1 := hide b1
    clear b1 OV Y5 Q0
    go_wp2_with fail
    go_quiet (fail)
    go_wp2_with fail
    go_ret
    exact ⟨rfl, btr B1.out (bdrew _ _)⟩
  ·rw [if_pos h0]
   have h0' : (ov != 0) = true := by simp [h0]
   clear h
   go_enter Tryz.func23, Tryz.ntmps23
   go_wp2_with fail
   refine OV.out.mono ?_
   rintro r w1 ⟨rfl, b1⟩
   have B1 := hide b1
   clear b1
   go_wp2_with fail
   go_ret
   exact ⟨rfl, B1.out⟩
 ·rw [hp] at y17
  simp only [if_true]
  clear h
  go_enter Tryz.func23, Tryz.ntmps23
  go_wp2_with fail
  go_ret
  exact ⟨rfl, Below.refl _ _⟩
set_option maxRecDepth 100000 in
set_option maxHeartbeats 1600000 in
theorem rwho_comp (L N : Nat) (col : Nat → Nat) (s : Lm) (w : World) (h : RW w col L N s) (hl : 0 < s.p.length) (ht : nth s.p 0 = -1) :
 Calls Tryz.prog 36 #[.pointer (some ⟨L, 0, none⟩)] w fun r w' => r = .returned (.int .i64 (-1)) ∧ Below w.heap.size w w' := by
 obtain ⟨C, B, FB, q, pa, pc, oa, oc, bs, Fs, cs, ta, tc, h⟩ := h
 obtain ⟨la, ca, lb, cb, P, D, p0, d0, q0, ⟨q1, q2, q3, q4, -⟩, -⟩ := h.cu
 rw [q3, List.length_drop] at hl
 rw [q3, Pk.nth_drop] at ht
 obtain ⟨b, off, rfl, hc⟩ := q1 P (by omega)
 rw [ht] at hc
 have y5 := cell_of h.hp 5
 have z0 := cell_of q0 0
 have z2 := cell_of q0 2
 simp [rcs] at y5 z0 z2
 have hP0 : (0 : Int) ≤ (P : Int) := by omega
 have hP1 : (P : Int) < (p0.length : Int) := by omega
 clear h q1 q0 q3
 go_enter Tryz.func36, Tryz.ntmps36
 go_wp2_with fail
 go_quiet (fail)
 go_wp2_with fail
 go_ret
 exact ⟨rfl, by first | exact bdrew _ _ | exact Below.refl _ _⟩
set_option maxRecDepth 100000 in
set_option maxHeartbeats 1600000 in
theorem rwho_go (L N : Nat) (col : Nat → Nat) (s : Lm) (w : World) (h : RW w col L N s) (hl : 0 < s.p.length) (ht : 0 ≤ nth s.p 0) (hA : 0 < (Cr.abl s.cr).length) (hm : (Cr.abl s.cr).length ≤ 1000) :
 Calls Tryz.prog 36 #[.pointer (some ⟨L, 0, none⟩)] w fun r w' => r = .returned (.int .i64 (whoN s)) ∧ Below w.heap.size w w' := by
 obtain ⟨C, B, FB, q, pa, pc, oa, oc, bs, Fs, cs, ta, tc, h⟩ := h
 obtain ⟨la, ca, lb, cb, P, D, p0, d0, q0, ⟨q1, q2, q3, q4, -⟩, -⟩ := h.cu
 have ew : whoN s = nth (Cr.abl s.cr) ((nth s.p 0).toNat % (Cr.abl s.cr).length) := by
  unfold whoN Pk.ofx
  rw [if_neg (by omega), if_neg (by omega)]
 rw [ew]
 rw [q3, List.length_drop] at hl
 rw [q3, Pk.nth_drop] at ht ⊢
 obtain ⟨b, off, rfl, hc⟩ := q1 P (by omega)
 obtain ⟨n, hn⟩ : ∃ n : Nat, nth p0 P = (n : Int) := ⟨(nth p0 P).toNat, by omega⟩
 rw [hn] at hc ⊢
 rw [Int.toNat_natCast]
 have AB := hide (fun u (hb : Below w.heap.size w u) => Cr.rable_any B FB s.cr u (h.cr.below hb))
 have Y6 := hide (fun u (hb : Below w.heap.size w u) => cell_of (heap_below h.hp hb) 6)
 have y5 := cell_of h.hp 5
 have y6 := cell_of h.hp 6
 have z0 := cell_of q0 0
 have z2 := cell_of q0 2
 simp [rcs] at y5 y6 z0 z2
 have hP0 : (0 : Int) ≤ (P : Int) := by omega
 have hP1 : (P : Int) < (p0.length : Int) := by omega
 have hn1 : ((n : Int) == -1) = false := by rw [beq_eq_false_iff_ne]; omega
 generalize Cr.abl s.cr = l at *
 have hlt := Nat.mod_lt n hA
 have h1 : ((l.length : Int) == 0) = false := by rw [beq_eq_false_iff_ne]; omega
 have h2 : (0 : Int) < (l.length : Int) := by omega
 have h3 : ((n : Int) % (l.length : Int)) = ((n % l.length : Nat) : Int) := by simp
 have h4 : ((n : Int).tmod (l.length : Int)) = ((n % l.length : Nat) : Int) := by rw [Int.tmod_eq_emod_of_nonneg (by omega), h3]
 have hlt' : ((n % l.length : Nat) : Int) < (l.length : Int) := by omega
 generalize n % l.length = m at *
 clear h q1 q0 q3 ew h3
 go_enter Tryz.func36, Tryz.ntmps36
 go_wp2_with fail
 go_quiet (fail)
 go_wp2_with fail
 refine (AB.out _ (bdrew _ _)).mono ?_
 rintro r w1 ⟨ob, d, rfl, a1, b1⟩
 obtain ⟨b', off', rfl, hc'⟩ := a1 m hlt
 have B1 := hide (btr (bdrew w _) b1)
 clear a1 b1 AB Y6
 go_wp2_with fail
 first
  | (go_ret; exact ⟨rfl, B1.out⟩)
  | (go_quiet (fail); go_wp2_with fail; go_ret; exact ⟨rfl, btr B1.out (bdrew _ _)⟩)
end Rlo
end Go.Proofs.YtblfimobiibmjabGreat
namespace Go.Proofs.YtblfimobiibmjabGreat
open Go.ChangeShapes Go.WideShapes Go.ChangeAt Go.RowKit
namespace Lo
open Ba
end Lo
end Go.Proofs.YtblfimobiibmjabGreat
namespace Go.Proofs.YtblfimobiibmjabGreat
open Go.ChangeShapes Go.WideShapes Go.ChangeAt Go.RowKit
namespace Lo
open Ba
def EsAt (w : World) (oa : Option Addr) (l : List Ev) : Prop :=
 ∀ k e, l[k]? = some e → ∃ b off, oa = some ⟨b, off, none⟩ ∧ ∀ j, j < 8 → w.cell? ⟨b, off + k * 8 + j, none⟩ = (En.evc e)[j]?
theorem EsAt.nil (w : World) (oa : Option Addr) : EsAt w oa [] := fun _ _ h => by simp at h
theorem evc_some (e : Ev) (j : Nat) (h : j < 8) : ∃ v, (En.evc e)[j]? = some v := ⟨_, Array.getElem?_eq_getElem h⟩
theorem EsAt.below {w w' : World} {oa : Option Addr} {l : List Ev} (h : EsAt w oa l) (hb : Below w.heap.size w w') : EsAt w' oa l := by
 intro k e hk
 obtain ⟨b, off, he, hc⟩ := h k e hk
 refine ⟨b, off, he, fun j hj => ?_⟩
 obtain ⟨v, hv⟩ := evc_some e j hj
 have := hc j hj
 rw [hv] at this ⊢
 exact (hb.cell (World.block_lt_of_cell? w _ this)).trans this
theorem ec_at : ∀ (l : List Ev) (k : Nat) (e : Ev), l[k]? = some e → ∀ r, r < 8 → (ec l)[k * 8 + r]? = (En.evc e)[r]?
 | [], k, e, h, r, hr => by simp at h
 | y :: l, 0, e, h, r, hr => by
   simp at h
   subst h
   have e1 : ec (y :: l) = (En.evc y).toList ++ ec l := rfl
   rw [e1, Nat.zero_mul, Nat.zero_add, List.getElem?_append_left (by simp [En.evc]; omega)]
   simp
 | y :: l, k + 1, e, h, r, hr => by
   have ih := ec_at l k e (by simpa using h) r hr
   have e1 : ec (y :: l) = (En.evc y).toList ++ ec l := rfl
   rw [e1, List.getElem?_append_right (by simp [En.evc]; omega), ← ih]
   congr 1
   simp [En.evc]
   omega
theorem cs_es {w : World} {b off : Nat} {l : List Ev} (h : ∀ j v, (ec l)[j]? = some v → w.cell? ⟨b, off + j, none⟩ = some v) : EsAt w (some ⟨b, off, none⟩) l := by
 intro k e hk
 refine ⟨b, off, rfl, fun j hj => ?_⟩
 have h1 := ec_at l k e hk j hj
 obtain ⟨v, hv⟩ := evc_some e j hj
 rw [hv] at h1 ⊢
 rw [Nat.add_assoc]
 exact h _ _ h1
theorem own_es {w : World} {base : Nat} {v : Value} {l : List Ev} (h : w.ownsRow base 29 8 v l.length (ec l)) : ∃ ob d, v = .slice ob l.length d ∧ EsAt w ob l ∧ l.length ≤ d ∧ ∀ a, ob = some a → base ≤ a.block := by
 rcases h.2 with ⟨rfl, h0⟩ | ⟨g, cap, cur, rfl, hbase, hg, hc, _, hcs, htk⟩
 ·obtain rfl := List.eq_nil_of_length_eq_zero h0
  exact ⟨none, 0, rfl, EsAt.nil _ _, Nat.le_refl _, fun a e => by cases e⟩
 ·refine ⟨_, cap, rfl, cs_es fun j v hj => ?_, by omega, fun a e => by cases e; exact hbase⟩
  have hjl := (List.getElem?_eq_some_iff.1 hj).1
  rw [ec_len] at hjl
  rw [Nat.zero_add, cell_of hg]
  rw [← htk, List.getElem?_take_of_lt (by omega)] at hj
  simpa using hj
end Lo
end Go.Proofs.YtblfimobiibmjabGreat
namespace Go.Proofs.YtblfimobiibmjabGreat
open Go.ChangeShapes Go.WideShapes Go.ChangeAt Go.RowKit
namespace Lo
open Ba
def opV (o : OpD) (oc : Option Addr) (cc : Nat) : Value := .agg #[.int .i64 o.kind, .int .i64 o.a, .int .i64 o.b, .slice oc o.cases.length cc, .bool o.def_]
theorem size_op : (Tryz.prog.info? 43).map (·.size) = some 5 := by kernel_rfl
theorem loadVar_op {w : World} {b : Nat} {c : Array Value} {t : TypeId} (h : w.heap[b]? = some (.cells c t (0, 0))) (hc : c.size = 5) : (loadVar 43 ⟨b, 0, none⟩).run Tryz.prog w = .ok (.agg c) w :=
 run_loadVar_row w b t _ _ _ _ h Tryz.underlying43 rfl (by rw [size_op, hc])
theorem set5 {w : World} {b : Nat} {t : TypeId} {a0 a1 a2 a3 a4 u0 u1 u2 u3 u4 : Value} (h : w.heap[b]? = some (.cells #[a0, a1, a2, a3, a4] t (0, 0))) : (((((w.setCell ⟨b, 0, none⟩ u0).setCell ⟨b, 1, none⟩ u1).setCell ⟨b, 2, none⟩ u2).setCell ⟨b, 3, none⟩ u3).setCell ⟨b, 4, none⟩ u4).heap[b]? = some (.cells #[u0, u1, u2, u3, u4] t (0, 0)) :=
 (Ba.heap_setCell_same (Ba.heap_setCell_same (Ba.heap_setCell_same (Ba.heap_setCell_same (Ba.heap_setCell_same h _) _) _) _) _).trans rfl
end Lo
end Go.Proofs.YtblfimobiibmjabGreat
namespace Go.Proofs.YtblfimobiibmjabGreat
open Go.ChangeShapes Go.WideShapes Go.ChangeAt Go.RowKit
namespace Lo
open Ba
theorem below_kb {n D : Nat} {w a b : World} (h : Below n w a) (k : KB D a b) (hD : n ≤ D) (hs : n ≤ a.heap.size) : Below n w b :=
 ⟨k.os.trans h.os, k.tape.trans h.tape, k.output.trans h.output, Nat.le_trans h.size k.size, fun x hx => (k.block x (Nat.lt_of_lt_of_le hx hs) (by omega)).trans (h.block x hx)⟩
theorem below5 {n b : Nat} {w a : World} (h : Below n w a) (hb : n ≤ b) (u0 u1 u2 u3 u4 : Value) : Below n w (((((a.setCell ⟨b, 0, none⟩ u0).setCell ⟨b, 1, none⟩ u1).setCell ⟨b, 2, none⟩ u2).setCell ⟨b, 3, none⟩ u3).setCell ⟨b, 4, none⟩ u4) :=
 ((((h.setCell (p := ⟨b, 0, none⟩) hb _).setCell (p := ⟨b, 1, none⟩) hb _).setCell (p := ⟨b, 2, none⟩) hb _).setCell (p := ⟨b, 3, none⟩) hb _).setCell (p := ⟨b, 4, none⟩) hb _
end Lo
end Go.Proofs.YtblfimobiibmjabGreat
namespace Go.Proofs.YtblfimobiibmjabGreat
open Go.ChangeShapes Go.WideShapes Go.ChangeAt Go.RowKit
namespace Rlo
open Ba Lo
set_option maxRecDepth 100000 in
set_option maxHeartbeats 1600000 in
theorem rop_any (L N : Nat) (col : Nat → Nat) (s : Lm) (k p q : Nat) (xs : Int) (w : World) (h : RW w col L N s) (hx : s.cr[k]? = some ⟨p, q, xs⟩) (hpl : p < s.ps.length) :
 Calls Tryz.prog 40 #[.pointer (some ⟨L, 0, none⟩), .int .i64 (k : Int)] w fun r w' => ∃ oc cc, r = .returned (opV (opOf s k) oc cc) ∧ De.CAt w' oc (opOf s k).cases ∧ (0 < (opOf s k).cases.length → ∀ a, oc = some a → a.block < N) ∧ Below w.heap.size w w' := by
 obtain ⟨C, B, FB, hd, pa, pc, oa, oc, bs, Fs, cs, ta, tc, h⟩ := h
 obtain ⟨P, hP⟩ : ∃ P, s.ps[p]? = some P := ⟨_, List.getElem?_eq_getElem hpl⟩
 obtain ⟨w0, hN, b0, PA⟩ := h.ps
 obtain ⟨ma, mc, hM⟩ := h.cr
 have hkl := (List.getElem?_eq_some_iff.1 hx).1
 obtain ⟨mb, rfl, m0, m1, m2⟩ := hM.at.1 k _ hx
 simp only at m0 m1 m2
 have y2 := cell_of h.hp 2
 have y6 := cell_of h.hp 6
 have x0 := cell_of hM.hp 0
 simp [rcs] at y2 y6 x0
 have hL := h.lt
 have hk0 : (0 : Int) ≤ (k : Int) := by omega
 have hk1 : (k : Int) < (s.cr.length : Int) := by omega
 have e : opOf s k = (P[q]?).getD exitO := by
  unfold opOf
  rw [show Cr.gt s.cr (k : Int) = some ⟨p, q, xs⟩ by unfold Cr.gt; rw [if_neg (by omega), Int.toNat_natCast]; exact hx]
  simp [Cr.one0, hP]
 rw [e]
 obtain ⟨pb, po, qa, qc, hpa, hpc, hO, hPl⟩ := PA p P hP
 subst hpa
 have zp := Sh.cellB hpc b0
 have p0 : (0 : Int) ≤ (p : Int) := by omega
 have p1 : (p : Int) < (s.ps.length : Int) := by omega
 have hB := World.block_lt_of_cell? w _ x0
 have hmb := World.block_lt_of_cell? w _ m0
 have hpb := World.block_lt_of_cell? w _ zp
 simp only at hB hmb hpb
 clear h hM
 by_cases hlt : q < P.length
 ·obtain ⟨o, hoq⟩ : ∃ o, P[q]? = some o := ⟨_, List.getElem?_eq_getElem hlt⟩
  rw [hoq]
  simp only [Option.getD_some]
  obtain ⟨ob, oo, ca, cc, hqa, ⟨k0, k1, k2, k3, k4⟩, hCA, -⟩ := hO q o hoq
  subst hqa
  have j0 := Sh.cellB k0 b0
  have j1 := Sh.cellB k1 b0
  have j2 := Sh.cellB k2 b0
  have j3 := Sh.cellB k3 b0
  have j4 := Sh.cellB k4 b0
  have hob := World.block_lt_of_cell? w _ j0
  simp only at hob
  have hq1 : ¬ ((P.length : Int) ≤ (q : Int)) := by omega
  have hq2 : (q : Int) < (P.length : Int) := by omega
  have hq0 : (0 : Int) ≤ (q : Int) := by omega
  have CA := hide hCA
  have B0 := hide b0
  clear hCA hO k0 k1 k2 k3 k4 hpc PA b0
  go_enter Tryz.func40, Tryz.ntmps40
  go_wp2_with fail
  have BB := hide (btr (below_alloc w (.cells #[.int .i64 0, .int .i64 0, .int .i64 0, .slice none 0 0, .bool false] 43)) (below_alloc _ (.cells #[.int .i64 (p : Int), .int .i64 (q : Int), .int .i64 xs] 114)))
  have Z3 := hide (heap_below (heap_new w (.cells #[.int .i64 0, .int .i64 0, .int .i64 0, .slice none 0 0, .bool false] 43)) (below_alloc _ (.cells #[.int .i64 (p : Int), .int .i64 (q : Int), .int .i64 xs] 114)))
  have V3 := hide (En.heap_new2 w (.cells #[.int .i64 0, .int .i64 0, .int .i64 0, .slice none 0 0, .bool false] 43) (.cells #[.int .i64 (p : Int), .int .i64 (q : Int), .int .i64 xs] 114))
  generalize (w.alloc (.cells #[.int .i64 0, .int .i64 0, .int .i64 0, .slice none 0 0, .bool false] 43)).alloc (.cells #[.int .i64 (p : Int), .int .i64 (q : Int), .int .i64 xs] 114) = W at *
  have v0 := cell_of V3.out 0
  have v1 := cell_of V3.out 1
  have c2 := Sh.cellB y2 BB.out
  have cp := Sh.cellB zp BB.out
  have i0 := Sh.cellB j0 BB.out
  have i1 := Sh.cellB j1 BB.out
  have i2 := Sh.cellB j2 BB.out
  have i3 := Sh.cellB j3 BB.out
  have i4 := Sh.cellB j4 BB.out
  have r0 := cell_of Z3.out 0
  have r1 := cell_of Z3.out 1
  have r2 := cell_of Z3.out 2
  have r3 := cell_of Z3.out 3
  have r4 := cell_of Z3.out 4
  have f0 := frozen_of Z3.out 0
  have f1 := frozen_of Z3.out 1
  have f2 := frozen_of Z3.out 2
  have f3 := frozen_of Z3.out 3
  have f4 := frozen_of Z3.out 4
  simp at v0 v1 r0 r1 r2 r3 r4
  clear V3 x0 m0 m1 m2 y6 y2 zp hL hB hmb hpb
  clear j0 j1 j2 j3 j4 hob
  go_wp2_with fail
  go_quiet (fail)
  go_wp2_with fail
  have BE := below5 (btr BB.out (bdrew W nq)) (Nat.le_refl _) (.int .i64 o.kind) (.int .i64 o.a) (.int .i64 o.b) (.slice ca o.cases.length cc) (.bool o.def_)
  refine bodyPost_ret (En.results_row1 Tryz.results40 _ _ _ _ rfl (loadVar_op (set5 (heap_below Z3.out (bdrew W nq))) rfl)) rfl ⟨ca, cc, rfl, (CA.out.below B0.out).below BE, fun h0 a e => ?_, BE⟩
  obtain ⟨b, off, e2, c0, -⟩ := CA.out 0 _ (List.getElem?_eq_getElem h0)
  rw [e] at e2
  cases e2
  exact Nat.lt_of_lt_of_le (World.block_lt_of_cell? w0 _ c0) hN
 ·rw [List.getElem?_eq_none (by omega)]
  simp only [Option.getD_none]
  have hq1 : (P.length : Int) ≤ (q : Int) := by omega
  clear hO hpc PA b0
  go_enter Tryz.func40, Tryz.ntmps40
  go_wp2_with fail
  have BB := hide (btr (below_alloc w (.cells #[.int .i64 0, .int .i64 0, .int .i64 0, .slice none 0 0, .bool false] 43)) (below_alloc _ (.cells #[.int .i64 (p : Int), .int .i64 (q : Int), .int .i64 xs] 114)))
  have Z3 := hide (heap_below (heap_new w (.cells #[.int .i64 0, .int .i64 0, .int .i64 0, .slice none 0 0, .bool false] 43)) (below_alloc _ (.cells #[.int .i64 (p : Int), .int .i64 (q : Int), .int .i64 xs] 114)))
  have V3 := hide (En.heap_new2 w (.cells #[.int .i64 0, .int .i64 0, .int .i64 0, .slice none 0 0, .bool false] 43) (.cells #[.int .i64 (p : Int), .int .i64 (q : Int), .int .i64 xs] 114))
  generalize (w.alloc (.cells #[.int .i64 0, .int .i64 0, .int .i64 0, .slice none 0 0, .bool false] 43)).alloc (.cells #[.int .i64 (p : Int), .int .i64 (q : Int), .int .i64 xs] 114) = W at *
  have v0 := cell_of V3.out 0
  have v1 := cell_of V3.out 1
  have c2 := Sh.cellB y2 BB.out
  have cp := Sh.cellB zp BB.out
  have r0 := cell_of Z3.out 0
  have r1 := cell_of Z3.out 1
  have r2 := cell_of Z3.out 2
  have r3 := cell_of Z3.out 3
  have r4 := cell_of Z3.out 4
  have f0 := frozen_of Z3.out 0
  have f1 := frozen_of Z3.out 1
  have f2 := frozen_of Z3.out 2
  have f3 := frozen_of Z3.out 3
  have f4 := frozen_of Z3.out 4
  simp at v0 v1 r0 r1 r2 r3 r4
  clear V3 x0 m0 m1 m2 y6 y2 zp hL hB hmb hpb
  go_wp2_with fail
  go_quiet (fail)
  go_wp2_with fail
  have BE := below5 (btr BB.out (bdrew W nq)) (Nat.le_refl _) (.int .i64 9) (.int .i64 0) (.int .i64 0) (.slice none 0 0) (.bool false)
  exact bodyPost_ret (En.results_row1 Tryz.results40 _ _ _ _ rfl (loadVar_op (set5 (heap_below Z3.out (bdrew W nq))) rfl)) rfl ⟨none, 0, rfl, (fun k x hk => by simp [exitO] at hk), (fun _ a e => by cases e), BE⟩
end Rlo
end Go.Proofs.YtblfimobiibmjabGreat
namespace Go.Proofs.YtblfimobiibmjabGreat
open Go.ChangeShapes Go.WideShapes Go.ChangeAt Go.RowKit
namespace Lo
open Ba
theorem kn_le {n : Nat} (h : n ≤ 200) : 2 * n * n + 2 * n ≤ 80400 := by
 have : n * n ≤ 200 * 200 := Nat.mul_le_mul h h
 have e : 2 * n * n = 2 * (n * n) := Nat.mul_assoc 2 n n
 omega
theorem Inv.n200 {sc : Sh.Sc} {n : Nat} {s : Lm} (h : Sh.schk sc = 0) (i : Inv sc n s) : n ≤ 200 := by
 have := i.le
 have := (schk_ok h).2.2.1
 omega
theorem Inv.ok {sc : Sh.Sc} {n : Nat} {s : Lm} (h : Sh.schk sc = 0) (i : Inv sc n s) : Ok (2 * n * n + 2 * n) s := by
 have hn := i.n200 h
 refine ⟨i.b.bw.cb, i.b.bw.tn, fun k st e => ?_, fun k st e b => ?_, ?_, i.d⟩
 ·have := i.b.sb k st e
  omega
 ·have := i.b.sb k st e
  unfold _root_.Go.Proofs.YtblfimobiibmjabGreat.Pi.own
  split <;> omega
 ·have := i.b.md
  omega
end Lo
end Go.Proofs.YtblfimobiibmjabGreat
namespace Go.Proofs.YtblfimobiibmjabGreat
open Go.ChangeShapes Go.WideShapes Go.ChangeAt Go.RowKit
namespace Rlo
open Ba Lo
set_option maxRecDepth 100000 in
set_option maxHeartbeats 1600000 in
theorem rstep_over (L N : Nat) (col : Nat → Nat) (s : Lm) (w : World) (h : RW w col L N s) (hv : verd s ≠ 0) :
 Calls Tryz.prog 22 #[.pointer (some ⟨L, 0, none⟩)] w fun r w' => r = .returned (.bool false) ∧ Below w.heap.size w w' := by
 have VD := hide (rverdict_any L N col s w h)
 have hv' : (verd s != 0) = true := by simp [hv]
 generalize verd s = v at VD hv'
 clear h
 go_enter Tryz.func22, Tryz.ntmps22
 go_wp2_with fail
 refine VD.out.mono ?_
 rintro r w1 ⟨rfl, b1⟩
 have B1 := hide b1
 clear b1
 go_wp2_with fail
 go_ret
 exact ⟨rfl, B1.out⟩
set_option maxRecDepth 100000 in
set_option maxHeartbeats 1600000 in
theorem rstep_comp (L N : Nat) (col : Nat → Nat) (s : Lm) (w : World) (h : RW w col L N s) (hv : verd s = 0) (hl : 0 < s.p.length) (ht : nth s.p 0 = -1) (htr : s.tr.length ≤ 1000000) :
 Calls Tryz.prog 22 #[.pointer (some ⟨L, 0, none⟩)] w fun r w' => r = .returned (.bool true) ∧ ∃ col', RW w' col' L N (tellS { s with p := s.p.tail } (bareE 13 (-1))) ∧ Tq col col' w w' := by
 have VD := hide (rverdict_any L N col s w h)
 rw [hv] at VD
 have H := hide h
 clear h
 go_enter Tryz.func22, Tryz.ntmps22
 go_wp2_with fail
 refine VD.out.mono ?_
 rintro r w1 ⟨rfl, b1⟩
 obtain ⟨col1, h1, t1, -⟩ := H.out.below b1
 have T1 := hide t1
 have WH := hide (rwho_comp L N col1 s w1 h1 hl ht)
 have H1 := hide h1
 clear b1 h1 t1 VD
 go_wp2_with fail
 refine WH.out.mono ?_
 rintro r w2 ⟨rfl, b2⟩
 obtain ⟨col2, h2, t2, -⟩ := H1.out.below b2
 obtain ⟨C, B, FB, hd, pa, pc, oa, oc, bs, Fs, cs, ta, tc, h2⟩ := h2
 have T2 := hide (T1.out.trans t2)
 have y5 := cell_of h2.hp 5
 simp [rcs] at y5
 have NX := hide (Pk.rnext_any C N s.p s.d w2 h2.cu h2.nc)
 have H2 := hide h2
 clear b2 h2 t2 WH
 go_wp2_with fail
 refine NX.out.mono ?_
 rintro r w3 ⟨rfl, cu3, kb3⟩
 obtain ⟨col3, h3, t3⟩ := H2.out.cursor cu3 kb3
 have T3 := hide (T2.out.trans t3)
 have H3 := hide h3
 clear cu3 kb3 h3 t3 NX y5
 go_wp2_with fail
 refine (bare_r 13 (-1) _).mono ?_
 rintro r w4 ⟨rfl, b4⟩
 unfold En.evv En.evc bareE
 obtain ⟨col4, h4, t4, -⟩ := H3.out.below b4
 have T4 := hide (T3.out.trans t4)
 have NO := hide (note_any L N col4 _ (bareE 13 (-1)) w4 h4.lw htr)
 unfold En.evv En.evc at NO
 simp only [bareE] at NO
 clear b4 h4 t4
 go_wp2_with fail
 refine NO.out.mono ?_
 rintro r w5 ⟨rfl, col5, h5, t5⟩
 have H5 := hide h5
 have T5 := hide (T4.out.trans t5)
 clear h5 t5 NO
 go_wp2_with fail
 go_ret
 exact ⟨rfl, col5, H5.out, T5.out⟩
set_option maxRecDepth 100000 in
set_option maxHeartbeats 6400000 in
theorem rstep_op (L N : Nat) (col : Nat → Nat) (s : Lm) (K k p q : Nat) (xs n : Int) (w : World) (h : RW w col L N s) (ok : Ok K s) (hK : K ≤ 90000) (hv : verd s = 0) (hl : 0 < s.p.length) (ht : 0 ≤ nth s.p 0) (hA : 0 < (Cr.abl s.cr).length) (hm : (Cr.abl s.cr).length ≤ 1000)
 (hw : whoN s = (k : Int)) (hx : s.cr[k]? = some ⟨p, q, xs⟩) (hpl : p < s.ps.length) (ho : De.chk (opOf s (k : Int)) n = 0) (wb : WB s) (R : Lm) (hR : R = doF { s with p := s.p.tail } (k : Int) (opOf s (k : Int))) :
 Calls Tryz.prog 22 #[.pointer (some ⟨L, 0, none⟩)] w fun r w' => r = .returned (.bool true) ∧ ∃ col', RW w' col' L N R ∧ Tq col col' w w' := by
 have VD := hide (rverdict_any L N col s w h)
 rw [hv] at VD
 have H := hide h
 have OK : Hid (Ok K { s with p := s.p.tail }) := ⟨ok.cb, ok.tn, ok.sm, ok.wl, ok.md, ok.dd⟩
 have WBH : Hid (WB { s with p := s.p.tail }) := wb
 have HR := hide hR
 have HO := hide ho
 have HL := hide (And.intro hl (And.intro ht (And.intro hA hm)))
 have HW := hide hw
 have HX := hide hx
 have k0 : ¬ ((k : Int) < 0) := by omega
 have hoe : opOf { s with p := s.p.tail } (k : Int) = opOf s (k : Int) := rfl
 have RO := hide (fun (c : Nat → Nat) (u : World) (z : RW u c L N { s with p := s.p.tail }) => rop_any L N c { s with p := s.p.tail } k p q xs u z hx hpl)
 rw [hoe] at RO
 generalize opOf s (k : Int) = o at *
 clear h ok hR ho hl ht hA hm hw hx wb hoe
 unfold opV at RO
 go_enter Tryz.func22, Tryz.ntmps22
 go_wp2_with fail
 refine VD.out.mono ?_
 rintro r w1 ⟨rfl, b1⟩
 obtain ⟨col1, h1, t1, -⟩ := H.out.below b1
 have T1 := hide t1
 have WH := hide (rwho_go L N col1 s w1 h1 HL.out.1 HL.out.2.1 HL.out.2.2.1 HL.out.2.2.2)
 rw [HW.out] at WH
 have H1 := hide h1
 clear b1 h1 t1 VD
 go_wp2_with fail
 refine WH.out.mono ?_
 rintro r w2 ⟨rfl, b2⟩
 obtain ⟨col2, h2, t2, -⟩ := H1.out.below b2
 obtain ⟨C, B, FB, hd, pa, pc, oa, oc0, bs, Fs, cs0, ta, tc, h2⟩ := h2
 have T2 := hide (T1.out.trans t2)
 have y5 := cell_of h2.hp 5
 simp [rcs] at y5
 have NX := hide (Pk.rnext_any C N s.p s.d w2 h2.cu h2.nc)
 have H2 := hide h2
 clear b2 h2 t2 WH
 go_wp2_with fail
 refine NX.out.mono ?_
 rintro r w3 ⟨rfl, cu3, kb3⟩
 obtain ⟨col3, h3, t3⟩ := H2.out.cursor cu3 kb3
 have T3 := hide (T2.out.trans t3)
 have RO3 := hide (RO.out col3 w3 h3.lw)
 have H3 := hide h3
 clear cu3 kb3 h3 t3 NX y5 RO H1 H2 T1 T2
 go_wp2_with fail
 refine RO3.out.mono ?_
 rintro r w4 ⟨oc, cc, rfl, ca4, nb4, b4⟩
 obtain ⟨kind, a, b, cs, df⟩ := o
 simp only at ca4 nb4 ⊢
 obtain ⟨col5, h5, t5, -⟩ := H3.out.below (btr b4 (below_alloc w4 (.cells #[.int .i64 kind, .int .i64 a, .int .i64 b, .slice oc cs.length cc, .bool df] 43)))
 have T5 := hide (T3.out.trans t5)
 have CA := hide (ca4.below (below_alloc w4 (.cells #[.int .i64 kind, .int .i64 a, .int .i64 b, .slice oc cs.length cc, .bool df] 43)))
 have NB := hide nb4
 obtain ⟨-, hk, h4, ha, hb, -, hcs⟩ := op_ok HO.out
 simp only at hk h4 ha hb hcs
 have HCS := hide hcs
 have H5 := hide h5.lw
 clear ca4 nb4 b4 h5 t5 RO3 H3 T3 HL HW HX HO hcs
 rcases (show kind = 1 ∨ kind = 2 ∨ kind = 3 ∨ kind = 4 ∨ kind = 5 ∨ kind = 6 ∨ kind = 7 ∨ kind = 8 ∨ kind = 9 by omega) with rfl | rfl | rfl | rfl | rfl | rfl | rfl | rfl | rfl
 ·have CL := hide (other_spawn L N col5 { s with p := s.p.tail } K (k : Int) a b oc cs.length cc df _ H5.out OK.out (by omega))
  have RE : Hid (R = goS { s with p := s.p.tail, cr := Cr.spL s.cr a } ⟨1, (k : Int), -1, -1, a, Cr.spV s.cr a, false, false⟩) := by
   show _ = _
   rw [HR.out]
   rfl
  rw [← RE.out] at CL
  clear hk ha hb HR RE
  go_wp2_with fail
  refine CL.out.mono ?_
  rintro r w6 ⟨rfl, col6, h6, t6⟩
  have H6 := hide h6
  have T6 := hide (T5.out.trans t6)
  clear h6 t6 CL
  go_wp2_with fail
  go_ret
  exact ⟨rfl, col6, H6.out, T6.out⟩
 ·simp [De.mA, De.mB] at ha hb
  obtain ⟨ka, rfl⟩ : ∃ ka : Nat, a = (ka : Int) := ⟨a.toNat, by omega⟩
  obtain ⟨kb, rfl⟩ : ∃ kb : Nat, b = (kb : Int) := ⟨b.toNat, by omega⟩
  have CL := hide (other_make L N col5 { s with p := s.p.tail } K (k : Int) ka kb (by omega) (by omega) oc cs.length cc df _ H5.out OK.out (by omega))
  have RE : Hid (R = goS (opensS { s with p := s.p.tail } ka kb) ⟨2, (k : Int), s.md, -1, kb, -1, false, false⟩) := by
   show _ = _
   rw [HR.out]
   rfl
  rw [← RE.out] at CL
  clear hk ha hb HR RE
  go_wp2_with fail
  refine CL.out.mono ?_
  rintro r w6 ⟨rfl, col6, h6, t6⟩
  have H6 := hide h6
  have T6 := hide (T5.out.trans t6)
  clear h6 t6 CL
  go_wp2_with fail
  go_ret
  exact ⟨rfl, col6, H6.out, T6.out⟩
 ·simp [De.mA] at ha
  obtain ⟨ka, rfl⟩ : ∃ ka : Nat, a = (ka : Int) := ⟨a.toNat, by omega⟩
  have CL := hide (alone_r L N col5 { s with p := s.p.tail } K (k : Int) true ka b _ H5.out OK.out (by omega) (by omega))
  have RE : Hid (R = aloneR { s with p := s.p.tail } (k : Int) ⟨true, ka, b⟩) := by
   show _ = _
   rw [HR.out]
   rw [alone_is]
   rfl
  rw [← RE.out] at CL
  clear hk ha hb HR RE
  go_wp2_with fail
  refine CL.out.mono ?_
  rintro r w6 ⟨rfl, col6, h6, t6⟩
  have H6 := hide h6
  have T6 := hide (T5.out.trans t6)
  clear h6 t6 CL
  go_wp2_with fail
  go_ret
  exact ⟨rfl, col6, H6.out, T6.out⟩
 ·simp [De.mA] at ha
  obtain ⟨ka, rfl⟩ : ∃ ka : Nat, a = (ka : Int) := ⟨a.toNat, by omega⟩
  have CL := hide (alone_r L N col5 { s with p := s.p.tail } K (k : Int) false ka 0 _ H5.out OK.out (by omega) (by omega))
  have RE : Hid (R = aloneR { s with p := s.p.tail } (k : Int) ⟨false, ka, 0⟩) := by
   show _ = _
   rw [HR.out]
   rw [alone_is, alone_fine _ _ _ rfl]
   rfl
  rw [← RE.out] at CL
  clear hk ha hb HR RE
  go_wp2_with fail
  refine CL.out.mono ?_
  rintro r w6 ⟨rfl, col6, h6, t6⟩
  have H6 := hide h6
  have T6 := hide (T5.out.trans t6)
  clear h6 t6 CL
  go_wp2_with fail
  go_ret
  exact ⟨rfl, col6, H6.out, T6.out⟩
 ·simp [De.mA] at ha
  obtain ⟨ka, rfl⟩ : ∃ ka : Nat, a = (ka : Int) := ⟨a.toNat, by omega⟩
  have CL := hide (shut_any L N col5 { s with p := s.p.tail } K (k : Int) ka _ H5.out OK.out hK (by omega) (by omega) WBH.out)
  have RE : Hid (R = shutR { s with p := s.p.tail } (k : Int) ka) := by
   show _ = _
   rw [HR.out]
   rfl
  rw [← RE.out] at CL
  clear hk ha hb HR RE
  go_wp2_with fail
  refine CL.out.mono ?_
  rintro r w6 ⟨rfl, col6, h6, t6⟩
  have H6 := hide h6
  have T6 := hide (T5.out.trans t6)
  clear h6 t6 CL
  go_wp2_with fail
  go_ret
  exact ⟨rfl, col6, H6.out, T6.out⟩
 ·have CL := hide (choose_r L N col5 { s with p := s.p.tail } K (k : Int) 6 a b cs df oc cc _ H5.out OK.out (by omega) CA.out NB.out h4 (fun c hc => (HCS.out c hc).1))
  have RE : Hid (R = chooseR { s with p := s.p.tail } (k : Int) ⟨6, a, b, cs, df⟩) := by
   show _ = _
   rw [HR.out]
   rw [choose_is _ _ _ h4 OK.out.dd]
   rfl
  rw [← RE.out] at CL
  clear hk ha hb HR RE
  go_wp2_with fail
  refine CL.out.mono ?_
  rintro r w6 ⟨rfl, col6, h6, t6⟩
  have H6 := hide h6
  have T6 := hide (T5.out.trans t6)
  clear h6 t6 CL
  go_wp2_with fail
  go_ret
  exact ⟨rfl, col6, H6.out, T6.out⟩
 ·have CL := hide (other_read L N col5 { s with p := s.p.tail } K (k : Int) a b oc cs.length cc df _ H5.out OK.out (by omega))
  have RE : Hid (R = goS { s with p := s.p.tail } ⟨9, (k : Int), -1, -1, a, -1, false, false⟩) := by
   show _ = _
   rw [HR.out]
   rfl
  rw [← RE.out] at CL
  clear hk ha hb HR RE
  go_wp2_with fail
  refine CL.out.mono ?_
  rintro r w6 ⟨rfl, col6, h6, t6⟩
  have H6 := hide h6
  have T6 := hide (T5.out.trans t6)
  clear h6 t6 CL
  go_wp2_with fail
  go_ret
  exact ⟨rfl, col6, H6.out, T6.out⟩
 ·have CL := hide (other_write L N col5 { s with p := s.p.tail } K (k : Int) a b oc cs.length cc df _ H5.out OK.out (by omega))
  have RE : Hid (R = goS { s with p := s.p.tail } ⟨10, (k : Int), -1, -1, a, -1, false, false⟩) := by
   show _ = _
   rw [HR.out]
   rfl
  rw [← RE.out] at CL
  clear hk ha hb HR RE
  go_wp2_with fail
  refine CL.out.mono ?_
  rintro r w6 ⟨rfl, col6, h6, t6⟩
  have H6 := hide h6
  have T6 := hide (T5.out.trans t6)
  clear h6 t6 CL
  go_wp2_with fail
  go_ret
  exact ⟨rfl, col6, H6.out, T6.out⟩
 ·have CL := hide (other_exit L N col5 { s with p := s.p.tail } K (k : Int) a b oc cs.length cc df _ H5.out OK.out (by omega))
  have RE : Hid (R = tellS { s with p := s.p.tail, cr := Cr.chL s.cr (k : Int) 0 2 0 } (bareE 11 (k : Int))) := by
   show _ = _
   rw [HR.out]
   rfl
  rw [← RE.out] at CL
  clear hk ha hb HR RE
  go_wp2_with fail
  refine CL.out.mono ?_
  rintro r w6 ⟨rfl, col6, h6, t6⟩
  have H6 := hide h6
  have T6 := hide (T5.out.trans t6)
  clear h6 t6 CL
  go_wp2_with fail
  go_ret
  exact ⟨rfl, col6, H6.out, T6.out⟩
theorem abl_len (l : List Mb) : ∀ j, (Cr.ablF j l).length ≤ l.length := by
 induction l with
 | nil => intro j; simp [Cr.ablF]
 | cons y l ih =>
   intro j
   unfold Cr.ablF
   have := ih (j + 1)
   split <;> simp <;> omega
theorem rstep_any (L N : Nat) (col : Nat → Nat) (sc : Sh.Sc) (n : Nat) (s : Lm) (w : World) (h : RW w col L N s) (hs : Sh.schk sc = 0) (i : Inv sc n s) (wb : WB s) (hv : verd s = 0) :
 Calls Tryz.prog 22 #[.pointer (some ⟨L, 0, none⟩)] w fun r w' => r = .returned (.bool true) ∧ ∃ col', RW w' col' L N (stepF s) ∧ Tq col col' w w' := by
 have hn := i.n200 hs
 have hk := kn_le hn
 have ok := i.ok hs
 obtain ⟨h1, h2, h3, h4, h5, h6, h7⟩ := schk_ok hs
 have hpl : 0 < s.p.length := by
  rcases Nat.eq_zero_or_pos s.p.length with z | z
  ·exfalso
   unfold verd at hv
   rw [if_pos z] at hv
   split at hv
   ·omega
   ·split at hv <;> omega
  ·exact z
 by_cases ht : nth s.p 0 = -1
 ·have e : stepF s = tellS { s with p := s.p.tail } (bareE 13 (-1)) := by
   unfold stepF
   rw [if_neg (by omega), if_pos ht]
  rw [e]
  exact rstep_comp L N col s w h hv hpl ht (by have := ok.tn; omega)
 ·have e : stepF s = doF { s with p := s.p.tail } (whoN s) (opOf s (whoN s)) := by
   unfold stepF
   rw [if_neg (by omega), if_neg ht]
  have ht0 : 0 ≤ nth s.p 0 := by
   have hm : nth s.p 0 ∈ sc.pl := by
    rw [nth_lt _ _ hpl]
    have hsub : ∀ x ∈ s.p, x ∈ sc.pl := fun x hx => by
     rw [i.p] at hx
     exact List.mem_of_mem_drop hx
    exact hsub _ (List.getElem_mem hpl)
   have := h6 _ hm
   omega
  obtain ⟨k, y, hwk, hky, hy0⟩ := who_ok hv ht0
  have hym := List.mem_of_getElem? hky
  have hyp := i.b.cp y hym
  have hyq := i.b.bw.cb y hym
  have hA : 0 < (Cr.abl s.cr).length := by
   apply abl_pos
   unfold Cr.hasS
   rw [List.any_eq_true]
   exact ⟨y, hym, by simp [hy0]⟩
  have hm : (Cr.abl s.cr).length ≤ 1000 := by
   have e1 : (Cr.abl s.cr).length ≤ s.cr.length := abl_len s.cr 0
   have e2 := i.b.cl
   omega
  rw [hwk] at e
  obtain ⟨yp, yq, ys⟩ := y
  simp only at hyp hyq
  obtain ⟨p, rfl⟩ : ∃ p : Nat, yp = (p : Int) := ⟨yp.toNat, by omega⟩
  obtain ⟨q, rfl⟩ : ∃ q : Nat, yq = (q : Int) := ⟨yq.toNat, by omega⟩
  exact rstep_op L N col s _ k p q ys sc.ps.length w h ok (by omega) hv hpl ht0 hA hm hwk hky (by rw [i.ps]; omega) (op_chk hs i _) wb _ e
end Rlo
end Go.Proofs.YtblfimobiibmjabGreat
namespace Go.Proofs.YtblfimobiibmjabGreat
open Go.ChangeShapes Go.WideShapes Go.ChangeAt Go.RowKit
open Go.Shelf
namespace Sh
open De Ba Re
end Sh
end Go.Proofs.YtblfimobiibmjabGreat
namespace Go.Proofs.YtblfimobiibmjabGreat
open Go.ChangeShapes Go.WideShapes Go.ChangeAt Go.RowKit
namespace Sh
open De Ba Re
end Sh
end Go.Proofs.YtblfimobiibmjabGreat
namespace Go.Proofs.YtblfimobiibmjabGreat
open Go.ChangeShapes Go.WideShapes Go.ChangeAt Go.RowKit
namespace Sh
open De Ba Re
end Sh
end Go.Proofs.YtblfimobiibmjabGreat
namespace Go.Proofs.YtblfimobiibmjabGreat
open Go.ChangeShapes Go.WideShapes Go.ChangeAt Go.RowKit
namespace Sh
open De Ba Re
end Sh
end Go.Proofs.YtblfimobiibmjabGreat
