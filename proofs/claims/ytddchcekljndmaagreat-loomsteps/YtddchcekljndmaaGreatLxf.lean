/- A loom's step, its events in new memory; two looms side by side, over this seat's program. -/
import Derived.Test.YtddchcekljndmaaGreatZjLs14
namespace Go.Proofs.YtddchcekljndmaaGreat
open Go.ChangeShapes Go.WideShapes Go.ChangeAt Go.RowKit
namespace Lo
open Ba

set_option maxRecDepth 100000 in
set_option maxHeartbeats 3200000 in
theorem step_compF (L : Nat) (col : Nat → Nat) (s : Lm) (K : Nat) (w : World) (h : LW w col L s) (ok : Ok K s) (hK : K ≤ 90000) (hv : verd s = 0) (hl : s.p.length ≤ 1000 ∧ s.d.length ≤ 1000) (ht : nth s.p 0 = -1) (s' : Lm) (hs' : s' = tellS { s with p := s.p.tail } (bareE 13 (-1))) :
    Calls Tryz.prog 18 #[.pointer (some ⟨L, 0, none⟩)] w fun r w' => ∃ ob d, r = .returned (.slice ob (s'.tr.length - s.tr.length) d) ∧ (EsAt w' ob (s'.tr.drop s.tr.length) ∧ ∀ a, ob = some a → w.heap.size ≤ a.block) ∧ ∃ col', LW w' col' L s' ∧ Tr col col' w w' := by
  have NX := hide (next_comp L col s K w h ok.cb hv hl ht)
  have H := hide h
  have OK := hide ok
  have HS := hide hs'
  clear h ok hs'
  go_enter Tryz.func18, Tryz.ntmps18
  go_wp2_with fail
  refine NX.out.mono ?_
  rintro r w1 ⟨rfl, b1⟩
  obtain ⟨col2, h2, t2, -⟩ := H.out.below (btr b1 (below_alloc w1 (.cells #[.int .i64 0, .int .i64 0, .int .i64 0, .slice none 0 0, .bool false] 44)))
  obtain ⟨N, C, B, X, FB, pa, pc, bs, Fs, ta, tc, h2⟩ := h2
  have T2 := hide t2
  have H2 := hide h2
  have y1 : (w1.alloc (.cells #[.int .i64 0, .int .i64 0, .int .i64 0, .slice none 0 0, .bool false] 44)).cell? ⟨L, 1, none⟩ = some (.pointer (some ⟨C, 0, none⟩)) := cell_of h2.hp 1
  have CN := hide (Lk.next_cu N C s.p s.d _ h2.cu)
  clear b1 h2 t2 NX
  go_wp2_with fail
  refine CN.out.mono ?_
  rintro r w3 ⟨rfl, cu3, kb3⟩
  obtain ⟨col3, h3, t3⟩ := H2.out.cursor cu3 kb3
  have T3 := hide (T2.out.trans t3)
  have y13 : w3.cell? ⟨L, 13, none⟩ = some (.slice ta s.tr.length tc) := cell_of h3.hp 13
  have H3 := hide h3
  clear cu3 kb3 h3 t3 H2 T2 y1 CN
  go_wp2_with fail
  refine (En.bare_any 13 (-1) _).mono ?_
  rintro r w4 ⟨rfl, b4⟩
  obtain ⟨col4, h4, t4, -⟩ := H3.out.lw.below b4
  have T4 := hide (T3.out.trans t4)
  have TE := hide (tell_any L col4 _ (bareE 13 (-1)) w4 h4 (by have := OK.out.tn; show s.tr.length ≤ _; omega))
  unfold En.evv En.evc bareE at TE
  clear b4 h4 t4 H3 T3
  go_wp2_with fail
  refine TE.out.mono ?_
  rintro r w5 ⟨rfl, col5, h5, t5⟩
  have T5 := hide (T4.out.trans t5)
  have h5' : LW w5 col5 L s' := by rw [HS.out]; exact h5
  obtain ⟨j, hj1, hj2, hlen⟩ : ∃ j, 0 < j ∧ j ≤ 1000000 ∧ s'.tr.length = s.tr.length + j := ⟨1, by omega, by omega, by rw [HS.out]; simp [tellS]⟩
  clear h5 t5 TE T4
  obtain ⟨N5, C5, B5, X5, FB5, pa5, pc5, bs5, Fs5, ta5, tc5, h5⟩ := h5'
  rcases h5.tr.2 with ⟨e1, e2⟩ | ⟨g5, cap5, cur5, e1, -, -, hcap, -⟩
  · omega
  · cases e1
    have ES := hide (tail_es (n := s.tr.length) h5.tr)
    have y5 : w5.cell? ⟨L, 13, none⟩ = some (.slice (some ⟨g5, 0, none⟩) s'.tr.length tc5) := cell_of h5.hp 13
    have H5 := hide h5
    have hlt := OK.out.tn
    have CE := hide (fun (l : List Ev) (oa : Option Addr) (c : Nat) (q : EsAt w5 oa l) (z : l.length ≤ 1000000) => clone_es oa l c w5 q z)
    have hdl : (s'.tr.drop s.tr.length).length = j := by rw [List.length_drop, hlen]; omega
    have CEs := hide (CE.out (s'.tr.drop s.tr.length) _ (tc5 - s.tr.length) ES.out (by omega))
    rw [hdl] at CEs
    have T5s := T5.out.size
    rw [hlen] at y5 hcap
    have hsub : s'.tr.length - s.tr.length = j := by omega
    clear h5 y13 ES CE
    generalize hk : s.tr.length = k at y5 hcap CEs hlt
    go_wp2_with fail
    refine CEs.out.mono ?_
    rintro r w6 ⟨ob, d, rfl, es6, n6, b6⟩
    have N6 : Hid (∀ a, ob = some a → w.heap.size ≤ a.block) := fun a e => Nat.le_trans T5s (n6.2 a e)
    obtain ⟨col6, h6, t6, -⟩ := H5.out.lw.below b6
    have H6 := hide h6
    have T6 := hide (T5.out.trans t6)
    have E6 := hide es6
    clear h6 t6 es6 n6 b6 CEs
    go_wp2_with fail
    go_ret
    exact ⟨ob, d, by (rw [hsub]) <;> rfl, ⟨by rw [hk]; exact E6.out, N6.out⟩, col6, H6.out, T6.out⟩
set_option maxRecDepth 100000 in
set_option maxHeartbeats 3200000 in
theorem step_opF (L : Nat) (col : Nat → Nat) (s : Lm) (K p q : Nat) (n : Int) (w : World) (h : LW w col L s) (ok : Ok K s) (hK : K ≤ 90000) (hv : verd s = 0) (hl : s.p.length ≤ 1000 ∧ s.d.length ≤ 1000) (ht : nth s.p 0 ≠ -1)
    (hp : (Cr.one0 (Cr.gt s.cr (whoN s))).p = (p : Int)) (hq : (Cr.one0 (Cr.gt s.cr (whoN s))).q = (q : Int)) (hpl : p < s.ps.length) (hs4 : ∀ x ∈ s.ps, ∀ o ∈ x, o.cases.length ≤ 4) (ho : De.chk (opOf s (whoN s)) n = 0) (hw : whoN s ≠ -1)
    (s' : Lm) (hs' : s' = doF { s with p := s.p.tail } (whoN s) (opOf s (whoN s))) (hb' : s'.tr.length ≤ 1000000) :
    Calls Tryz.prog 18 #[.pointer (some ⟨L, 0, none⟩)] w fun r w' => ∃ ob d, r = .returned (.slice ob (s'.tr.length - s.tr.length) d) ∧ (EsAt w' ob (s'.tr.drop s.tr.length) ∧ ∀ a, ob = some a → w.heap.size ≤ a.block) ∧ ∃ col', LW w' col' L s' ∧ Tr col col' w w' := by
  have NX := hide (next_op L col s K p q w h ok.cb hv hl ht hp hq hpl hs4)
  have SPD := hide (sp_do (s := { s with p := s.p.tail }) (g := whoN s) ho ok.dd hw)
  have DO := hide (fun u c oc cc (x : LW u c L { s with p := s.p.tail }) (y : De.CAt u oc (opOf s (whoN s)).cases) z => do_any L c { s with p := s.p.tail } K (whoN s) (opOf s (whoN s)) oc cc u n x ⟨ok.cb, ok.tn, ok.sm, ok.wl, ok.md, ok.dd⟩ hK ho y z)
  have H := hide h
  have OK := hide ok
  rw [← hs'] at DO SPD
  have hw' : (whoN s == -1) = false := by simp [hw]
  clear h ok hs' ho hp hq
  generalize opOf s (whoN s) = o at NX DO
  generalize whoN s = g at *
  unfold opV at NX DO
  go_enter Tryz.func18, Tryz.ntmps18
  go_wp2_with fail
  refine NX.out.mono ?_
  rintro r w1 ⟨oc, cc, rfl, hc1, hn1, b1⟩
  obtain ⟨col2, h2, t2, n2⟩ := H.out.below (btr b1 (below_alloc w1 (.cells #[.int .i64 o.kind, .int .i64 o.a, .int .i64 o.b, .slice oc o.cases.length cc, .bool o.def_] 44)))
  obtain ⟨N, C, B, X, FB, pa, pc, bs, Fs, ta, tc, h2⟩ := h2
  have T2 := hide t2
  have H2 := hide h2
  have y1 : (w1.alloc (.cells #[.int .i64 o.kind, .int .i64 o.a, .int .i64 o.b, .slice oc o.cases.length cc, .bool o.def_] 44)).cell? ⟨L, 1, none⟩ = some (.pointer (some ⟨C, 0, none⟩)) := cell_of h2.hp 1
  have CN := hide (Lk.next_cu N C s.p s.d _ h2.cu)
  have C2 := hide (hc1.below (below_alloc w1 (.cells #[.int .i64 o.kind, .int .i64 o.a, .int .i64 o.b, .slice oc o.cases.length cc, .bool o.def_] 44)))
  have D2 : Hid (0 < o.cases.length → ∀ a, oc = some a → col2 a.block = 7) := fun _ a e => n2 _ (hn1 a e)
  have V2 := hide (heap_new w1 (.cells #[.int .i64 o.kind, .int .i64 o.a, .int .i64 o.b, .slice oc o.cases.length cc, .bool o.def_] 44))
  have E2 := hide (n2 w1.heap.size b1.size)
  clear b1 h2 t2 NX n2 hc1 hn1
  go_wp2_with fail
  refine CN.out.mono ?_
  rintro r w3 ⟨rfl, cu3, kb3⟩
  obtain ⟨col3, h3, t3⟩ := H2.out.cursor cu3 kb3
  have T3 := hide (T2.out.trans t3)
  have y13 : w3.cell? ⟨L, 13, none⟩ = some (.slice ta s.tr.length tc) := cell_of h3.hp 13
  obtain ⟨c3, d3⟩ := cat_tr C2.out D2.out t3
  have V3 := hide (t3.heap V2.out E2.out)
  have DO3 := hide (DO.out w3 col3 oc cc h3.lw c3 d3)
  have v0 := cell_of V3.out 0
  have v1 := cell_of V3.out 1
  have v2 := cell_of V3.out 2
  have v3 := cell_of V3.out 3
  have v4 := cell_of V3.out 4
  simp at v0 v1 v2 v3 v4
  clear cu3 kb3 h3 t3 H2 T2 y1 CN c3 d3 V2 C2 D2 DO
  go_wp2_with fail
  refine DO3.out.mono ?_
  rintro r w5 ⟨rfl, col5, h5', t5⟩
  have T5 := hide (T3.out.trans t5)
  obtain ⟨j, hj1, hj2, hlen⟩ : ∃ j, 0 < j ∧ j ≤ 1000000 ∧ s'.tr.length = s.tr.length + j := by
    obtain ⟨e, l, hel⟩ := SPD.out
    have : s'.tr.length = s.tr.length + (l.length + 1) := by rw [hel]; simp
    exact ⟨l.length + 1, by omega, by omega, this⟩
  clear t5 DO3 T3 SPD v0 v1 v2 v3 v4 V3
  obtain ⟨N5, C5, B5, X5, FB5, pa5, pc5, bs5, Fs5, ta5, tc5, h5⟩ := h5'
  rcases h5.tr.2 with ⟨e1, e2⟩ | ⟨g5, cap5, cur5, e1, -, -, hcap, -⟩
  · omega
  · cases e1
    have ES := hide (tail_es (n := s.tr.length) h5.tr)
    have y5 : w5.cell? ⟨L, 13, none⟩ = some (.slice (some ⟨g5, 0, none⟩) s'.tr.length tc5) := cell_of h5.hp 13
    have H5 := hide h5
    have hlt := OK.out.tn
    have CE := hide (fun (l : List Ev) (oa : Option Addr) (c : Nat) (q : EsAt w5 oa l) (z : l.length ≤ 1000000) => clone_es oa l c w5 q z)
    have hdl : (s'.tr.drop s.tr.length).length = j := by rw [List.length_drop, hlen]; omega
    have CEs := hide (CE.out (s'.tr.drop s.tr.length) _ (tc5 - s.tr.length) ES.out (by omega))
    rw [hdl] at CEs
    have T5s := T5.out.size
    rw [hlen] at y5 hcap
    have hsub : s'.tr.length - s.tr.length = j := by omega
    clear h5 y13 ES CE
    generalize hk : s.tr.length = k at y5 hcap CEs hlt
    go_wp2_with fail
    refine CEs.out.mono ?_
    rintro r w6 ⟨ob, d, rfl, es6, n6, b6⟩
    have N6 : Hid (∀ a, ob = some a → w.heap.size ≤ a.block) := fun a e => Nat.le_trans T5s (n6.2 a e)
    obtain ⟨col6, h6, t6, -⟩ := H5.out.lw.below b6
    have H6 := hide h6
    have T6 := hide (T5.out.trans t6)
    have E6 := hide es6
    clear h6 t6 es6 n6 b6 CEs
    go_wp2_with fail
    go_ret
    exact ⟨ob, d, by (rw [hsub]) <;> rfl, ⟨by rw [hk]; exact E6.out, N6.out⟩, col6, H6.out, T6.out⟩
theorem step_anyF (L : Nat) (col : Nat → Nat) (sc : Sh.Sc) (n : Nat) (s : Lm) (w : World) (h : LW w col L s) (hs : Sh.schk sc = 0) (i : Inv sc n s) (hv : verd s = 0) :
    Calls Tryz.prog 18 #[.pointer (some ⟨L, 0, none⟩)] w fun r w' => ∃ ob d, r = .returned (.slice ob ((stepF s).tr.length - s.tr.length) d) ∧ (EsAt w' ob ((stepF s).tr.drop s.tr.length) ∧ ∀ a, ob = some a → w.heap.size ≤ a.block) ∧ ∃ col', LW w' col' L (stepF s) ∧ Tr col col' w w' := by
  have hn := i.n200 hs
  have hk := kn_le hn
  have ok := i.ok hs
  obtain ⟨h1, h2, h3, h4, h5, h6, h7⟩ := schk_ok hs
  have hl : s.p.length ≤ 1000 ∧ s.d.length ≤ 1000 := by
    have := i.dl
    rw [i.p, List.length_drop]
    omega
  have i2 := i.step hs hv
  have hn2 := i2.n200 hs
  have hk2 := kn_le hn2
  have hb := i2.b.bw.tn
  by_cases ht : nth s.p 0 = -1
  · have e : stepF s = tellS { s with p := s.p.tail } (bareE 13 (-1)) := by
      unfold stepF
      rw [if_neg (by omega), if_pos ht]
    exact step_compF L col s _ w h ok (by omega) hv hl ht _ e
  · have e : stepF s = doF { s with p := s.p.tail } (whoN s) (opOf s (whoN s)) := by
      unfold stepF
      rw [if_neg (by omega), if_neg ht]
    have ht0 : 0 ≤ nth s.p 0 := by
      have hpl : 0 < s.p.length := by
        rcases Nat.eq_zero_or_pos s.p.length with z | z
        · exfalso
          unfold verd at hv
          rw [if_pos z] at hv
          split at hv
          · omega
          · split at hv <;> omega
        · exact z
      have hm : nth s.p 0 ∈ sc.pl := by
        rw [nth_lt _ _ hpl]
        have hsub : ∀ x ∈ s.p, x ∈ sc.pl := fun x hx => by
          rw [i.p] at hx
          exact List.mem_of_mem_drop hx
        exact hsub _ (List.getElem_mem hpl)
      have := h6 _ hm
      omega
    obtain ⟨k, y, hwk, hky, hy0⟩ := who_ok hv ht0
    have hg : Cr.one0 (Cr.gt s.cr (whoN s)) = y := by
      rw [hwk, Cr.gt_nat, hky]
      rfl
    have hym := List.mem_of_getElem? hky
    have hyp := i.b.cp y hym
    have hyq := i.b.bw.cb y hym
    refine step_opF L col s _ y.p.toNat y.q.toNat sc.ps.length w h ok (by omega) hv hl ht (by rw [hg]; omega) (by rw [hg]; omega) (by rw [i.ps]; omega) (fun x hx o ho => ?_) (op_chk hs i _) (by rw [hwk]; omega) _ e (by omega)
    rw [i.ps] at hx
    obtain ⟨a, ha⟩ := List.getElem?_of_mem hx
    obtain ⟨b, hb⟩ := List.getElem?_of_mem ho
    exact (op_ok (Sh.ari_of h5 ha hb)).2.2.1
end Lo
namespace Rlo
open Ba Lo

/-- the loom in L1 and the document's in L2, side by side; what was there ahead of both is as it was in w1 -/
structure JL (w1 wr : World) (L1 L2 : Nat) (s1 s2 : Lm) (c1 c2 : Nat → Nat) : Prop where
  p : LW wr c1 L1 s1
  r : RW wr c2 L2 w1.heap.size s2
  a : ∀ x, x < wr.heap.size → c1 x < 6 → c2 x = 7
  b : ∀ x, x < wr.heap.size → c2 x < 6 → c1 x = 7
  n : ∀ x, x < w1.heap.size → c1 x = 7
  bl : Below w1.heap.size w1 wr
theorem RW.c6 {w : World} {col : Nat → Nat} {L N : Nat} {s : Lm} (h : RW w col L N s) : ∀ x, x < N → col x = 6 := by
  obtain ⟨C, B, FB, q, pa, pc, oa, oc, bs, Fs, cs, ta, tc, h⟩ := h
  exact h.c6
theorem RW.keep {w w' : World} {col col' : Nat → Nat} {L N : Nat} {s : Lm} (h : RW w col L N s) (c : Ch (fun c => c = 7) col col' w w') : RW w' col' L N s := by
  obtain ⟨C, B, FB, q, pa, pc, oa, oc, bs, Fs, cs, ta, tc, h⟩ := h
  exact (h.keep c).lw
theorem LW.keep {w w' : World} {col col' : Nat → Nat} {L : Nat} {s : Lm} (h : LW w col L s) (c : Ch (fun c => c = 7) col col' w w') : LW w' col' L s := by
  obtain ⟨N, C, B, X, FB, pa, pc, bs, Fs, ta, tc, h⟩ := h
  exact (h.keep c).lw
section
variable {w1 wr u : World} {L1 L2 : Nat} {s1 s2 s' : Lm} {c1 c2 d : Nat → Nat}
/-- something new -/
theorem JL.below (h : JL w1 wr L1 L2 s1 s2 c1 c2) (hb : Below wr.heap.size wr u) : ∃ d1 d2, JL w1 u L1 L2 s1 s2 d1 d2 ∧ (Tr c1 d1 wr u ∧ Tq c2 d2 wr u) ∧ (∀ x, wr.heap.size ≤ x → d1 x = 7) ∧ ∀ x, wr.heap.size ≤ x → d2 x = 7 := by
  obtain ⟨d1, p1, t1, n1⟩ := h.p.below hb
  obtain ⟨d2, p2, t2, n2⟩ := h.r.below hb
  have o2 : ∀ x, x < wr.heap.size → d2 x < 6 → c2 x < 6 := fun x hx h6 => by
    rcases Nat.lt_or_ge (c2 x) 6 with q | q
    · exact q
    · have := t2.old x hx q
      omega
  refine ⟨d1, d2, ⟨p1, p2, fun x hx h6 => ?_, fun x hx h6 => ?_, fun x hx => ?_, btr h.bl hb⟩, ⟨t1, t2⟩, n1, n2⟩
  · rcases Nat.lt_or_ge x wr.heap.size with q | q
    · rw [t1.old x q] at h6
      have h7 := h.a x q h6
      exact (t2.old x q (by omega)).trans h7
    · exact n2 x q
  · rcases Nat.lt_or_ge x wr.heap.size with q | q
    · exact (t1.old x q).trans (h.b x q (o2 x q h6))
    · exact n1 x q
  · have q := Nat.lt_of_lt_of_le hx h.bl.size
    exact (t1.old x q).trans (h.n x hx)
/-- the loom has done something -/
theorem JL.prog (h : JL w1 wr L1 L2 s1 s2 c1 c2) (p : LW u d L1 s') (t : Tr c1 d wr u) : ∃ d2, JL w1 u L1 L2 s' s2 d d2 ∧ ∀ x, wr.heap.size ≤ x → d2 x = 7 := by
  obtain ⟨d2, o, _, nn⟩ := ext_ex wr c2 (fun _ => False) 7
  have n7 : ∀ x, wr.heap.size ≤ x → d2 x = 7 := fun x hx => nn x hx (fun h => h)
  have c : Ch (fun c => c = 7) c2 d2 wr u := ⟨t.os, t.tape, t.output, t.size, fun x hx hc => t.block x hx (by
    rcases Nat.lt_or_ge (c1 x) 6 with q | q
    · exact absurd (h.a x hx q) hc
    · exact q), o⟩
  refine ⟨d2, ⟨p, h.r.keep c, fun x hx h6 => ?_, fun x hx h6 => ?_, fun x hx => ?_, ⟨t.os.trans h.bl.os, t.tape.trans h.bl.tape, t.output.trans h.bl.output, Nat.le_trans h.bl.size t.size, fun x hx => (t.block x (Nat.lt_of_lt_of_le hx h.bl.size) (by rw [h.n x hx]; omega)).trans (h.bl.block x hx)⟩⟩, n7⟩
  · rcases Nat.lt_or_ge x wr.heap.size with q | q
    · rw [t.old x q] at h6
      exact (o x q).trans (h.a x q h6)
    · exact n7 x q
  · rcases Nat.lt_or_ge x wr.heap.size with q | q
    · rw [o x q] at h6
      exact (t.old x q).trans (h.b x q h6)
    · rw [n7 x q] at h6
      omega
  · have q := Nat.lt_of_lt_of_le hx h.bl.size
    exact (t.old x q).trans (h.n x hx)
/-- the document's has done something -/
theorem JL.ref (h : JL w1 wr L1 L2 s1 s2 c1 c2) (p : RW u d L2 w1.heap.size s') (t : Tq c2 d wr u) : ∃ d1, JL w1 u L1 L2 s1 s' d1 d := by
  obtain ⟨d1, o, _, nn⟩ := ext_ex wr c1 (fun _ => False) 7
  have n7 : ∀ x, wr.heap.size ≤ x → d1 x = 7 := fun x hx => nn x hx (fun h => h)
  have c : Ch (fun c => c = 7) c1 d1 wr u := ⟨t.os, t.tape, t.output, t.size, fun x hx hc => t.block x hx (by
    rcases Nat.lt_or_ge (c2 x) 6 with q | q
    · exact absurd (h.b x hx q) hc
    · exact q), o⟩
  refine ⟨d1, ⟨LW.keep h.p c, p, fun x hx h6 => ?_, fun x hx h6 => ?_, fun x hx => ?_, ⟨t.os.trans h.bl.os, t.tape.trans h.bl.tape, t.output.trans h.bl.output, Nat.le_trans h.bl.size t.size, fun x hx => (t.block x (Nat.lt_of_lt_of_le hx h.bl.size) (by rw [h.r.c6 x hx]; omega)).trans (h.bl.block x hx)⟩⟩⟩
  · rcases Nat.lt_or_ge x wr.heap.size with q | q
    · rw [o x q] at h6
      have h7 := h.a x q h6
      exact (t.old x q (by omega)).trans h7
    · rw [n7 x q] at h6
      omega
  · rcases Nat.lt_or_ge x wr.heap.size with q | q
    · refine (o x q).trans (h.b x q ?_)
      rcases Nat.lt_or_ge (c2 x) 6 with z | z
      · exact z
      · have := t.old x q z
        omega
    · exact n7 x q
  · have q := Nat.lt_of_lt_of_le hx h.bl.size
    exact (o x q).trans (h.n x hx)
/-- both are new -/
theorem JL.new (b1 : Below w1.heap.size w1 wr) (p : LW wr c1 L1 s1) (n1 : ∀ x, x < w1.heap.size → c1 x = 7) (b2 : Below wr.heap.size wr u) (r : RW u c2 L2 w1.heap.size s2) (n2 : ∀ x, w1.heap.size ≤ x → x < wr.heap.size → c2 x = 7) : ∃ d1, JL w1 u L1 L2 s1 s2 d1 c2 := by
  obtain ⟨d1, p1, t1, m1⟩ := p.below b2
  refine ⟨d1, ⟨p1, r, fun x hx h6 => ?_, fun x hx h6 => ?_, fun x hx => ?_, btr b1 b2⟩⟩
  · rcases Nat.lt_or_ge x wr.heap.size with q | q
    · rw [t1.old x q] at h6
      rcases Nat.lt_or_ge x w1.heap.size with z | z
      · rw [n1 x z] at h6
        omega
      · exact n2 x z q
    · rw [m1 x q] at h6
      omega
  · rcases Nat.lt_or_ge x wr.heap.size with q | q
    · rcases Nat.lt_or_ge x w1.heap.size with z | z
      · rw [r.c6 x z] at h6
        omega
      · rw [n2 x z q] at h6
        omega
    · exact m1 x q
  · exact (t1.old x (Nat.lt_of_lt_of_le hx b1.size)).trans (n1 x hx)
end
theorem slice_low (u : World) (ta : Option Addr) (len cap n : Nat) (h : n ≤ len) : (Instr.slice 28 (.slice ta len cap) (some (.int .i64 (n : Int))) none none).run Tryz.prog u = .ok (.slice (if cap = n then ta else ta.map (·.add (n * 8))) (len - n) (cap - n)) u := by
  have hs : (sizeOf 66).run Tryz.prog u = .ok 8 u := by
    have := En.size_ev
    cases hq : Tryz.prog.info? 66 with
    | none => rw [hq] at this; cases this
    | some i => rw [hq] at this; simp at this; simp [sizeOf, typeInfo, hq, this]
  have h2 : (n : Int) ≤ (len : Int) := by omega
  simp [Instr.slice, run_underlying Tryz.underlying28, Instr.sliceBounds, Instr.sliceBound, asIntOf, h, hs]
theorem slice_at (u : World) (ta : Option Addr) (len cap n : Nat) (h : n ≤ len) : (Instr.sliceAt 28 (.slice ta len cap) (some (.int .i64 (n : Int))) none none).run Tryz.prog u = .ok (.slice (if cap = n then ta else ta.map (·.add (n * 8))) (len - n) (cap - n)) u := by
  have := slice_low u ta len cap n h
  simp only [Instr.sliceAt, Sem.run_bind, run_underlying Tryz.underlying28, Result.andThen_ok]
  exact this
theorem RX.crewRow {w : World} {col : Nat → Nat} {L N C B : Nat} {FB : Nat → Prop} {q : Hd} {pa : Option Addr} {pc : Nat} {oa : Option Addr} {oc : Nat} {bs : List (Option Nat)} {Fs : Nat → Nat → Prop} {cs : List (Option St)} {ta : Option Addr} {tc : Nat} {s : Lm} (h : RX w col L N C B FB q pa pc oa oc bs Fs cs ta tc s) : ∃ ma mc, w.cell? ⟨L, 6, none⟩ = some (.pointer (some ⟨B, 0, none⟩)) ∧ w.cell? ⟨B, 0, none⟩ = some (.slice ma s.cr.length mc) := by
  obtain ⟨ma, mc, hM⟩ := h.cr
  have y6 := cell_of h.hp 6
  have x0 := cell_of hM.hp 0
  simp [rcs] at y6 x0
  exact ⟨ma, mc, y6, x0⟩
theorem es_tq {col col' : Nat → Nat} {w w' : World} {oa : Option Addr} {l : List Ev} (h : EsAt w oa l) (hc : ∀ a, oa = some a → 6 ≤ col a.block) (t : Tq col col' w w') : EsAt w' oa l := by
  intro k e hk
  obtain ⟨b, off, e2, hh⟩ := h k e hk
  refine ⟨b, off, e2, fun j hj => ?_⟩
  have hv := hh j hj
  cases hx : (En.evc e)[j]? with
  | none =>
    exfalso
    have : (En.evc e).size = 8 := rfl
    rw [Array.getElem?_eq_none_iff] at hx
    omega
  | some v =>
    rw [hx] at hv
    exact t.cell hv (hc _ e2)
end Rlo
end Go.Proofs.YtddchcekljndmaaGreat
