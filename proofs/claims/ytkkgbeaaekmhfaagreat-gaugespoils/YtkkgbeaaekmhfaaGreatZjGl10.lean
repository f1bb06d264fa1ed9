import Derived.Test.YtkkgbeaaekmhfaaGreatZjGl9
import Derived.ScopeJumps
import Derived.Laws.CopyRow
import Derived.Laws.IdiomCopy
namespace Go.Proofs.YtkkgbeaaekmhfaaGreat
open Go.ChangeShapes Go.WideShapes Go.ChangeAt Go.RowKit
namespace Lo
open Ba
theorem ca_at {w : World} {oc : Option Addr} {cs : List De.Cs} (h : De.CAt w oc cs) : Fk.CaAt w oc (cs.map cav) := by
 intro k x hk
 rw [List.getElem?_map] at hk
 cases h1 : cs[k]? with
 | none => rw [h1] at hk; cases hk
 | some c =>
   rw [h1] at hk
   cases hk
   exact h k c h1
theorem Tr.cell {col col' : Nat → Nat} {w w' : World} (t : Tr col col' w w') {b i : Nat} {v : Value} (h : w.cell? ⟨b, i, none⟩ = some v) (hc : col b = 7) : w'.cell? ⟨b, i, none⟩ = some v := by
 have := t.block b (World.block_lt_of_cell? w _ h) (by omega)
 rw [← h]
 simp only [World.cell?, this]
theorem Ok.sts {K : Nat} {s : Lm} (h : Ok K s) : Cr.Bn K s.cr ∧ s.tr.length ≤ K := ⟨h.cb, h.tn⟩
theorem Ok.draw {K : Nat} {s : Lm} (h : Ok K s) (n : Int) : Ok K { s with d := Pk.dr s.d n } := ⟨h.cb, h.tn, h.sm, h.wl, h.md, fun x hx => h.dd x (Pk.dr_sub hx)⟩
theorem dv_nat {d : List Int} {n : Nat} (hd : ∀ x ∈ d, 0 ≤ x) (h0 : 0 < n) (h4 : n ≤ 4) : ∃ i : Nat, Pk.dv d (n : Int) = (i : Int) ∧ i < n := by
 unfold Pk.dv
 rw [if_neg (by omega)]
 by_cases h1 : (n : Int) = 1
 ·rw [if_pos h1]
  exact ⟨0, rfl, h0⟩
 ·rw [if_neg h1]
  have hn : (0 : Int) < n := by omega
  have hx : 0 ≤ nth d 0 := by
   cases d with
   | nil => simp [nth]
   | cons x d => exact hd x (by simp)
  refine ⟨(nth d 0 % (n : Int)).toNat, ?_, ?_⟩
  ·have := Int.emod_nonneg (nth d 0) (by omega : (n : Int) ≠ 0)
   omega
  ·have := Int.emod_lt_of_pos (nth d 0) hn
   have := Int.emod_nonneg (nth d 0) (by omega : (n : Int) ≠ 0)
   omega
set_option maxRecDepth 100000 in
set_option maxHeartbeats 3200000 in
theorem choose_any (L : Nat) (col : Nat → Nat) (s : Lm) (K : Nat) (g : Int) (ok_ oa_ ob_ : Int) (cs : List De.Cs) (df : Bool) (oc : Option Addr) (cc : Nat) (w : World) (h : LW w col L s) (ok : Ok K s) (hK : K ≤ 99000)
 (hC : De.CAt w oc cs) (hCc : 0 < cs.length → ∀ a, oc = some a → col a.block = 7) (h4 : cs.length ≤ 4) (hcs : ∀ c ∈ cs, 0 ≤ c.ch ∧ c.ch ≤ 7) :
 Calls Tryz.prog 66 #[.pointer (some ⟨L, 0, none⟩), .int .i64 g, .agg #[.int .i64 ok_, .int .i64 oa_, .int .i64 ob_, .slice oc cs.length cc, .bool df]] w fun r w' => r = .returned (.bool (chooseF s g ⟨ok_, oa_, ob_, cs, df⟩).fine) ∧ ∃ col', LW w' col' L (chooseF s g ⟨ok_, oa_, ob_, cs, df⟩).s ∧ Tr col col' w w' := by
 obtain ⟨N, C, B, X, FB, pa, pc, bs, Fs, ta, tc, h⟩ := h
 obtain ⟨col1, h1, t1, n1⟩ := h.below (btr (below_alloc w (.cells #[.int .i64 ok_, .int .i64 oa_, .int .i64 ob_, .slice oc cs.length cc, .bool df] 48)) (bdrew1 _))
 have T1 := hide t1
 have H1 := hide h1
 have E1 := hide (heap_below (heap_new w (.cells #[.int .i64 ok_, .int .i64 oa_, .int .i64 ob_, .slice oc cs.length cc, .bool df] 48)) (bdrew1 _))
 have N1 := hide (n1 w.heap.size (Nat.le_refl _))
 have y3 : w.cell? ⟨L, 3, none⟩ = some (.slice (some ⟨X, 0, none⟩) 8 8) := cell_of h.hp 3
 have hL := h.lt
 have C1 := hide (hC.below (btr (below_alloc w (.cells #[.int .i64 ok_, .int .i64 oa_, .int .i64 ob_, .slice oc cs.length cc, .bool df] 48)) (bdrew1 _)))
 have D1 : Hid (0 < cs.length → ∀ a, oc = some a → col1 a.block = 7) := fun h0 a e => by
  obtain ⟨b, off, e2, hc, _⟩ := hC 0 cs[0] (List.getElem?_eq_getElem h0)
  rw [e] at e2
  cases e2
  exact (t1.old b (World.block_lt_of_cell? w _ hc)).trans (hCc h0 _ e)
 have hm : (cs.map cav).length = cs.length := List.length_map _
 have RD := hide (Fk.fready_any oc (cs.map cav) cc (some ⟨X, 0, none⟩) bs 8 Fs s.sts ((w.alloc (.cells #[.int .i64 ok_, .int .i64 oa_, .int .i64 ob_, .slice oc cs.length cc, .bool df] 48)).drew) (ca_at C1.out) h1.qs (by rw [hm]; omega))
 rw [h.bl, hm] at RD
 have OK := hide ok
 have HCS := hide hcs
 obtain ⟨R, hR⟩ : ∃ R, chooseF s g ⟨ok_, oa_, ob_, cs, df⟩ = R := ⟨_, rfl⟩
 rw [hR]
 unfold chooseF cas at hR
 simp only at hR
 have RM : Hid (∀ k, k < (Fk.rdyL (cs.map cav) s.sts).length → ∃ p : Nat, nth (Fk.rdyL (cs.map cav) s.sts) k = (p : Int) ∧ p < cs.length) := fun k hk => by
  obtain ⟨p, e, hl, _⟩ := Fk.ps_mem hk
  exact ⟨p, e, by rw [List.length_map] at hl; exact hl⟩
 have RL : Hid ((Fk.rdyL (cs.map cav) s.sts).length ≤ 4) := Nat.le_trans (Fk.ps_len _ _) (by rw [hm]; exact h4)
 have PK := hide (fun u (q : Fk.Qs _root_.Go.Proofs.YtkkgbeaaekmhfaaGreat.Pi.Pp u (some ⟨X, 0, none⟩) bs Fs s.sts) (hc : De.CAt u oc cs) (hcn : 0 < cs.length → ∀ a, oc = some a → ¬ Fk.All Fs a.block) => Fk.park_any g oc (cs.map cav) cc (some ⟨X, 0, none⟩) bs 8 Fs s.sts u (ca_at hc) (by rw [hm]; exact hcn) q ok.wl)
 rw [h.bl, hm] at PK
 generalize Fk.rdyL (cs.map cav) s.sts = rd at RD hR RM RL
 have HR := hide hR
 clear h t1 h1 n1 ok hR hcs hC hCc
 go_enter Tryz.func66, Tryz.ntmps66
 go_wp2_with fail
 go_region_held3 (fun w' => w'.cell? ⟨w.heap.size, 3, none⟩ = some (.slice oc cs.length cc) ∧ w'.cell? ⟨L, 3, none⟩ = some (.slice (some ⟨X, 0, none⟩) 8 8))
  (first | (go_keep; done) | exact ⟨z3, z4⟩)
  (first | (go_at_call 85; refine RD.out.mono ?_; rintro r w2 ⟨ob, d, rfl, ow2, b2⟩; have z3 : w2.cell? ⟨w.heap.size, 3, none⟩ = some (.slice oc cs.length cc) := cell_of (heap_below E1.out b2) 3; have z4 : w2.cell? ⟨L, 3, none⟩ = some (.slice (some ⟨X, 0, none⟩) 8 8) := cell_of (heap_below H1.out.hp b2) 3))
 have AT : ∀ k, k < rd.length → ∃ b off, ob = some ⟨b, off, none⟩ ∧ w2.cell? ⟨b, off + k, none⟩ = some (.int .i64 (nth rd k)) ∧ (w.alloc (.cells #[.int .i64 ok_, .int .i64 oa_, .int .i64 ob_, .slice oc cs.length cc, .bool df] 48)).drew.heap.size ≤ b := fun k hk => by
  obtain ⟨oa', c', e, hA, _⟩ := Rp.own_at ow2
  cases e
  obtain ⟨b, off, e2, hc⟩ := hA k hk
  subst e2
  refine ⟨b, off, rfl, hc, ?_⟩
  exact (ow2.lt b rfl).1
 obtain ⟨col2, h2, t2, n2⟩ := H1.out.below b2
 have T2 := hide (T1.out.trans t2)
 have H2 := hide h2
 have E2 := hide (heap_below E1.out b2)
 have N2 : Hid (col2 w.heap.size = 7) := (t2.old _ (heap_lt E1.out)).trans N1.out
 have NN := hide n2
 have C2 := hide (C1.out.below b2)
 have D2 : Hid (0 < cs.length → ∀ a, oc = some a → col2 a.block = 7) := fun h0 a e => by
  obtain ⟨b, off, e2, hc, _⟩ := C1.out 0 cs[0] (List.getElem?_eq_getElem h0)
  rw [e] at e2
  cases e2
  exact (t2.old b (World.block_lt_of_cell? _ _ hc)).trans (D1.out h0 _ e)
 have hL2 := h2.lt
 have hE2 := heap_lt E2.out
 clear h2 t2 n2 b2 ow2 T1 H1 E1 N1 C1 D1 RD y3
 rcases Nat.eq_zero_or_pos rd.length with hn | hn
 ·have hR := HR.out
  rw [if_neg (by omega)] at hR
  rw [hn]
  cases df
  ·simp only [Bool.false_eq_true, if_false] at hR
   have HR2 := hide hR
   obtain ⟨col3, h3, t3, n3⟩ := H2.out.below (bdrew1 w2)
   have hCn : 0 < cs.length → ∀ a, oc = some a → ¬ Fk.All Fs a.block := fun h0 a e hf => by
    obtain ⟨i, hf⟩ := hf
    have h1 := D2.out h0 a e
    rw [H2.out.c4 i _ hf] at h1
    omega
   have PA := hide (PK.out w2.drew h3.qs (C2.out.below (bdrew1 _)) hCn)
   have T3 := hide (T2.out.trans t3)
   have H3 := hide h3
   have E3 := hide (heap_below E2.out (bdrew1 _))
   have N3 : Hid (col3 w.heap.size = 7) := (t3.old _ hE2).trans N2.out
   have e4 : w2.cell? ⟨w.heap.size, 4, none⟩ = some (.bool false) := cell_of E2.out 4
   clear HR hR h3 t3 n3 H2 T2 NN AT RM RL PK
   go_wp2_with fail
   go_region_held3 (fun w' => w'.cell? ⟨w.heap.size, 3, none⟩ = some (.slice oc cs.length cc) ∧ w'.cell? ⟨L, 3, none⟩ = some (.slice (some ⟨X, 0, none⟩) 8 8))
    (first | (go_keep; done) | exact ⟨x3, x4⟩)
    (first | (go_at_call 87; refine PA.out.mono ?_; rintro r w4 ⟨rfl, p4⟩; obtain ⟨Fs4, col4, h4', t4⟩ := H3.out.pipes p4; have x3 : w4.cell? ⟨w.heap.size, 3, none⟩ = some (.slice oc cs.length cc) := cell_of (t4.heap E3.out N3.out) 3; have x4 : w4.cell? ⟨L, 3, none⟩ = some (.slice (some ⟨X, 0, none⟩) 8 8) := cell_of h4'.hp 3))
   have T4 := hide (T3.out.trans t4)
   have H4 := hide h4'
   have E4 := hide (t4.heap E3.out N3.out)
   have N4 : Hid (col4 w.heap.size = 7) := (t4.old _ (heap_lt E3.out)).trans N3.out
   have hE4 := heap_lt E4.out
   clear h4' t4 p4 PA H3 T3 E3 N3 x3 x4 e4 z3 z4 C2 D2 E2 N2
   go_wp2_with fail
   refine (En.bare_any 6 g _).mono ?_
   rintro r w5 ⟨rfl, b5⟩
   obtain ⟨col6, h6, t6, n6⟩ := H4.out.below (btr b5 (below_alloc w5 (.cells #[.int .i64 6, .int .i64 g, .int .i64 (-1), .int .i64 (cs.length : Int), .int .i64 0, .int .i64 (-1), .bool false, .bool false] 35)))
   have s5 := b5.size
   have hE5 : w.heap.size < w5.heap.size := by omega
   have T6 := hide (T4.out.trans t6)
   have H6 := hide h6
   have o3 : w5.cell? ⟨w.heap.size, 3, none⟩ = some (.slice oc cs.length cc) := cell_of (heap_below E4.out b5) 3
   have WA := hide (waits_any L col6 _ K (⟨6, g, -1, (cs.length : Int), 0, -1, false, false⟩ : Ev) _ H6.out.lw OK.out.cb (by omega) (by have := OK.out.tn; show s.tr.length ≤ _; omega))
   unfold En.evv En.evc at WA
   clear h6 t6 n6 H4 T4 E4 N4
   go_wp2_with fail
   refine WA.out.mono ?_
   rintro r w8 ⟨rfl, col8, h8, t8⟩
   have H8 := hide h8
   have T8 := hide (T6.out.trans t8)
   clear h8 t8 WA
   go_wp2_with fail
   have hR := HR2.out
   subst hR
   go_ret
   exact ⟨rfl, col8, H8.out, T8.out⟩
  ·simp only [if_true] at hR
   have HR2 := hide hR
   have e4 : w2.cell? ⟨w.heap.size, 4, none⟩ = some (.bool true) := cell_of E2.out 4
   clear HR hR NN AT RM RL PK C2 D2
   go_wp2_with fail
   refine (En.bare_any 8 g _).mono ?_
   rintro r w5 ⟨rfl, b5⟩
   obtain ⟨col6, h6, t6, n6⟩ := H2.out.below b5
   have T6 := hide (T2.out.trans t6)
   have GO := hide (goes_any L col6 _ K (bareE 8 g) _ h6.lw OK.out.cb (by omega) (by have := OK.out.tn; omega))
   unfold En.evv En.evc bareE at GO
   clear h6 t6 n6 b5
   go_wp2_with fail
   refine GO.out.mono ?_
   rintro r w8 ⟨rfl, col8, h8, t8⟩
   have H8 := hide h8
   have T8 := hide (T6.out.trans t8)
   clear h8 t8 GO
   go_wp2_with fail
   have hR := HR2.out
   subst hR
   go_ret
   exact ⟨rfl, col8, H8.out, T8.out⟩
 ·have hR := HR.out
  rw [if_pos hn] at hR
  obtain ⟨n, hnn⟩ : ∃ n, rd.length = n := ⟨_, rfl⟩
  rw [hnn] at hR hn AT RM RL ⊢
  have hn4 : n ≤ 4 := RL.out
  obtain ⟨i, hi, hin⟩ := dv_nat (n := n) OK.out.dd hn hn4
  rw [hi, Int.toNat_natCast] at hR
  obtain ⟨p, hp, hpl⟩ := RM.out i hin
  rw [hp] at hR
  obtain ⟨c, hcx⟩ : ∃ c, cs[p]? = some c := ⟨_, List.getElem?_eq_getElem hpl⟩
  have hcm : c ∈ cs := List.mem_of_getElem? hcx
  obtain ⟨hc0, hc7⟩ := HCS.out c hcm
  obtain ⟨kc, hkc⟩ : ∃ kc : Nat, c.ch = (kc : Int) := ⟨c.ch.toNat, by omega⟩
  have hk8 : kc < 8 := by omega
  have hca : caseAt ⟨ok_, oa_, ob_, cs, df⟩ (p : Int) = ⟨c.send, (kc : Int), c.val⟩ := by
   unfold caseAt cas
   rw [Int.toNat_natCast, List.getElem?_map, hcx]
   simp [cav, hkc]
  rw [hca] at hR
  obtain ⟨rb, ro, hob, hrc, hrb⟩ := AT i hin
  subst hob
  rw [hp] at hrc
  obtain ⟨cb, co, hoc, k0, k1, k2⟩ := C2.out p c hcx
  subst hoc
  rw [hkc] at k1
  have hcb : col2 cb = 7 := D2.out (by omega) _ rfl
  have hrb7 : col2 rb = 7 := NN.out rb hrb
  have DW := hide (Lk.draw_cu N C s.p s.d (n : Int) w2 H2.out.cu OK.out.dd)
  rw [hi] at DW
  have y1 : w2.cell? ⟨L, 1, none⟩ = some (.pointer (some ⟨C, 0, none⟩)) := cell_of H2.out.hp 1
  have HR2 := hide hR
  clear HR hR AT RM RL NN hca hp HCS PK hrb
  have hnI : (0 : Int) < (n : Int) := by omega
  go_wp2_with fail
  refine DW.out.mono ?_
  rintro r w3 ⟨rfl, cu3, kb3⟩
  obtain ⟨col3, h3, t3⟩ := H2.out.cursor cu3 kb3
  have T3 := hide (T2.out.trans t3)
  have H3 := hide h3
  have m0 : w3.cell? ⟨rb, ro + i, none⟩ = some (.int .i64 (p : Int)) := t3.cell hrc hrb7
  have m1 : w3.cell? ⟨cb, co + p * 3, none⟩ = some (.bool c.send) := t3.cell k0 hcb
  have m2 : w3.cell? ⟨cb, co + p * 3 + 1, none⟩ = some (.int .i64 (kc : Int)) := t3.cell k1 hcb
  have m3 : w3.cell? ⟨cb, co + p * 3 + 2, none⟩ = some (.int .i64 c.val) := t3.cell k2 hcb
  have m4 : w3.cell? ⟨w.heap.size, 3, none⟩ = some (.slice (some ⟨cb, co, none⟩) cs.length cc) := t3.cell (cell_of E2.out 3) N2.out
  have a0 : col3 rb = 7 := (t3.old rb (World.block_lt_of_cell? _ _ hrc)).trans hrb7
  have a1 : col3 w.heap.size = 7 := (t3.old _ hE2).trans N2.out
  have a2 : col3 cb = 7 := (t3.old cb (World.block_lt_of_cell? _ _ k0)).trans hcb
  have TY := hide (try_any L col3 _ K g (p : Int) c.send kc c.val w3.drew h3.drew.lw (OK.out.draw n) hK hk8)
  clear cu3 kb3 h3 t3 H2 T2 hrc k0 k1 k2 E2 N2 z3 z4 C2 D2 DW y1
  have i0 : (0 : Int) ≤ (i : Int) := by omega
  have i1 : (i : Int) < (n : Int) := by omega
  have p0 : (0 : Int) ≤ (p : Int) := by omega
  have p1 : (p : Int) < (cs.length : Int) := by omega
  go_wp2_with fail
  go_region_held3 (fun w' => w'.cell? ⟨rb, ro + i, none⟩ = some (.int .i64 (p : Int)) ∧ w'.cell? ⟨w.heap.size, 3, none⟩ = some (.slice (some ⟨cb, co, none⟩) cs.length cc) ∧ w'.cell? ⟨cb, co + p * 3, none⟩ = some (.bool c.send) ∧ w'.cell? ⟨cb, co + p * 3 + 1, none⟩ = some (.int .i64 (kc : Int)) ∧ w'.cell? ⟨cb, co + p * 3 + 2, none⟩ = some (.int .i64 c.val))
   (first | (go_keep; done) | exact ⟨t4.cell m0 a0, t4.cell m4 a1, t4.cell m1 a2, t4.cell m2 a2, t4.cell m3 a2⟩)
   (first | (go_at_call 79; refine TY.out.mono ?_; rintro r w4 ⟨rfl, col4, h4', t4⟩))
  have T4 := hide (T3.out.trans (Tr.trans (Tr.refl col3 w3).drew t4))
  have H4 := hide h4'
  clear h4' t4 TY
  go_wp2_with fail
  have hR := HR2.out
  subst hR
  go_ret
  exact ⟨rfl, col4, H4.out, T4.out⟩
end Lo
end Go.Proofs.YtkkgbeaaekmhfaaGreat
namespace Go.Proofs.YtkkgbeaaekmhfaaGreat
open Go.ChangeShapes Go.WideShapes Go.ChangeAt Go.RowKit
namespace Lo
open Ba
section
variable {w w' : World} {col : Nat → Nat} {L N C B X : Nat} {FB : Nat → Prop} {pa : Option Addr} {pc : Nat} {bs : List (Option Nat)} {Fs : Nat → Nat → Prop} {ta : Option Addr} {tc : Nat} {s : Lm}
theorem LX.pipes3 {sts : List (Option St)} {Fs' : Nat → Nat → Prop} (h : LX w col L N C B X FB pa pc bs Fs ta tc s) (nw : Fk.NwA Fs' Fs w) (q : Fk.Qs _root_.Go.Proofs.YtkkgbeaaekmhfaaGreat.Pi.Pp w' (some ⟨X, 0, none⟩) bs Fs' sts) (kf : KF (Fk.All Fs) w w') :
 ∃ col', LX w' col' L N C B X FB pa pc bs Fs' ta tc { s with sts := sts } ∧ Tr col col' w w' ∧ ∀ x, w.heap.size ≤ x → ¬ Fk.All Fs' x → col' x = 7 := by
 obtain ⟨col', o, n, n7⟩ := ext_ex w col (Fk.All Fs') 4
 have c : Ch (fun c => c = 4) col col' w w' := ⟨kf.os, kf.tape, kf.output, kf.size, fun x hx hc => kf.block x hx (fun e => by
  obtain ⟨i, e⟩ := e
  exact hc (h.c4 i x e)), o⟩
 refine ⟨col', ⟨h.keepHp c (by simp), h.nml, h.keepPs c (by simp), h.keepCu c (by simp), h.nc, h.keepCr c (by simp), h.keepRw c (by simp), q, h.bl, h.keepTr c (by simp), h.k0 c, h.k1 c, h.k2 c, h.k3 c, fun i x hx => ?_, h.k5 c⟩, c.tr (fun _ (e : _ = _) => by omega), n7⟩
 rcases Nat.lt_or_ge x w.heap.size with e | e
 ·rcases nw i x hx with z | z
  ·obtain ⟨j, z⟩ := z
   exact h.k4 c j x z
  ·omega
 ·exact n x e ⟨i, hx⟩
def WA (w : World) (col : Nat → Nat) (oa : Option Addr) (l : List Wt) : Prop := Pe.WAt w oa l ∧ (0 < l.length → ∀ a, oa = some a → col a.block = 7)
theorem WA.tr {col' : Nat → Nat} {oa : Option Addr} {l : List Wt} (h : WA w col oa l) (t : Tr col col' w w') : WA w' col' oa l := by
 refine ⟨fun k x hk => ?_, fun h0 a e => (t.old _ (h.1.lt h0 a e)).trans (h.2 h0 a e)⟩
 have h0 : 0 < l.length := Nat.lt_of_le_of_lt (Nat.zero_le k) (List.getElem?_eq_some_iff.1 hk).1
 obtain ⟨b, off, e, q0, q1, q2⟩ := h.1 k x hk
 have hc := h.2 h0 _ e
 exact ⟨b, off, e, t.cell q0 hc, t.cell q1 hc, t.cell q2 hc⟩
theorem close_at (h : LX w col L N C B X FB pa pc bs Fs ta tc s) {k B1 : Nat} (ho : bs[k]? = some (some B1)) {st : St} (e : s.sts[k]? = some (some st)) (hc : st.closed = false) :
 Calls Tryz.prog 82 #[.pointer (some ⟨B1, 0, none⟩)] w fun r w' => ∃ oa ca ob cb, r = .returned (.tuple #[.slice oa st.rcv.length ca, .slice ob st.snd.length cb, .int .i64 0]) ∧ ∃ Fs' col', LX w' col' L N C B X FB pa pc bs Fs' ta tc { s with sts := s.sts.set k (some (_root_.Go.Proofs.YtkkgbeaaekmhfaaGreat.Pi.closeS st)) } ∧ Tr col col' w w' ∧ WA w' col' oa st.rcv ∧ WA w' col' ob st.snd := by
 obtain ⟨st', e', q⟩ := h.qs.one k B1 ho
 rw [e] at e'
 cases e'
 refine (_root_.Go.Proofs.YtkkgbeaaekmhfaaGreat.Pi.close_apart B1 (Fs k) st w q hc).mono ?_
 rintro r w1 ⟨oa, ca, ob, cb, rfl, ⟨a1, a2, n1, n2⟩, kf, F', nw, p1, m1, m2⟩
 have hcs : _root_.Go.Proofs.YtkkgbeaaekmhfaaGreat.Pi.closeS st = { st with snd := [], rcv := [], closed := true } := by simp [_root_.Go.Proofs.YtkkgbeaaekmhfaaGreat.Pi.closeS, hc]
 have p2 : _root_.Go.Proofs.YtkkgbeaaekmhfaaGreat.Pi.Pp w1 B1 F' (_root_.Go.Proofs.YtkkgbeaaekmhfaaGreat.Pi.closeS st) := by rw [hcs]; exact p1
 have nwA : Fk.NwA (Fk.up Fs k F') Fs w := fun j x hx => by
  by_cases ej : j = k
  ·subst ej
   rw [Fk.up_same] at hx
   rcases nw x hx with z | z
   ·exact .inl ⟨j, z⟩
   ·exact .inr z
  ·rw [Fk.up_other _ _ _ _ ej] at hx
   exact .inl ⟨j, hx⟩
 obtain ⟨col1, h1, t1, n7⟩ := h.pipes3 nwA (h.qs.step Fk.frP ho kf nw p2 (h.qs.rl ho)) (kf.mono (fun x hx => ⟨k, hx⟩))
 have ap : ∀ a : Addr, w.heap.size ≤ a.block → ¬ F' a.block → col1 a.block = 7 := fun a ha hf => n7 _ ha (fun hA => by
  obtain ⟨j, hj⟩ := hA
  by_cases ej : j = k
  ·subst ej
   rw [Fk.up_same] at hj
   exact hf hj
  ·rw [Fk.up_other _ _ _ _ ej] at hj
   have := h.qs.bd j _ hj
   omega)
 exact ⟨oa, ca, ob, cb, rfl, _, col1, h1, t1, ⟨a1, fun h0 a e => ap a (n1 a e) (m1 h0 a e)⟩, ⟨a2, fun h0 a e => ap a (n2 a e) (m2 h0 a e)⟩⟩
end
theorem wakeAll_app (g c : Int) (s : Lm) (l : List Wt) (x : Wt) : wakeAll g c s (l ++ [x]) = if parked (wakeAll g c s l) x.g then wakesS (wakeAll g c s l) ⟨7, x.g, c, x.c, 0, g, false, false⟩ else wakeAll g c s l := by
 induction l generalizing s with
 | nil => rfl
 | cons y l ih => exact ih _
theorem wakeAll_take {g c : Int} {s : Lm} {l : List Wt} {j : Nat} {x : Wt} (h : l[j]? = some x) : wakeAll g c s (l.take (j + 1)) = if parked (wakeAll g c s (l.take j)) x.g then wakesS (wakeAll g c s (l.take j)) ⟨7, x.g, c, x.c, 0, g, false, false⟩ else wakeAll g c s (l.take j) := by
 rw [List.take_add_one, h]
 exact wakeAll_app g c s _ x
structure Bw (K : Nat) (s : Lm) : Prop where
 cb : Cr.Bn K s.cr
 tn : s.tr.length ≤ K
theorem Bw.wake {K : Nat} {s : Lm} (h : Bw K s) (e : Ev) : Bw (K + 1) (wakesS s e) := ⟨Cr.Bn.ch h.cb e.g 1 0 1 (by omega) (by omega), by show (s.tr ++ [e]).length ≤ _; have := h.tn; simp; omega⟩
theorem Bw.go {K : Nat} {s : Lm} (h : Bw K s) (e : Ev) : Bw (K + 1) (goS s e) := ⟨Cr.Bn.ch h.cb e.g 0 0 1 (by omega) (by omega), by show (s.tr ++ [e]).length ≤ _; have := h.tn; simp; omega⟩
theorem Bw.mono {K M : Nat} {s : Lm} (h : Bw K s) (hK : K ≤ M) : Bw M s := ⟨h.cb.mono hK, Nat.le_trans h.tn hK⟩
theorem Bw.all {K : Nat} {g c : Int} : ∀ {l : List Wt} {s : Lm}, Bw K s → Bw (K + l.length) (wakeAll g c s l) := by
 intro l
 induction l generalizing K with
 | nil => exact fun h => h
 | cons x l ih =>
   intro s h
   show Bw _ (wakeAll g c (if parked s x.g then _ else s) l)
   rw [List.length_cons, Nat.add_comm l.length 1, ← Nat.add_assoc]
   apply ih
   split
   ·exact h.wake _
   ·exact h.mono (by omega)
theorem first_take {s : Lm} {l : List Wt} : ∀ {j : Nat}, (∀ i x, i < j → l[i]? = some x → parked s x.g = false) → first s l = first s (l.drop j) := by
 intro j
 induction j generalizing l with
 | zero => intro _; rfl
 | succ j ih =>
   intro h
   cases l with
   | nil => rfl
   | cons x l =>
     have h0 := h 0 x (by omega) rfl
     show (if parked s x.g then x.g else first s l) = _
     rw [h0]
     exact ih (fun i y hi hy => h (i + 1) y (by omega) hy)
set_option maxRecDepth 100000 in
set_option maxHeartbeats 3200000 in
theorem closes_no (L : Nat) (col : Nat → Nat) (s : Lm) (g : Int) (k : Nat) (w : World) (h : LW w col L s) (hk : k < 8) (hno : ∀ st, Fk.nmB s.sts (k : Int) = some st → st.closed = true) :
 Calls Tryz.prog 65 #[.pointer (some ⟨L, 0, none⟩), .int .i64 g, .int .i64 (k : Int)] w fun r w' => r = .returned (.int .i64 g) ∧ w' = w := by
 obtain ⟨N, C, B, X, FB, pa, pc, bs, Fs, ta, tc, h⟩ := h
 have y3 : w.cell? ⟨L, 3, none⟩ = some (.slice (some ⟨X, 0, none⟩) 8 8) := cell_of h.hp 3
 have k0 : (0 : Int) ≤ (k : Int) := by omega
 have k8 : (k : Int) < 8 := by omega
 obtain ⟨o, ho, x0⟩ := h.at hk
 cases o with
 | none =>
   have x1 : w.cell? ⟨X, k, none⟩ = some (.pointer none) := x0
   clear h x0
   go_enter Tryz.func65, Tryz.ntmps65
   go_wp2_with fail
   refine (_root_.Go.Proofs.YtkkgbeaaekmhfaaGreat.Pi.close_nil _).mono ?_
   rintro r w1 ⟨rfl, rfl⟩
   go_wp2_with fail
   go_ret
   exact ⟨rfl, rfl⟩
 | some B1 =>
   have x1 : w.cell? ⟨X, k, none⟩ = some (.pointer (some ⟨B1, 0, none⟩)) := x0
   obtain ⟨st, e, q⟩ := h.qs.one k B1 ho
   have CL := hide (_root_.Go.Proofs.YtkkgbeaaekmhfaaGreat.Pi.close_closed B1 (Fs k) st w q (hno st (nm_at e)))
   clear h x0 q
   go_enter Tryz.func65, Tryz.ntmps65
   go_wp2_with fail
   refine CL.out.mono ?_
   rintro r w1 ⟨rfl, rfl⟩
   go_wp2_with fail
   go_ret
   exact ⟨rfl, rfl⟩
set_option maxRecDepth 100000 in
set_option maxHeartbeats 3200000 in
theorem closes_yes (L : Nat) (col : Nat → Nat) (s : Lm) (K : Nat) (g : Int) (k : Nat) (st : St) (w : World) (h : LW w col L s) (bw : Bw K s) (hK : K ≤ 90000) (hk : k < 8) (hst : Fk.nmB s.sts (k : Int) = some st) (hc : st.closed = false) (hl1 : st.rcv.length ≤ 1000) (hl2 : st.snd.length ≤ 1000) (s1 s2 : Lm)
 (hs1 : s1 = goS { s with sts := s.sts.set k (some (_root_.Go.Proofs.YtkkgbeaaekmhfaaGreat.Pi.closeS st)) } ⟨5, g, nth s.nm k, -1, -1, -1, false, false⟩) (hs2 : s2 = wakeAll g (nth s.nm k) s1 st.rcv) :
 Calls Tryz.prog 65 #[.pointer (some ⟨L, 0, none⟩), .int .i64 g, .int .i64 (k : Int)] w fun r w' => r = .returned (.int .i64 (first s2 st.snd)) ∧ ∃ col', LW w' col' L s2 ∧ Tr col col' w w' := by
 obtain ⟨N, C, B, X, FB, pa, pc, bs, Fs, ta, tc, h⟩ := h
 have y3 : w.cell? ⟨L, 3, none⟩ = some (.slice (some ⟨X, 0, none⟩) 8 8) := cell_of h.hp 3
 have k0 : (0 : Int) ≤ (k : Int) := by omega
 have k8 : (k : Int) < 8 := by omega
 have e := Fk.nmB_at hst
 rw [Int.toNat_natCast] at e
 obtain ⟨o, ho, x0⟩ := h.at hk
 cases o with
 | none => have := h.qs.non k ho; rw [e] at this; cases this
 | some B1 =>
 have x1 : w.cell? ⟨X, k, none⟩ = some (.pointer (some ⟨B1, 0, none⟩)) := x0
 have CL := hide (close_at h ho e hc)
 have BW := hide bw
 have HS1 := hide hs1
 have HS2 := hide hs2
 clear h x0 hs1 hs2 bw
 go_enter Tryz.func65, Tryz.ntmps65
 go_wp2_with fail
 refine CL.out.mono ?_
 rintro r w1 ⟨oa, ca, ob, cb, rfl, Fs1, col1, h1, t1, a1, a2⟩
 have T1 := hide t1
 have H1 := hide h1
 have A1 := hide a1
 have A2 := hide a2
 clear h1 t1 a1 a2 CL x1 y3
 go_wp2_with fail
 refine (En.bare_any 5 g _).mono ?_
 rintro r w2 ⟨rfl, b2⟩
 obtain ⟨col3, h3, t3, n3⟩ := H1.out.below (btr b2 (below_alloc w2 (.cells #[.int .i64 5, .int .i64 g, .int .i64 (nth s.nm k), .int .i64 (-1), .int .i64 (-1), .int .i64 (-1), .bool false, .bool false] 35)))
 have V3 := hide (heap_new w2 (.cells #[.int .i64 5, .int .i64 g, .int .i64 (nth s.nm k), .int .i64 (-1), .int .i64 (-1), .int .i64 (-1), .bool false, .bool false] 35))
 have C3 := hide (n3 w2.heap.size b2.size)
 have T3 := hide (T1.out.trans t3)
 have A13 := hide (A1.out.tr t3)
 have A23 := hide (A2.out.tr t3)
 have nu : w2.cell? ⟨L, 4 + k, none⟩ = some (.int .i64 (nth s.nm k)) := (cell_of (heap_below H1.out.hp b2) (4 + k)).trans ((cell_of H1.out.hp (4 + k)).symm.trans (H1.out.num hk))
 have hL2 : L < w2.heap.size := Nat.lt_of_lt_of_le H1.out.lt b2.size
 have GO := hide (goes_any L col3 _ K (⟨5, g, nth s.nm k, -1, -1, -1, false, false⟩ : Ev) _ h3.lw BW.out.cb (by omega) (by have := BW.out.tn; show s.tr.length ≤ _; omega))
 unfold En.evv En.evc at GO
 clear h3 t3 n3 b2 T1 H1 A1 A2
 go_wp2_with fail
 refine GO.out.mono ?_
 rintro r w4 ⟨rfl, col4, h4, t4⟩
 have H4 : Hid (LW w4 col4 L s1) := by rw [HS1.out]; exact h4
 have T4 := hide (T3.out.trans t4)
 have V4 := hide (t4.heap V3.out C3.out)
 have C4 : Hid (col4 w2.heap.size = 7) := (t4.old _ (heap_lt V3.out)).trans C3.out
 have A14 := hide (A13.out.tr t4)
 have A24 := hide (A23.out.tr t4)
 have B4 : Hid (Bw (K + 1) s1) := by
  show Bw _ _
  rw [HS1.out]
  exact Bw.go (s := { s with sts := s.sts.set k (some (_root_.Go.Proofs.YtkkgbeaaekmhfaaGreat.Pi.closeS st)) }) ⟨BW.out.cb, BW.out.tn⟩ _
 clear h4 t4 GO T3 V3 C3 A13 A23 nu hL2 BW HS1
 generalize w2.heap.size = Eb at *
 generalize hnu : nth s.nm k = nu at *
 go_wp2_with fail
 go_loopw [44] (fun iv wr => ∃ (j : Nat) (cj : Nat → Nat), j ≤ st.rcv.length ∧ iv = .int .i64 j ∧ LW wr cj L (wakeAll g nu s1 (st.rcv.take j)) ∧ Tr col cj w wr ∧ (wr.heap[Eb]? = some (.cells #[.int .i64 5, .int .i64 g, .int .i64 nu, .int .i64 (-1), .int .i64 (-1), .int .i64 (-1), .bool false, .bool false] 35 (0, 0)) ∧ cj Eb = 7) ∧ WA wr cj oa st.rcv ∧ WA wr cj ob st.snd) (fun iv _ => st.rcv.length - (intOf iv).toNat)
 case atStart => exact ⟨0, col4, Nat.zero_le _, rfl, H4.out, T4.out, ⟨V4.out, C4.out⟩, A14.out, A24.out⟩
 case round =>
  clear H4 T4 V4 C4 A14 A24
  obtain ⟨j, cj, hj, rfl, hlw, htr, ⟨hv, hcE⟩, ha1, ha2⟩ := hrel
  have HL := hide hlw
  have HT := hide htr
  have HV := hide hv
  have HC := hide hcE
  have HA1 := hide ha1
  have HA2 := hide ha2
  clear hlw htr hv hcE ha1 ha2
  by_cases hlt : j < st.rcv.length
  ·have hlt' : (j : Int) < (st.rcv.length : Int) := by omega
   obtain ⟨x, hx⟩ : ∃ x, st.rcv[j]? = some x := ⟨_, List.getElem?_eq_getElem hlt⟩
   obtain ⟨b, off, hoa, q0, q1, q2⟩ := HA1.out.1 j x hx
   subst hoa
   have ST := hide (wakeAll_take (g := g) (c := nu) (s := s1) hx)
   have BJ : Hid (Bw (K + 1 + j) (wakeAll g nu s1 (st.rcv.take j))) := by
    have := Bw.all (g := g) (c := nu) (l := st.rcv.take j) B4.out
    rw [List.length_take, Nat.min_eq_left hj] at this
    exact this
   generalize wakeAll g nu s1 (st.rcv.take j) = sj at *
   obtain ⟨c5, h5, t5, n5⟩ := HL.out.below (below_alloc wr (.cells #[.int .i64 x.g, .int .i64 x.c, .int .i64 x.v] 135))
   have IP := hide (isParked_any L c5 sj x.g _ h5)
   have H5 := hide h5
   have T5 := hide (HT.out.trans t5)
   have V5 := hide (t5.heap HV.out HC.out)
   have C5 : Hid (c5 Eb = 7) := (t5.old _ (heap_lt HV.out)).trans HC.out
   have A15 := hide (HA1.out.tr t5)
   have A25 := hide (HA2.out.tr t5)
   have vE : wr.cell? ⟨Eb, 2, none⟩ = some (.int .i64 nu) := cell_of HV.out 2
   have hEr := heap_lt HV.out
   clear h5 t5 n5 HL HT HV HC HA1 HA2
   cases hp : parked sj x.g
   ·rw [hp] at IP ST
    go_wp2_with fail
    refine IP.out.mono ?_
    rintro r w6 ⟨rfl, rfl⟩
    go_wp2_with fail
    go_roundw
    case rel => exact ⟨j + 1, c5, by omega, by go_num, by rw [ST.out]; exact H5.out, T5.out, ⟨V5.out, C5.out⟩, A15.out, A25.out⟩
    case measure => simp [intOf]; omega
   ·rw [hp] at IP ST
    have WK := hide (wakes_any L c5 sj (K + 1 + j) (⟨7, x.g, nu, x.c, 0, g, false, false⟩ : Ev) _ H5.out BJ.out.cb (by omega) (by have := BJ.out.tn; omega))
    unfold En.evv En.evc at WK
    go_wp2_with fail
    refine IP.out.mono ?_
    rintro r w6 ⟨rfl, rfl⟩
    go_wp2_with fail
    refine WK.out.mono ?_
    rintro r w7 ⟨rfl, c7, h7, t7⟩
    have H7 := hide h7
    have T7 := hide (T5.out.trans t7)
    have V7 := hide (t7.heap V5.out C5.out)
    have C7 : Hid (c7 Eb = 7) := (t7.old _ (heap_lt V5.out)).trans C5.out
    have A17 := hide (A15.out.tr t7)
    have A27 := hide (A25.out.tr t7)
    clear h7 t7 WK IP
    go_wp2_with fail
    go_roundw
    case rel => exact ⟨j + 1, c7, by omega, by go_num, by rw [ST.out]; exact H7.out, T7.out, ⟨V7.out, C7.out⟩, A17.out, A27.out⟩
    case measure => simp [intOf]; omega
  ·have hlt' : ¬ ((j : Int) < (st.rcv.length : Int)) := by omega
   have H2 : Hid (LW wr cj L s2) := by
    have := HL.out
    rw [List.take_of_length_le (by omega), ← HS2.out] at this
    exact this
   clear HL HA1 HV HC HS2 B4
   go_wp2_with fail
   go_loopw [65] (fun iv wr => ∃ (j : Nat) (cj : Nat → Nat), j ≤ st.snd.length ∧ iv = .int .i64 j ∧ LW wr cj L s2 ∧ Tr col cj w wr ∧ WA wr cj ob st.snd ∧ ∀ i x, i < j → st.snd[i]? = some x → parked s2 x.g = false) (fun iv _ => st.snd.length - (intOf iv).toNat)
   case atStart => exact ⟨0, cj, Nat.zero_le _, rfl, H2.out, HT.out, HA2.out, fun i x hi => by omega⟩
   case round =>
    clear H2 HT HA2
    rename World => wr2
    obtain ⟨i, ci, hi, rfl, hlw, htr, ha2, hno⟩ := hrel
    have HL := hide hlw
    have HT := hide htr
    have HA2 := hide ha2
    have NO := hide hno
    clear hlw htr ha2 hno
    by_cases hlt2 : i < st.snd.length
    ·have hlt2' : (i : Int) < (st.snd.length : Int) := by omega
     obtain ⟨x, hx⟩ : ∃ x, st.snd[i]? = some x := ⟨_, List.getElem?_eq_getElem hlt2⟩
     obtain ⟨b, off, hoa, q0, q1, q2⟩ := HA2.out.1 i x hx
     subst hoa
     obtain ⟨c5, h5, t5, n5⟩ := HL.out.below (below_alloc wr2 (.cells #[.int .i64 x.g, .int .i64 x.c, .int .i64 x.v] 135))
     have IP := hide (isParked_any L c5 s2 x.g _ h5)
     have H5 := hide h5
     have T5 := hide (HT.out.trans t5)
     have A25 := hide (HA2.out.tr t5)
     have HX := hide hx
     clear h5 t5 n5 HL HT HA2 hx
     cases hp : parked s2 x.g
     ·rw [hp] at IP
      have NO2 : Hid (∀ i' x, i' < i + 1 → st.snd[i']? = some x → parked s2 x.g = false) := fun i' y hi' hy => by
       rcases Nat.lt_or_ge i' i with q | q
       ·exact NO.out i' y q hy
       ·obtain rfl : i' = i := by omega
        rw [HX.out] at hy
        cases hy
        exact hp
      go_wp2_with fail
      refine IP.out.mono ?_
      rintro r w6 ⟨rfl, rfl⟩
      go_wp2_with fail
      go_roundw
      case rel => exact ⟨i + 1, c5, by omega, by go_num, H5.out, T5.out, A25.out, NO2.out⟩
      case measure => simp [intOf]; omega
     ·rw [hp] at IP
      have FR : Hid (first s2 st.snd = x.g) := by
       show _ = _
       rw [first_take NO.out, List.drop_eq_getElem_cons hlt2]
       have : st.snd[i] = x := by have h1 := HX.out; rw [List.getElem?_eq_getElem hlt2] at h1; cases h1; rfl
       rw [this]
       show (if parked s2 x.g then x.g else _) = _
       rw [hp]
       rfl
      go_wp2_with fail
      refine IP.out.mono ?_
      rintro r w6 ⟨rfl, rfl⟩
      go_wp2_with fail
      go_ret
      exact ⟨by (rw [FR.out]) <;> rfl, c5, H5.out, T5.out⟩
    ·have hlt2' : ¬ ((i : Int) < (st.snd.length : Int)) := by omega
     have FR : Hid (first s2 st.snd = -1) := by
      show _ = _
      rw [first_take NO.out, List.drop_eq_nil_of_le (by omega)]
      rfl
     go_wp2_with fail
     go_ret
     exact ⟨by (rw [FR.out]) <;> rfl, ci, HL.out, HT.out⟩
theorem closes_any (L : Nat) (col : Nat → Nat) (s : Lm) (K : Nat) (g : Int) (k : Nat) (w : World) (h : LW w col L s) (ok : Ok K s) (hK : K ≤ 90000) (hk : k < 8) :
 Calls Tryz.prog 65 #[.pointer (some ⟨L, 0, none⟩), .int .i64 g, .int .i64 (k : Int)] w fun r w' => r = .returned (.int .i64 (closesF s g k).who) ∧ ∃ col', LW w' col' L (closesF s g k).s ∧ Tr col col' w w' := by
 have no : ∀ (hno : ∀ st, Fk.nmB s.sts (k : Int) = some st → st.closed = true) (_ : closesF s g k = ⟨s, g⟩), Calls Tryz.prog 65 #[.pointer (some ⟨L, 0, none⟩), .int .i64 g, .int .i64 (k : Int)] w fun r w' => r = .returned (.int .i64 (closesF s g k).who) ∧ ∃ col', LW w' col' L (closesF s g k).s ∧ Tr col col' w w' := by
  intro hno he
  rw [he]
  refine (closes_no L col s g k w h hk hno).mono ?_
  rintro r w1 ⟨rfl, rfl⟩
  exact ⟨rfl, col, h, Tr.refl _ _⟩
 cases hst : Fk.nmB s.sts (k : Int) with
 | none => exact no (fun st e => by rw [hst] at e; cases e) (by unfold closesF; rw [hst])
 | some st =>
   cases hc : st.closed
   ·have he : closesF s g k = ⟨wakeAll g (nth s.nm k) (goS { s with sts := s.sts.set k (some (_root_.Go.Proofs.YtkkgbeaaekmhfaaGreat.Pi.closeS st)) } ⟨5, g, nth s.nm k, -1, -1, -1, false, false⟩) st.rcv, first (wakeAll g (nth s.nm k) (goS { s with sts := s.sts.set k (some (_root_.Go.Proofs.YtkkgbeaaekmhfaaGreat.Pi.closeS st)) } ⟨5, g, nth s.nm k, -1, -1, -1, false, false⟩) st.rcv) st.snd⟩ := by
     unfold closesF
     rw [hst]
     simp [hc, num]
    rw [he]
    have hw := ok.wl _ st (Fk.nmB_at hst)
    exact closes_yes L col s K g k st w h ⟨ok.cb, ok.tn⟩ hK hk hst hc (hw false) (hw true) _ _ rfl rfl
   ·exact no (fun st' e => by rw [hst] at e; cases e; exact hc) (by unfold closesF; rw [hst]; simp [hc])
end Lo
end Go.Proofs.YtkkgbeaaekmhfaaGreat
namespace Go.Proofs.YtkkgbeaaekmhfaaGreat
open Go.ChangeShapes Go.WideShapes Go.ChangeAt Go.RowKit
namespace Lo
open Ba
theorem wp_scope_forward {P : Program} {a : Act} {w : World} {Q : Exit → Act → World → Prop} {c rest : Code} (l : Nat) (hf : findLabel c l = some rest)
 (first : c.wp P (Exit.jump l (fun a' w' => rest.wp P (Exit.jump l (fun _ _ => False) Q) a' w') Q) a w) : (Code.scope c).wp P Q a w :=
 wp_scope_jumps l _ (fun _ _ => 0) hf first (fun a' w' hJ => Code.wp_mono (fun e a2 w2 h => by
  cases e with
  | goto l' => exact h.2.elim
  | _ => exact h) hJ)
theorem LW.ok {w : World} {col : Nat → Nat} {L : Nat} {s : Lm} (h : LW w col L s) : s.nm.length = 8 := by
 obtain ⟨N, C, B, X, FB, pa, pc, bs, Fs, ta, tc, h⟩ := h
 exact h.nml
theorem try_tr (s : Lm) (g at_ : Int) (c : Ca) : (tryF s g at_ c).s.tr.length ≤ s.tr.length + 2 := by
 unfold tryF
 split
 ·show s.tr.length ≤ _; omega
 ·split
  ·show ((s.tr ++ [_]) ++ [_]).length ≤ _; simp
  ·show (s.tr ++ [_]).length ≤ _; simp
theorem alone_tr (s : Lm) (g : Int) (c : Ca) : (aloneF s g c).s.tr.length ≤ s.tr.length + 3 := by
 have := try_tr s g (-1) c
 unfold aloneF
 split
 ·show (tryF s g (-1) c).s.tr.length ≤ _; omega
 ·show ((tryF s g (-1) c).s.tr ++ [_]).length ≤ _; simp; omega
theorem choose_tr (s : Lm) (g : Int) (o : OpD) : (chooseF s g o).s.tr.length ≤ s.tr.length + 3 := by
 unfold chooseF
 split
 ·refine Nat.le_trans (try_tr _ _ _ _) ?_
  show s.tr.length + 2 ≤ _
  omega
 ·split
  ·show (s.tr ++ [_]).length ≤ _; simp
  ·show (s.tr ++ [_]).length ≤ _; simp
theorem closes_tr {K : Nat} (s : Lm) (g : Int) (k : Nat) (ok : Ok K s) : (closesF s g k).s.tr.length ≤ K + 1001 := by
 have h0 := ok.tn
 unfold closesF
 split
 ·show s.tr.length ≤ _; omega
 ·rename_i st hst
  split
  ·show s.tr.length ≤ _; omega
  ·have hl : st.rcv.length ≤ 1000 := ok.wl _ st (Fk.nmB_at hst) false
   have := (Bw.all (g := g) (c := num s k) (l := st.rcv) (Bw.go (s := { s with sts := s.sts.set (k : Int).toNat (some (_root_.Go.Proofs.YtkkgbeaaekmhfaaGreat.Pi.closeS st)) }) ⟨ok.cb, ok.tn⟩ ⟨5, g, num s k, -1, -1, -1, false, false⟩)).tn
   exact Nat.le_trans this (by omega)
set_option maxRecDepth 100000 in
set_option maxHeartbeats 3200000 in
theorem do_7 (L : Nat) (col : Nat → Nat) (s : Lm) (K : Nat) (g a b : Int) (oc : Option Addr) (n cc : Nat) (df : Bool) (w : World) (h : LW w col L s) (ok : Ok K s) (hK : K ≤ 90000) :
 Calls Tryz.prog 38 #[.pointer (some ⟨L, 0, none⟩), .int .i64 g, .agg #[.int .i64 7, .int .i64 a, .int .i64 b, .slice oc n cc, .bool df]] w fun r w' => r = .returned (.tuple #[]) ∧ ∃ col', LW w' col' L (goS s ⟨9, g, -1, -1, a, -1, false, false⟩) ∧ Tr col col' w w' := by
 have OK := hide ok
 have H0 := hide h
 have hL := h.lt
 clear h ok
 go_enter Tryz.func38, Tryz.ntmps38
 go_wp2_with fail
 refine wp_scope_forward 0 rfl ?_
 go_wp2_with fail
 refine (En.bare_any 0 g _).mono ?_
 rintro r w1 ⟨rfl, b1⟩
 have B1 := hide (btr (below_alloc w (.cells #[.int .i64 7, .int .i64 a, .int .i64 b, .slice oc n cc, .bool df] 48)) b1)
 have O1 := hide (heap_below (heap_new w (.cells #[.int .i64 7, .int .i64 a, .int .i64 b, .slice oc n cc, .bool df] 48)) b1)
 have s1 : w.heap.size < w1.heap.size := heap_lt O1.out
 have hL1 : L < w1.heap.size := by omega
 have o0 : w1.cell? ⟨w.heap.size, 0, none⟩ = some (.int .i64 7) := cell_of O1.out 0
 have o1 : w1.cell? ⟨w.heap.size, 1, none⟩ = some (.int .i64 a) := cell_of O1.out 1
 have o2 : w1.cell? ⟨w.heap.size, 2, none⟩ = some (.int .i64 b) := cell_of O1.out 2
 have o3 : w1.cell? ⟨w.heap.size, 3, none⟩ = some (.slice oc n cc) := cell_of O1.out 3
 have o4 : w1.cell? ⟨w.heap.size, 4, none⟩ = some (.bool df) := cell_of O1.out 4
 clear b1
 go_wp2_with fail
 go_region
 obtain ⟨col3, h3, t3, n3⟩ := H0.out.below (btr B1.out (btr (below_alloc w1 (.cells #[.int .i64 9, .int .i64 g, .int .i64 (-1), .int .i64 (-1), .int .i64 a, .int .i64 (-1), .bool false, .bool false] 35)) (bdrew1 _)))
 have T3 := hide t3
 have H3 := hide h3
 clear h3 t3 n3
 have GO := hide (goes_any L col3 s K (⟨9, g, -1, -1, a, -1, false, false⟩ : Ev) _ H3.out OK.out.cb (by omega) (by have := OK.out.tn; omega))
 unfold En.evv En.evc at GO
 go_wp2_with fail
 refine GO.out.mono ?_
 rintro r w9 ⟨rfl, col9, h9, t9⟩
 have H9 := hide h9
 have T9 := hide (Tr.trans T3.out t9)
 clear h9 t9 GO
 go_wp2_with fail
 simp only [Exit.jump]
 refine bodyPost_ret (results_none rfl _ _ _) rfl ?_
 exact ⟨rfl, col9, H9.out, T9.out⟩
set_option maxRecDepth 100000 in
set_option maxHeartbeats 3200000 in
theorem do_8 (L : Nat) (col : Nat → Nat) (s : Lm) (K : Nat) (g a b : Int) (oc : Option Addr) (n cc : Nat) (df : Bool) (w : World) (h : LW w col L s) (ok : Ok K s) (hK : K ≤ 90000) :
 Calls Tryz.prog 38 #[.pointer (some ⟨L, 0, none⟩), .int .i64 g, .agg #[.int .i64 8, .int .i64 a, .int .i64 b, .slice oc n cc, .bool df]] w fun r w' => r = .returned (.tuple #[]) ∧ ∃ col', LW w' col' L (goS s ⟨10, g, -1, -1, a, -1, false, false⟩) ∧ Tr col col' w w' := by
 have OK := hide ok
 have H0 := hide h
 have hL := h.lt
 clear h ok
 go_enter Tryz.func38, Tryz.ntmps38
 go_wp2_with fail
 refine wp_scope_forward 0 rfl ?_
 go_wp2_with fail
 refine (En.bare_any 0 g _).mono ?_
 rintro r w1 ⟨rfl, b1⟩
 have B1 := hide (btr (below_alloc w (.cells #[.int .i64 8, .int .i64 a, .int .i64 b, .slice oc n cc, .bool df] 48)) b1)
 have O1 := hide (heap_below (heap_new w (.cells #[.int .i64 8, .int .i64 a, .int .i64 b, .slice oc n cc, .bool df] 48)) b1)
 have s1 : w.heap.size < w1.heap.size := heap_lt O1.out
 have hL1 : L < w1.heap.size := by omega
 have o0 : w1.cell? ⟨w.heap.size, 0, none⟩ = some (.int .i64 8) := cell_of O1.out 0
 have o1 : w1.cell? ⟨w.heap.size, 1, none⟩ = some (.int .i64 a) := cell_of O1.out 1
 have o2 : w1.cell? ⟨w.heap.size, 2, none⟩ = some (.int .i64 b) := cell_of O1.out 2
 have o3 : w1.cell? ⟨w.heap.size, 3, none⟩ = some (.slice oc n cc) := cell_of O1.out 3
 have o4 : w1.cell? ⟨w.heap.size, 4, none⟩ = some (.bool df) := cell_of O1.out 4
 clear b1
 go_wp2_with fail
 go_region
 obtain ⟨col3, h3, t3, n3⟩ := H0.out.below (btr B1.out (btr (below_alloc w1 (.cells #[.int .i64 10, .int .i64 g, .int .i64 (-1), .int .i64 (-1), .int .i64 a, .int .i64 (-1), .bool false, .bool false] 35)) (bdrew1 _)))
 have T3 := hide t3
 have H3 := hide h3
 clear h3 t3 n3
 have GO := hide (goes_any L col3 s K (⟨10, g, -1, -1, a, -1, false, false⟩ : Ev) _ H3.out OK.out.cb (by omega) (by have := OK.out.tn; omega))
 unfold En.evv En.evc at GO
 go_wp2_with fail
 refine GO.out.mono ?_
 rintro r w9 ⟨rfl, col9, h9, t9⟩
 have H9 := hide h9
 have T9 := hide (Tr.trans T3.out t9)
 clear h9 t9 GO
 go_wp2_with fail
 simp only [Exit.jump]
 refine bodyPost_ret (results_none rfl _ _ _) rfl ?_
 exact ⟨rfl, col9, H9.out, T9.out⟩
set_option maxRecDepth 100000 in
set_option maxHeartbeats 3200000 in
theorem do_9 (L : Nat) (col : Nat → Nat) (s : Lm) (K : Nat) (g a b : Int) (oc : Option Addr) (n cc : Nat) (df : Bool) (w : World) (h : LW w col L s) (ok : Ok K s) (hK : K ≤ 90000) :
 Calls Tryz.prog 38 #[.pointer (some ⟨L, 0, none⟩), .int .i64 g, .agg #[.int .i64 9, .int .i64 a, .int .i64 b, .slice oc n cc, .bool df]] w fun r w' => r = .returned (.tuple #[]) ∧ ∃ col', LW w' col' L (tellS { s with cr := Cr.chL s.cr g 0 2 0 } (bareE 11 g)) ∧ Tr col col' w w' := by
 have OK := hide ok
 have H0 := hide h
 have hL := h.lt
 clear h ok
 go_enter Tryz.func38, Tryz.ntmps38
 go_wp2_with fail
 refine wp_scope_forward 0 rfl ?_
 go_wp2_with fail
 refine (En.bare_any 0 g _).mono ?_
 rintro r w1 ⟨rfl, b1⟩
 have B1 := hide (btr (below_alloc w (.cells #[.int .i64 9, .int .i64 a, .int .i64 b, .slice oc n cc, .bool df] 48)) b1)
 have O1 := hide (heap_below (heap_new w (.cells #[.int .i64 9, .int .i64 a, .int .i64 b, .slice oc n cc, .bool df] 48)) b1)
 have s1 : w.heap.size < w1.heap.size := heap_lt O1.out
 have hL1 : L < w1.heap.size := by omega
 have o0 : w1.cell? ⟨w.heap.size, 0, none⟩ = some (.int .i64 9) := cell_of O1.out 0
 have o1 : w1.cell? ⟨w.heap.size, 1, none⟩ = some (.int .i64 a) := cell_of O1.out 1
 have o2 : w1.cell? ⟨w.heap.size, 2, none⟩ = some (.int .i64 b) := cell_of O1.out 2
 have o3 : w1.cell? ⟨w.heap.size, 3, none⟩ = some (.slice oc n cc) := cell_of O1.out 3
 have o4 : w1.cell? ⟨w.heap.size, 4, none⟩ = some (.bool df) := cell_of O1.out 4
 clear b1
 obtain ⟨col3, h3, t3, n3⟩ := H0.out.below (btr B1.out (below_alloc w1 (.cells #[.int .i64 11, .int .i64 g, .int .i64 (-1), .int .i64 (-1), .int .i64 (-1), .int .i64 (-1), .bool false, .bool false] 35)))
 have T3 := hide t3
 have V3 := hide (heap_new w1 (.cells #[.int .i64 11, .int .i64 g, .int .i64 (-1), .int .i64 (-1), .int .i64 (-1), .int .i64 (-1), .bool false, .bool false] 35))
 have C3 := hide (n3 w1.heap.size B1.out.size)
 obtain ⟨N, C, B, X, FB, pa, pc, bs, Fs, ta, tc, h3⟩ := h3
 have H3 := hide h3
 have y2 : w1.cell? ⟨L, 2, none⟩ = some (.pointer (some ⟨B, 0, none⟩)) := by
  have h1 : (w1.alloc (.cells #[.int .i64 11, .int .i64 g, .int .i64 (-1), .int .i64 (-1), .int .i64 (-1), .int .i64 (-1), .bool false, .bool false] 35)).cell? ⟨L, 2, none⟩ = some (.pointer (some ⟨B, 0, none⟩)) := cell_of h3.hp 2
  have h2 := (below_alloc w1 (.cells #[.int .i64 11, .int .i64 g, .int .i64 (-1), .int .i64 (-1), .int .i64 (-1), .int .i64 (-1), .bool false, .bool false] 35)).block L hL1
  rw [← h1]
  simp only [World.cell?, h2]
 have EX := hide (Cr.exit_any B FB s.cr K g _ h3.cr OK.out.cb (by omega))
 clear h3 t3 n3
 go_wp2_with fail
 refine EX.out.mono ?_
 rintro r w4 ⟨rfl, p4⟩
 obtain ⟨FB4, col4, h4, t4⟩ := H3.out.crew p4
 have T4 := hide (T3.out.trans t4)
 have V4 := hide (t4.heap V3.out C3.out)
 have v0 := cell_of V4.out 0
 have v1 := cell_of V4.out 1
 have v2 := cell_of V4.out 2
 have v3 := cell_of V4.out 3
 have v4 := cell_of V4.out 4
 have v5 := cell_of V4.out 5
 have v6 := cell_of V4.out 6
 have v7 := cell_of V4.out 7
 simp at v0 v1 v2 v3 v4 v5 v6 v7
 have TE := hide (tell_any L col4 _ (bareE 11 g) w4 h4.lw (by have := OK.out.tn; show s.tr.length ≤ _; omega))
 unfold En.evv En.evc bareE at TE
 clear h4 t4 p4 H3 T3 EX y2
 go_wp2_with fail
 refine TE.out.mono ?_
 rintro r w9 ⟨rfl, col9, h9, t9⟩
 have H9 := hide h9
 have T9 := hide (T4.out.trans t9)
 clear h9 t9 TE
 go_wp2_with fail
 simp only [Exit.jump]
 refine bodyPost_ret (results_none rfl _ _ _) rfl ?_
 exact ⟨rfl, col9, H9.out, T9.out⟩
set_option maxRecDepth 100000 in
set_option maxHeartbeats 3200000 in
theorem do_1 (L : Nat) (col : Nat → Nat) (s : Lm) (K : Nat) (g a b : Int) (oc : Option Addr) (n cc : Nat) (df : Bool) (w : World) (h : LW w col L s) (ok : Ok K s) (hK : K ≤ 90000) :
 Calls Tryz.prog 38 #[.pointer (some ⟨L, 0, none⟩), .int .i64 g, .agg #[.int .i64 1, .int .i64 a, .int .i64 b, .slice oc n cc, .bool df]] w fun r w' => r = .returned (.tuple #[]) ∧ ∃ col', LW w' col' L (goS { s with cr := Cr.spL s.cr a } ⟨1, g, -1, -1, a, Cr.spV s.cr a, false, false⟩) ∧ Tr col col' w w' := by
 have OK := hide ok
 have H0 := hide h
 have hL := h.lt
 clear h ok
 go_enter Tryz.func38, Tryz.ntmps38
 go_wp2_with fail
 refine wp_scope_forward 0 rfl ?_
 go_wp2_with fail
 refine (En.bare_any 0 g _).mono ?_
 rintro r w1 ⟨rfl, b1⟩
 have B1 := hide (btr (below_alloc w (.cells #[.int .i64 1, .int .i64 a, .int .i64 b, .slice oc n cc, .bool df] 48)) b1)
 have O1 := hide (heap_below (heap_new w (.cells #[.int .i64 1, .int .i64 a, .int .i64 b, .slice oc n cc, .bool df] 48)) b1)
 have s1 : w.heap.size < w1.heap.size := heap_lt O1.out
 have hL1 : L < w1.heap.size := by omega
 have o0 : w1.cell? ⟨w.heap.size, 0, none⟩ = some (.int .i64 1) := cell_of O1.out 0
 have o1 : w1.cell? ⟨w.heap.size, 1, none⟩ = some (.int .i64 a) := cell_of O1.out 1
 have o2 : w1.cell? ⟨w.heap.size, 2, none⟩ = some (.int .i64 b) := cell_of O1.out 2
 have o3 : w1.cell? ⟨w.heap.size, 3, none⟩ = some (.slice oc n cc) := cell_of O1.out 3
 have o4 : w1.cell? ⟨w.heap.size, 4, none⟩ = some (.bool df) := cell_of O1.out 4
 clear b1
 go_wp2_with fail
 go_region
 obtain ⟨col3, h3, t3, n3⟩ := H0.out.below (btr B1.out (btr (below_alloc w1 (.cells #[.int .i64 1, .int .i64 g, .int .i64 (-1), .int .i64 (-1), .int .i64 a, .int .i64 (-1), .bool false, .bool false] 35)) (bdrew1 _)))
 have T3 := hide t3
 have V3 := hide (heap_below (heap_new w1 (.cells #[.int .i64 1, .int .i64 g, .int .i64 (-1), .int .i64 (-1), .int .i64 a, .int .i64 (-1), .bool false, .bool false] 35)) (bdrew1 _))
 have C3 := hide (n3 w1.heap.size B1.out.size)
 have O3 := hide (heap_below O1.out (btr (below_alloc w1 (.cells #[.int .i64 1, .int .i64 g, .int .i64 (-1), .int .i64 (-1), .int .i64 a, .int .i64 (-1), .bool false, .bool false] 35)) (bdrew1 _)))
 have D3 := hide (n3 w.heap.size (Nat.le_refl _))
 obtain ⟨N, C, B, X, FB, pa, pc, bs, Fs, ta, tc, h3⟩ := h3
 have H3 := hide h3
 clear h3 t3 n3 o0 o1 o2 o3 o4
 generalize (w1.alloc (.cells #[.int .i64 1, .int .i64 g, .int .i64 (-1), .int .i64 (-1), .int .i64 a, .int .i64 (-1), .bool false, .bool false] 35)).drew = w3 at *
 generalize w1.heap.size = Eb at *
 have y2 : w3.cell? ⟨L, 2, none⟩ = some (.pointer (some ⟨B, 0, none⟩)) := cell_of H3.out.hp 2
 have o1 : w3.cell? ⟨w.heap.size, 1, none⟩ = some (.int .i64 a) := cell_of O3.out 1
 have v5 := cell_of V3.out 5
 have f5 := frozen_of V3.out 5
 simp at v5
 have SP := hide (Cr.spawn_any B FB s.cr a w3.drew H3.out.drew.cr)
 have hne : w.heap.size ≠ Eb := by omega
 have hLE : L ≠ Eb := by omega
 go_wp2_with fail
 go_region_held3 (fun w' => w'.cell? ⟨L, 2, none⟩ = some (.pointer (some ⟨B, 0, none⟩)) ∧ w'.cell? ⟨w.heap.size, 1, none⟩ = some (.int .i64 a))
  (first | (go_keep; done) | exact ⟨z2, z1⟩ | (go_split_ands; refine ⟨kset1 ?_ hLE, kset1 ?_ hne⟩ <;> assumption))
  (first | (go_at_call 33; refine SP.out.mono ?_; rintro r w4 ⟨rfl, p4⟩; obtain ⟨FB4, col4, h4, t4⟩ := H3.out.drew.crew p4; have V4 := hide (t4.heap (heap_below V3.out (bdrew1 _)) C3.out); have z2 : w4.cell? ⟨L, 2, none⟩ = some (.pointer (some ⟨B, 0, none⟩)) := cell_of h4.hp 2; have z1 : w4.cell? ⟨w.heap.size, 1, none⟩ = some (.int .i64 a) := cell_of (t4.heap (heap_below O3.out (bdrew1 _)) D3.out) 1; have g5 := cell_of V4.out 5; have f5' := frozen_of V4.out 5; simp at g5))
 have C4 : Hid (col4 Eb = 7) := (t4.old _ (heap_lt (heap_below V3.out (bdrew1 _)))).trans C3.out
 have H5 := hide (h4.temp (i := 5) (v := .int .i64 (Cr.spV s.cr a)) C4.out)
 have T5 := hide ((Tr.trans T3.out.drew t4).temp (z := Eb) (by omega) 5 (.int .i64 (Cr.spV s.cr a)))
 have V5 := hide (Ba.heap_setCell_same V4.out (i := 5) (.int .i64 (Cr.spV s.cr a)))
 clear h4 t4 p4 H3 T3 V3 V4 SP z1 z2 g5 f5' y2 o1 v5 f5
 generalize w4.setCell ⟨Eb, 5, none⟩ (.int .i64 (Cr.spV s.cr a)) = w5 at *
 have v0 := cell_of V5.out 0
 have v1 := cell_of V5.out 1
 have v2 := cell_of V5.out 2
 have v3 := cell_of V5.out 3
 have v4 := cell_of V5.out 4
 have v5 := cell_of V5.out 5
 have v6 := cell_of V5.out 6
 have v7 := cell_of V5.out 7
 simp at v0 v1 v2 v3 v4 v5 v6 v7
 have GO := hide (goes_any L col4 _ K (⟨1, g, -1, -1, a, Cr.spV s.cr a, false, false⟩ : Ev) w5 H5.out.lw (Cr.Bn.sp OK.out.cb a) (by omega) (by have := OK.out.tn; show s.tr.length ≤ _; omega))
 unfold En.evv En.evc at GO
 go_wp2_with fail
 refine GO.out.mono ?_
 rintro r w9 ⟨rfl, col9, h9, t9⟩
 have H9 := hide h9
 have T9 := hide (Tr.trans T5.out t9)
 clear h9 t9 GO
 go_wp2_with fail
 simp only [Exit.jump]
 refine bodyPost_ret (results_none rfl _ _ _) rfl ?_
 exact ⟨rfl, col9, H9.out, T9.out⟩
set_option maxRecDepth 100000 in
set_option maxHeartbeats 3200000 in
theorem do_2 (L : Nat) (col : Nat → Nat) (s : Lm) (K : Nat) (g : Int) (k z : Nat) (oc : Option Addr) (n cc : Nat) (df : Bool) (w : World) (h : LW w col L s) (ok : Ok K s) (hK : K ≤ 90000) (hk : k < 8) (hz : z ≤ 4) :
 Calls Tryz.prog 38 #[.pointer (some ⟨L, 0, none⟩), .int .i64 g, .agg #[.int .i64 2, .int .i64 (k : Int), .int .i64 (z : Int), .slice oc n cc, .bool df]] w fun r w' => r = .returned (.tuple #[]) ∧ ∃ col', LW w' col' L (goS (opensS s k z) ⟨2, g, s.md, -1, (z : Int), -1, false, false⟩) ∧ Tr col col' w w' := by
 have OK := hide ok
 have H0 := hide h
 have hL := h.lt
 clear h ok
 go_enter Tryz.func38, Tryz.ntmps38
 go_wp2_with fail
 refine wp_scope_forward 0 rfl ?_
 go_wp2_with fail
 refine (En.bare_any 0 g _).mono ?_
 rintro r w1 ⟨rfl, b1⟩
 have B1 := hide (btr (below_alloc w (.cells #[.int .i64 2, .int .i64 (k : Int), .int .i64 (z : Int), .slice oc n cc, .bool df] 48)) b1)
 have O1 := hide (heap_below (heap_new w (.cells #[.int .i64 2, .int .i64 (k : Int), .int .i64 (z : Int), .slice oc n cc, .bool df] 48)) b1)
 have s1 : w.heap.size < w1.heap.size := heap_lt O1.out
 have hL1 : L < w1.heap.size := by omega
 have o0 : w1.cell? ⟨w.heap.size, 0, none⟩ = some (.int .i64 2) := cell_of O1.out 0
 have o1 : w1.cell? ⟨w.heap.size, 1, none⟩ = some (.int .i64 (k : Int)) := cell_of O1.out 1
 have o2 : w1.cell? ⟨w.heap.size, 2, none⟩ = some (.int .i64 (z : Int)) := cell_of O1.out 2
 have o3 : w1.cell? ⟨w.heap.size, 3, none⟩ = some (.slice oc n cc) := cell_of O1.out 3
 have o4 : w1.cell? ⟨w.heap.size, 4, none⟩ = some (.bool df) := cell_of O1.out 4
 clear b1
 go_wp2_with fail
 go_region
 obtain ⟨col3, h3, t3, n3⟩ := H0.out.below (btr B1.out (btr (below_alloc w1 (.cells #[.int .i64 2, .int .i64 g, .int .i64 (-1), .int .i64 (-1), .int .i64 (z : Int), .int .i64 (-1), .bool false, .bool false] 35)) (bdrew1 _)))
 have T3 := hide t3
 have V3 := hide (heap_below (heap_new w1 (.cells #[.int .i64 2, .int .i64 g, .int .i64 (-1), .int .i64 (-1), .int .i64 (z : Int), .int .i64 (-1), .bool false, .bool false] 35)) (bdrew1 _))
 have C3 := hide (n3 w1.heap.size B1.out.size)
 have O3 := hide (heap_below O1.out (btr (below_alloc w1 (.cells #[.int .i64 2, .int .i64 g, .int .i64 (-1), .int .i64 (-1), .int .i64 (z : Int), .int .i64 (-1), .bool false, .bool false] 35)) (bdrew1 _)))
 have OP := hide (opens_any L col3 s k z _ h3 hk hz (by have := OK.out.md; omega))
 clear h3 t3 n3 o0 o1 o2 o3 o4
 generalize (w1.alloc (.cells #[.int .i64 2, .int .i64 g, .int .i64 (-1), .int .i64 (-1), .int .i64 (z : Int), .int .i64 (-1), .bool false, .bool false] 35)).drew = w3 at *
 have hEb : w.heap.size ≤ w1.heap.size := by omega
 generalize w1.heap.size = Eb at *
 have o1 : w3.cell? ⟨w.heap.size, 1, none⟩ = some (.int .i64 (k : Int)) := cell_of O3.out 1
 have o2 : w3.cell? ⟨w.heap.size, 2, none⟩ = some (.int .i64 (z : Int)) := cell_of O3.out 2
 go_wp2_with fail
 refine OP.out.mono ?_
 rintro r w4 ⟨rfl, col4, h4, t4⟩
 have V4 := hide (t4.heap V3.out C3.out)
 have C4 : Hid (col4 Eb = 7) := (t4.old _ (heap_lt V3.out)).trans C3.out
 have v2 := cell_of V4.out 2
 have f2 := frozen_of V4.out 2
 simp at v2
 obtain ⟨N, C, B, X, FB, pa, pc, bs, Fs, ta, tc, h4⟩ := h4
 have H5 := hide (h4.temp (i := 2) (v := .int .i64 s.md) C4.out)
 have T5 := hide ((Tr.trans T3.out t4).temp hEb 2 (.int .i64 s.md))
 have V5 := hide (Ba.heap_setCell_same V4.out (i := 2) (.int .i64 s.md))
 clear h4 t4 OP T3 V3 o1 o2
 have GO := hide (goes_any L col4 _ K (⟨2, g, s.md, -1, (z : Int), -1, false, false⟩ : Ev) _ H5.out.lw (by exact OK.out.cb) (by omega) (by have := OK.out.tn; show s.tr.length ≤ _; omega))
 unfold En.evv En.evc at GO
 have v0 := cell_of V4.out 0
 have v1 := cell_of V4.out 1
 have v3 := cell_of V4.out 3
 have v4 := cell_of V4.out 4
 have v5 := cell_of V4.out 5
 have v6 := cell_of V4.out 6
 have v7 := cell_of V4.out 7
 simp at v0 v1 v3 v4 v5 v6 v7
 go_wp2_with fail
 refine GO.out.mono ?_
 rintro r w9 ⟨rfl, col9, h9, t9⟩
 have H9 := hide h9
 have T9 := hide (Tr.trans T5.out t9)
 clear h9 t9 GO
 go_wp2_with fail
 simp only [Exit.jump]
 refine bodyPost_ret (results_none rfl _ _ _) rfl ?_
 exact ⟨rfl, col9, H9.out, T9.out⟩
set_option maxRecDepth 100000 in
set_option maxHeartbeats 3200000 in
theorem do_3 (L : Nat) (col : Nat → Nat) (s : Lm) (K : Nat) (g : Int) (k : Nat) (b : Int) (oc : Option Addr) (n cc : Nat) (df : Bool) (w : World) (h : LW w col L s) (ok : Ok K s) (hK : K ≤ 90000) (hk : k < 8) :
 Calls Tryz.prog 38 #[.pointer (some ⟨L, 0, none⟩), .int .i64 g, .agg #[.int .i64 3, .int .i64 (k : Int), .int .i64 b, .slice oc n cc, .bool df]] w fun r w' => r = .returned (.tuple #[]) ∧ ∃ col', LW w' col' L (if (aloneF s g ⟨true, k, b⟩).fine then (aloneF s g ⟨true, k, b⟩).s else panicS (aloneF s g ⟨true, k, b⟩).s g) ∧ Tr col col' w w' := by
 have TRN := alone_tr s g ⟨true, k, b⟩
 have AN := hide (fun (u : World) (c : Nat → Nat) (q : LW u c L s) => alone_any L c s K g true k b u q ok (by omega) hk)
 obtain ⟨sR, fR, hR⟩ : ∃ sR fR, aloneF s g ⟨true, k, b⟩ = ⟨sR, fR⟩ := ⟨_, _, rfl⟩
 rw [hR] at TRN AN ⊢
 simp only at TRN AN ⊢
 have OK := hide ok
 have H0 := hide h
 have hL := h.lt
 clear h ok
 go_enter Tryz.func38, Tryz.ntmps38
 go_wp2_with fail
 refine wp_scope_forward 0 rfl ?_
 go_wp2_with fail
 refine (En.bare_any 0 g _).mono ?_
 rintro r w1 ⟨rfl, b1⟩
 have B1 := hide (btr (below_alloc w (.cells #[.int .i64 3, .int .i64 (k : Int), .int .i64 b, .slice oc n cc, .bool df] 48)) b1)
 have O1 := hide (heap_below (heap_new w (.cells #[.int .i64 3, .int .i64 (k : Int), .int .i64 b, .slice oc n cc, .bool df] 48)) b1)
 have s1 : w.heap.size < w1.heap.size := heap_lt O1.out
 have hL1 : L < w1.heap.size := by omega
 have o0 : w1.cell? ⟨w.heap.size, 0, none⟩ = some (.int .i64 3) := cell_of O1.out 0
 have o1 : w1.cell? ⟨w.heap.size, 1, none⟩ = some (.int .i64 (k : Int)) := cell_of O1.out 1
 have o2 : w1.cell? ⟨w.heap.size, 2, none⟩ = some (.int .i64 b) := cell_of O1.out 2
 have o3 : w1.cell? ⟨w.heap.size, 3, none⟩ = some (.slice oc n cc) := cell_of O1.out 3
 have o4 : w1.cell? ⟨w.heap.size, 4, none⟩ = some (.bool df) := cell_of O1.out 4
 clear b1
 obtain ⟨col3, h3, t3, n3⟩ := H0.out.below (btr B1.out (below_alloc w1 (.cells #[.int .i64 0, .int .i64 g, .int .i64 (-1), .int .i64 (-1), .int .i64 (-1), .int .i64 (-1), .bool false, .bool false] 35)))
 have T3 := hide t3
 have V3 := hide (heap_new w1 (.cells #[.int .i64 0, .int .i64 g, .int .i64 (-1), .int .i64 (-1), .int .i64 (-1), .int .i64 (-1), .bool false, .bool false] 35))
 have AL := hide (AN.out _ col3 h3)
 have TRL : sR.tr.length ≤ 1000000 := by have := OK.out.tn; omega
 clear h3 t3 n3 TRN AN
 go_wp2_with fail
 refine AL.out.mono ?_
 rintro r w5 ⟨rfl, col5, h5, t5⟩
 have H5 := hide h5
 have T5 := hide (T3.out.trans t5)
 clear h5 t5 AL T3
 cases fR
 ·skip
  obtain ⟨N, C, B, X, FB, pa, pc, bs, Fs, ta, tc, h5⟩ := H5.out
  have y14 := cell_of h5.hp 14
  have f14 := frozen_of h5.hp 14
  simp [lcs] at y14
  obtain ⟨h6, t6⟩ := LX.self (s' := { sR with pk := true }) (i := 14) (v := .bool true) h5 rfl h5.nml rfl
  have H6 := hide h6.lw
  have T6 := hide (Tr.trans T5.out t6)
  clear h5 h6 t6
  go_wp2_with fail
  refine wp_goto ⟨rfl, ?_⟩
  go_wp2_with fail
  refine (En.bare_any 12 g _).mono ?_
  rintro r w7 ⟨rfl, b7⟩
  obtain ⟨col7, h7, t7, -⟩ := H6.out.below b7
  have T7 := hide (T6.out.trans t7)
  have TE := hide (tell_any L col7 _ (bareE 12 g) w7 h7 TRL)
  unfold En.evv En.evc bareE at TE
  clear h7 t7 b7
  go_wp2_with fail
  refine TE.out.mono ?_
  rintro r w9 ⟨rfl, col9, h9, t9⟩
  have H9 := hide h9
  have T9 := hide (T7.out.trans t9)
  clear h9 t9 TE
  go_wp2_with fail
  simp only [Exit.jump]
  go_end0
  exact ⟨rfl, col9, H9.out, T9.out⟩
 ·go_wp2_with fail
  simp only [Exit.jump]
  refine bodyPost_ret (results_none rfl _ _ _) rfl ?_
  exact ⟨rfl, col5, H5.out, T5.out⟩
set_option maxRecDepth 100000 in
set_option maxHeartbeats 3200000 in
theorem do_4 (L : Nat) (col : Nat → Nat) (s : Lm) (K : Nat) (g : Int) (k : Nat) (b : Int) (oc : Option Addr) (n cc : Nat) (df : Bool) (w : World) (h : LW w col L s) (ok : Ok K s) (hK : K ≤ 90000) (hk : k < 8) :
 Calls Tryz.prog 38 #[.pointer (some ⟨L, 0, none⟩), .int .i64 g, .agg #[.int .i64 4, .int .i64 (k : Int), .int .i64 b, .slice oc n cc, .bool df]] w fun r w' => r = .returned (.tuple #[]) ∧ ∃ col', LW w' col' L ((aloneF s g ⟨false, k, 0⟩).s) ∧ Tr col col' w w' := by
 have OK := hide ok
 have H0 := hide h
 have hL := h.lt
 clear h ok
 go_enter Tryz.func38, Tryz.ntmps38
 go_wp2_with fail
 refine wp_scope_forward 0 rfl ?_
 go_wp2_with fail
 refine (En.bare_any 0 g _).mono ?_
 rintro r w1 ⟨rfl, b1⟩
 have B1 := hide (btr (below_alloc w (.cells #[.int .i64 4, .int .i64 (k : Int), .int .i64 b, .slice oc n cc, .bool df] 48)) b1)
 have O1 := hide (heap_below (heap_new w (.cells #[.int .i64 4, .int .i64 (k : Int), .int .i64 b, .slice oc n cc, .bool df] 48)) b1)
 have s1 : w.heap.size < w1.heap.size := heap_lt O1.out
 have hL1 : L < w1.heap.size := by omega
 have o0 : w1.cell? ⟨w.heap.size, 0, none⟩ = some (.int .i64 4) := cell_of O1.out 0
 have o1 : w1.cell? ⟨w.heap.size, 1, none⟩ = some (.int .i64 (k : Int)) := cell_of O1.out 1
 have o2 : w1.cell? ⟨w.heap.size, 2, none⟩ = some (.int .i64 b) := cell_of O1.out 2
 have o3 : w1.cell? ⟨w.heap.size, 3, none⟩ = some (.slice oc n cc) := cell_of O1.out 3
 have o4 : w1.cell? ⟨w.heap.size, 4, none⟩ = some (.bool df) := cell_of O1.out 4
 clear b1
 obtain ⟨col3, h3, t3, n3⟩ := H0.out.below (btr B1.out (below_alloc w1 (.cells #[.int .i64 0, .int .i64 g, .int .i64 (-1), .int .i64 (-1), .int .i64 (-1), .int .i64 (-1), .bool false, .bool false] 35)))
 have T3 := hide t3
 have V3 := hide (heap_new w1 (.cells #[.int .i64 0, .int .i64 g, .int .i64 (-1), .int .i64 (-1), .int .i64 (-1), .int .i64 (-1), .bool false, .bool false] 35))
 have AL := hide (alone_any L col3 s K g false k 0 _ h3 OK.out (by omega) hk)
 clear h3 t3 n3
 go_wp2_with fail
 refine AL.out.mono ?_
 rintro r w5 ⟨rfl, col5, h5, t5⟩
 have H5 := hide h5
 have T5 := hide (T3.out.trans t5)
 clear h5 t5 AL T3
 go_wp2_with fail
 simp only [Exit.jump]
 refine bodyPost_ret (results_none rfl _ _ _) rfl ?_
 exact ⟨rfl, col5, H5.out, T5.out⟩
set_option maxRecDepth 100000 in
set_option maxHeartbeats 3200000 in
theorem do_5 (L : Nat) (col : Nat → Nat) (s : Lm) (K : Nat) (g : Int) (k : Nat) (b : Int) (oc : Option Addr) (n cc : Nat) (df : Bool) (w : World) (h : LW w col L s) (ok : Ok K s) (hK : K ≤ 90000) (hk : k < 8) :
 Calls Tryz.prog 38 #[.pointer (some ⟨L, 0, none⟩), .int .i64 g, .agg #[.int .i64 5, .int .i64 (k : Int), .int .i64 b, .slice oc n cc, .bool df]] w fun r w' => r = .returned (.tuple #[]) ∧ ∃ col', LW w' col' L (if (closesF s g k).who = -1 then (closesF s g k).s else panicS (closesF s g k).s (closesF s g k).who) ∧ Tr col col' w w' := by
 have TRN := closes_tr s g k ok
 have AN := hide (fun (u : World) (c : Nat → Nat) (q : LW u c L s) => closes_any L c s K g k u q ok hK hk)
 obtain ⟨sR, wR, hR⟩ : ∃ sR wR, closesF s g k = ⟨sR, wR⟩ := ⟨_, _, rfl⟩
 rw [hR] at TRN AN ⊢
 simp only at TRN AN ⊢
 have OK := hide ok
 have H0 := hide h
 have hL := h.lt
 clear h ok
 go_enter Tryz.func38, Tryz.ntmps38
 go_wp2_with fail
 refine wp_scope_forward 0 rfl ?_
 go_wp2_with fail
 refine (En.bare_any 0 g _).mono ?_
 rintro r w1 ⟨rfl, b1⟩
 have B1 := hide (btr (below_alloc w (.cells #[.int .i64 5, .int .i64 (k : Int), .int .i64 b, .slice oc n cc, .bool df] 48)) b1)
 have O1 := hide (heap_below (heap_new w (.cells #[.int .i64 5, .int .i64 (k : Int), .int .i64 b, .slice oc n cc, .bool df] 48)) b1)
 have s1 : w.heap.size < w1.heap.size := heap_lt O1.out
 have hL1 : L < w1.heap.size := by omega
 have o0 : w1.cell? ⟨w.heap.size, 0, none⟩ = some (.int .i64 5) := cell_of O1.out 0
 have o1 : w1.cell? ⟨w.heap.size, 1, none⟩ = some (.int .i64 (k : Int)) := cell_of O1.out 1
 have o2 : w1.cell? ⟨w.heap.size, 2, none⟩ = some (.int .i64 b) := cell_of O1.out 2
 have o3 : w1.cell? ⟨w.heap.size, 3, none⟩ = some (.slice oc n cc) := cell_of O1.out 3
 have o4 : w1.cell? ⟨w.heap.size, 4, none⟩ = some (.bool df) := cell_of O1.out 4
 clear b1
 obtain ⟨col3, h3, t3, n3⟩ := H0.out.below (btr B1.out (below_alloc w1 (.cells #[.int .i64 0, .int .i64 g, .int .i64 (-1), .int .i64 (-1), .int .i64 (-1), .int .i64 (-1), .bool false, .bool false] 35)))
 have T3 := hide t3
 have V3 := hide (heap_new w1 (.cells #[.int .i64 0, .int .i64 g, .int .i64 (-1), .int .i64 (-1), .int .i64 (-1), .int .i64 (-1), .bool false, .bool false] 35))
 have AL := hide (AN.out _ col3 h3)
 have TRL : sR.tr.length ≤ 1000000 := by have := OK.out.tn; omega
 clear h3 t3 n3 TRN AN
 go_wp2_with fail
 refine AL.out.mono ?_
 rintro r w5 ⟨rfl, col5, h5, t5⟩
 have H5 := hide h5
 have T5 := hide (T3.out.trans t5)
 clear h5 t5 AL T3
 by_cases hw : wR = -1
 ·subst hw
  go_wp2_with fail
  simp only [Exit.jump]
  refine bodyPost_ret (results_none rfl _ _ _) rfl ?_
  exact ⟨rfl, col5, H5.out, T5.out⟩
 ·have hw' : (wR != -1) = true := by simp [hw]
  obtain ⟨N, C, B, X, FB, pa, pc, bs, Fs, ta, tc, h5⟩ := H5.out
  have y14 := cell_of h5.hp 14
  have f14 := frozen_of h5.hp 14
  simp [lcs] at y14
  obtain ⟨h6, t6⟩ := LX.self (s' := { sR with pk := true }) (i := 14) (v := .bool true) h5 rfl h5.nml rfl
  have H6 := hide h6.lw
  have T6 := hide (Tr.trans T5.out t6)
  clear h5 h6 t6
  go_wp2_with fail
  refine wp_goto ⟨rfl, ?_⟩
  go_wp2_with fail
  refine (En.bare_any 12 wR _).mono ?_
  rintro r w7 ⟨rfl, b7⟩
  obtain ⟨col7, h7, t7, -⟩ := H6.out.below b7
  have T7 := hide (T6.out.trans t7)
  have TE := hide (tell_any L col7 _ (bareE 12 wR) w7 h7 TRL)
  unfold En.evv En.evc bareE at TE
  clear h7 t7 b7
  go_wp2_with fail
  refine TE.out.mono ?_
  rintro r w9 ⟨rfl, col9, h9, t9⟩
  have H9 := hide h9
  have T9 := hide (T7.out.trans t9)
  clear h9 t9 TE
  go_wp2_with fail
  simp only [Exit.jump]
  go_end0
  exact ⟨rfl, col9, by rw [if_neg hw]; exact H9.out, T9.out⟩
set_option maxRecDepth 100000 in
set_option maxHeartbeats 3200000 in
theorem do_6 (L : Nat) (col : Nat → Nat) (s : Lm) (K : Nat) (g a b : Int) (oc : Option Addr) (cs : List De.Cs) (cc : Nat) (df : Bool) (w : World) (h : LW w col L s) (ok : Ok K s) (hK : K ≤ 90000) (hC : De.CAt w oc cs) (hCc : 0 < cs.length → ∀ a, oc = some a → col a.block = 7) (h4 : cs.length ≤ 4) (hcs : ∀ c ∈ cs, 0 ≤ c.ch ∧ c.ch ≤ 7) :
 Calls Tryz.prog 38 #[.pointer (some ⟨L, 0, none⟩), .int .i64 g, .agg #[.int .i64 6, .int .i64 a, .int .i64 b, .slice oc cs.length cc, .bool df]] w fun r w' => r = .returned (.tuple #[]) ∧ ∃ col', LW w' col' L (if (chooseF s g ⟨6, a, b, cs, df⟩).fine then (chooseF s g ⟨6, a, b, cs, df⟩).s else panicS (chooseF s g ⟨6, a, b, cs, df⟩).s g) ∧ Tr col col' w w' := by
 have TRN := choose_tr s g ⟨6, a, b, cs, df⟩
 have AN := hide (fun (u : World) (c : Nat → Nat) (q : LW u c L s) (x : De.CAt u oc cs) (y : 0 < cs.length → ∀ a, oc = some a → c a.block = 7) => choose_any L c s K g 6 a b cs df oc cc u q ok (by omega) x y h4 hcs)
 obtain ⟨sR, fR, hR⟩ : ∃ sR fR, chooseF s g ⟨6, a, b, cs, df⟩ = ⟨sR, fR⟩ := ⟨_, _, rfl⟩
 rw [hR] at TRN AN ⊢
 simp only at TRN AN ⊢
 have HC := hide hC
 have HCC := hide hCc
 clear hC hCc hcs
 have OK := hide ok
 have H0 := hide h
 have hL := h.lt
 clear h ok
 go_enter Tryz.func38, Tryz.ntmps38
 go_wp2_with fail
 refine wp_scope_forward 0 rfl ?_
 go_wp2_with fail
 refine (En.bare_any 0 g _).mono ?_
 rintro r w1 ⟨rfl, b1⟩
 have B1 := hide (btr (below_alloc w (.cells #[.int .i64 6, .int .i64 a, .int .i64 b, .slice oc cs.length cc, .bool df] 48)) b1)
 have O1 := hide (heap_below (heap_new w (.cells #[.int .i64 6, .int .i64 a, .int .i64 b, .slice oc cs.length cc, .bool df] 48)) b1)
 have s1 : w.heap.size < w1.heap.size := heap_lt O1.out
 have hL1 : L < w1.heap.size := by omega
 have o0 : w1.cell? ⟨w.heap.size, 0, none⟩ = some (.int .i64 6) := cell_of O1.out 0
 have o1 : w1.cell? ⟨w.heap.size, 1, none⟩ = some (.int .i64 a) := cell_of O1.out 1
 have o2 : w1.cell? ⟨w.heap.size, 2, none⟩ = some (.int .i64 b) := cell_of O1.out 2
 have o3 : w1.cell? ⟨w.heap.size, 3, none⟩ = some (.slice oc cs.length cc) := cell_of O1.out 3
 have o4 : w1.cell? ⟨w.heap.size, 4, none⟩ = some (.bool df) := cell_of O1.out 4
 clear b1
 obtain ⟨col3, h3, t3, n3⟩ := H0.out.below (btr B1.out (below_alloc w1 (.cells #[.int .i64 0, .int .i64 g, .int .i64 (-1), .int .i64 (-1), .int .i64 (-1), .int .i64 (-1), .bool false, .bool false] 35)))
 have T3 := hide t3
 have V3 := hide (heap_new w1 (.cells #[.int .i64 0, .int .i64 g, .int .i64 (-1), .int .i64 (-1), .int .i64 (-1), .int .i64 (-1), .bool false, .bool false] 35))
 have O3 := hide (heap_below O1.out (below_alloc w1 (.cells #[.int .i64 0, .int .i64 g, .int .i64 (-1), .int .i64 (-1), .int .i64 (-1), .int .i64 (-1), .bool false, .bool false] 35)))
 have CH := hide (AN.out _ col3 h3 (HC.out.below (btr B1.out (below_alloc w1 (.cells #[.int .i64 0, .int .i64 g, .int .i64 (-1), .int .i64 (-1), .int .i64 (-1), .int .i64 (-1), .bool false, .bool false] 35)))) (fun h0 a' e => by
  obtain ⟨b', off, e2, hc, _⟩ := HC.out 0 cs[0] (List.getElem?_eq_getElem h0)
  rw [e] at e2
  cases e2
  exact (t3.old b' (World.block_lt_of_cell? w _ hc)).trans (HCC.out h0 _ e)))
 have TRL : sR.tr.length ≤ 1000000 := by have := OK.out.tn; omega
 clear h3 t3 n3 TRN HC HCC AN
 go_wp2_with fail
 refine CH.out.mono ?_
 rintro r w5 ⟨rfl, col5, h5, t5⟩
 have H5 := hide h5
 have T5 := hide (T3.out.trans t5)
 clear h5 t5 CH T3
 cases fR
 ·skip
  obtain ⟨N, C, B, X, FB, pa, pc, bs, Fs, ta, tc, h5⟩ := H5.out
  have y14 := cell_of h5.hp 14
  have f14 := frozen_of h5.hp 14
  simp [lcs] at y14
  obtain ⟨h6, t6⟩ := LX.self (s' := { sR with pk := true }) (i := 14) (v := .bool true) h5 rfl h5.nml rfl
  have H6 := hide h6.lw
  have T6 := hide (Tr.trans T5.out t6)
  clear h5 h6 t6
  go_wp2_with fail
  refine wp_goto ⟨rfl, ?_⟩
  go_wp2_with fail
  refine (En.bare_any 12 g _).mono ?_
  rintro r w7 ⟨rfl, b7⟩
  obtain ⟨col7, h7, t7, -⟩ := H6.out.below b7
  have T7 := hide (T6.out.trans t7)
  have TE := hide (tell_any L col7 _ (bareE 12 g) w7 h7 TRL)
  unfold En.evv En.evc bareE at TE
  clear h7 t7 b7
  go_wp2_with fail
  refine TE.out.mono ?_
  rintro r w9 ⟨rfl, col9, h9, t9⟩
  have H9 := hide h9
  have T9 := hide (T7.out.trans t9)
  clear h9 t9 TE
  go_wp2_with fail
  simp only [Exit.jump]
  go_end0
  exact ⟨rfl, col9, H9.out, T9.out⟩
 ·go_wp2_with fail
  simp only [Exit.jump]
  refine bodyPost_ret (results_none rfl _ _ _) rfl ?_
  exact ⟨rfl, col5, H5.out, T5.out⟩
end Lo
end Go.Proofs.YtkkgbeaaekmhfaaGreat
namespace Go.Proofs.YtkkgbeaaekmhfaaGreat
open Go.ChangeShapes Go.WideShapes Go.ChangeAt Go.RowKit
namespace Ba
def CsAt (w : World) (oa : Option Addr) (cs : List Value) : Prop := ∀ j v, cs[j]? = some v → ∃ b off, oa = some ⟨b, off, none⟩ ∧ w.cell? ⟨b, off + j, none⟩ = some v
theorem CsAt.below {w w' : World} {oa : Option Addr} {cs : List Value} (h : CsAt w oa cs) (hb : Below w.heap.size w w') : CsAt w' oa cs := by
 intro j v hj
 obtain ⟨b, off, he, hc⟩ := h j v hj
 exact ⟨b, off, he, (hb.cell (World.block_lt_of_cell? w _ hc)).trans hc⟩
theorem run_mkG {t e : TypeId} {i : TypeInfo} {z : Value} (ht : Tryz.prog.underlying t = some (.slice e)) (hi : Tryz.prog.info? e = some i) (hz : i.zero = some z) (w : World) (n : Nat) (hb : n * i.bytes ≤ 1000000000) (hn : n ≤ 1000000000) :
 (Instr.makeSlice t (.int .i64 (n : Int)) (.int .i64 (n : Int))).run Tryz.prog w = .ok (.slice (some ⟨w.heap.size, 0, none⟩) n n) (w.alloc (.cells (madeCells z.cells (n * i.size)) e)) := by
 have := run_make (P := Tryz.prog) w t e i z ht hi hz .i64 .i64 n n (by omega) (Int.le_refl _) (by rw [← Int.natCast_mul, Nat.mul_comm]; omega) (by omega)
 rw [Int.toNat_natCast] at this
 exact this
theorem run_cpG {t e : TypeId} {i : TypeInfo} {z : Value} (ht : Tryz.prog.underlying t = some (.slice e)) (hi : Tryz.prog.info? e = some i) (ty : TypeId) (w : World) (oa : Option Addr) (n c : Nat) (cs : List Value) (hl : cs.length = n * i.size) (hA : CsAt w oa cs) (h1 : ∀ v ∈ cs, v.oneCell' = true) (hs : 0 < i.size) :
 (Builtin.copy_ #[t, t] ty #[.slice (some ⟨w.heap.size, 0, none⟩) n n, .slice oa n c]).run Tryz.prog (w.alloc (.cells (madeCells z.cells (n * i.size)) e)) = .ok (goInt n) (w.alloc (.cells cs.toArray e)) := by
 have hfirst : (Builtin.firstCells i.size n (.slice oa n c)).run Tryz.prog (w.alloc (.cells (madeCells z.cells (n * i.size)) e)) = .ok cs.toArray (w.alloc (.cells (madeCells z.cells (n * i.size)) e)) := by
  cases oa with
  | none =>
    have h0 : cs = [] := by
     cases cs with
     | nil => rfl
     | cons v t =>
       obtain ⟨_, _, he, _⟩ := hA 0 v rfl
       cases he
    have hn : n = 0 := by
     rw [h0, List.length_nil] at hl
     rcases Nat.mul_eq_zero.1 hl.symm with q | q
     ·exact q
     ·omega
    subst h0 hn
    exact run_firstCells_none _ _ _ _ _
  | some a =>
    refine run_firstCells_some _ _ _ a n c cs hl ?_
    intro j v hj
    obtain ⟨b, off, he, hc⟩ := hA.below (below_alloc w (.cells (madeCells z.cells (n * i.size)) e)) j v hj
    cases he
    rw [Addr.add_lit]
    exact hc
 have hst := run_storeCells_at Tryz.prog w.heap.size 0 e cs 0 (madeCells z.cells (n * i.size)) (w.alloc (.cells (madeCells z.cells (n * i.size)) e)) (heap_new _ _) (by rw [size_madeCells]; omega) h1
 have hd : (madeCells z.cells (n * i.size)).toList.drop (0 + 0 + cs.length) = [] := by
  apply List.drop_eq_nil_of_le
  rw [Array.length_toList, size_madeCells]
  omega
 rw [setRow_new, hd] at hst
 simp only [Nat.add_zero, List.take_zero, List.nil_append, List.append_nil] at hst
 simp [Builtin.copy_, run_underlying ht, Builtin.lenOf, sizeOf, typeInfo, hi, hfirst, hst]
theorem at_cs {w : World} {oa : Option Addr} {l : List Int} (h : At w oa l) : CsAt w oa (l.map (Value.int .i64)) := by
 intro j v hj
 have hjl : j < l.length := by
  have := (List.getElem?_eq_some_iff.1 hj).1
  simpa using this
 obtain ⟨b, off, he, hc⟩ := h j hjl
 refine ⟨b, off, he, ?_⟩
 rw [hc, nth_lt l j hjl]
 rw [List.getElem?_map, List.getElem?_eq_getElem hjl] at hj
 exact hj
end Ba
end Go.Proofs.YtkkgbeaaekmhfaaGreat
namespace Go.Proofs.YtkkgbeaaekmhfaaGreat
open Go.ChangeShapes Go.WideShapes Go.ChangeAt Go.RowKit
namespace Lo
open Ba
def EsAt (w : World) (oa : Option Addr) (l : List Ev) : Prop :=
 ∀ k e, l[k]? = some e → ∃ b off, oa = some ⟨b, off, none⟩ ∧ ∀ j, j < 8 → w.cell? ⟨b, off + k * 8 + j, none⟩ = (En.evc e)[j]?
theorem EsAt.nil (w : World) (oa : Option Addr) : EsAt w oa [] := fun _ _ h => by simp at h
theorem evc_some (e : Ev) (j : Nat) (h : j < 8) : ∃ v, (En.evc e)[j]? = some v := ⟨_, Array.getElem?_eq_getElem h⟩
theorem EsAt.below {w w' : World} {oa : Option Addr} {l : List Ev} (h : EsAt w oa l) (hb : Below w.heap.size w w') : EsAt w' oa l := by
 intro k e hk
 obtain ⟨b, off, he, hc⟩ := h k e hk
 refine ⟨b, off, he, fun j hj => ?_⟩
 obtain ⟨v, hv⟩ := evc_some e j hj
 have := hc j hj
 rw [hv] at this ⊢
 exact (hb.cell (World.block_lt_of_cell? w _ this)).trans this
theorem EsAt.read {w : World} {b off : Nat} {l : List Ev} {k : Nat} {e : Ev} (h : EsAt w (some ⟨b, off, none⟩) l) (hk : l[k]? = some e) : w.cell? ⟨b, off + k * 8, none⟩ = some (.int .i64 e.k) ∧ w.cell? ⟨b, off + k * 8 + 1, none⟩ = some (.int .i64 e.g) ∧ w.cell? ⟨b, off + k * 8 + 2, none⟩ = some (.int .i64 e.c) ∧ w.cell? ⟨b, off + k * 8 + 3, none⟩ = some (.int .i64 e.a) ∧ w.cell? ⟨b, off + k * 8 + 4, none⟩ = some (.int .i64 e.v) ∧ w.cell? ⟨b, off + k * 8 + 5, none⟩ = some (.int .i64 e.m) ∧ w.cell? ⟨b, off + k * 8 + 6, none⟩ = some (.bool e.s) ∧ w.cell? ⟨b, off + k * 8 + 7, none⟩ = some (.bool e.o) := by
 obtain ⟨b', off', he, hc⟩ := h k e hk
 cases he
 exact ⟨hc 0 (by decide), hc 1 (by decide), hc 2 (by decide), hc 3 (by decide), hc 4 (by decide), hc 5 (by decide), hc 6 (by decide), hc 7 (by decide)⟩
def ccs (l : List De.Cs) : List Value := l.flatMap fun x => [.bool x.send, .int .i64 x.ch, .int .i64 x.val]
theorem ccs_len (l : List De.Cs) : (ccs l).length = l.length * 3 := by
 induction l with
 | nil => rfl
 | cons x l ih => simp [ccs] at ih ⊢; omega
theorem ccs_at : ∀ (l : List De.Cs) (k : Nat) (x : De.Cs), l[k]? = some x → (ccs l)[k * 3]? = some (.bool x.send) ∧ (ccs l)[k * 3 + 1]? = some (.int .i64 x.ch) ∧ (ccs l)[k * 3 + 2]? = some (.int .i64 x.val)
 | [], k, x, h => by simp at h
 | y :: l, 0, x, h => by
   simp at h
   subst h
   simp [ccs]
 | y :: l, k + 1, x, h => by
   have ih := ccs_at l k x (by simpa using h)
   have e : ccs (y :: l) = .bool y.send :: .int .i64 y.ch :: .int .i64 y.val :: ccs l := rfl
   rw [e, show (k + 1) * 3 = k * 3 + 1 + 1 + 1 by omega]
   simpa using ih
theorem ccs_one (l : List De.Cs) : ∀ u ∈ ccs l, u.oneCell' = true := by
 intro u hu
 simp only [ccs, List.mem_flatMap] at hu
 obtain ⟨e, _, hu⟩ := hu
 simp at hu
 rcases hu with rfl | rfl | rfl <;> rfl
theorem ec_at : ∀ (l : List Ev) (k : Nat) (e : Ev), l[k]? = some e → ∀ r, r < 8 → (ec l)[k * 8 + r]? = (En.evc e)[r]?
 | [], k, e, h, r, hr => by simp at h
 | y :: l, 0, e, h, r, hr => by
   simp at h
   subst h
   have e1 : ec (y :: l) = (En.evc y).toList ++ ec l := rfl
   rw [e1, Nat.zero_mul, Nat.zero_add, List.getElem?_append_left (by simp [En.evc]; omega)]
   simp
 | y :: l, k + 1, e, h, r, hr => by
   have ih := ec_at l k e (by simpa using h) r hr
   have e1 : ec (y :: l) = (En.evc y).toList ++ ec l := rfl
   rw [e1, List.getElem?_append_right (by simp [En.evc]; omega), ← ih]
   congr 1
   simp [En.evc]
   omega
theorem cat_cs {w : World} {oa : Option Addr} {cs : List De.Cs} (h : De.CAt w oa cs) : CsAt w oa (ccs cs) := by
 intro j v hj
 have hl := (List.getElem?_eq_some_iff.1 hj).1
 rw [ccs_len] at hl
 have hk : j / 3 < cs.length := by omega
 obtain ⟨b, off, e, h0, h1, h2⟩ := h (j / 3) cs[j / 3] (List.getElem?_eq_getElem hk)
 obtain ⟨q0, q1, q2⟩ := ccs_at cs (j / 3) cs[j / 3] (List.getElem?_eq_getElem hk)
 refine ⟨b, off, e, ?_⟩
 rcases (show j = j / 3 * 3 ∨ j = j / 3 * 3 + 1 ∨ j = j / 3 * 3 + 2 by omega) with z | z | z
 ·rw [← z] at q0 h0
  rw [hj] at q0
  cases q0
  exact h0
 ·rw [← z] at q1
  rw [show off + j / 3 * 3 + 1 = off + j by omega] at h1
  rw [hj] at q1
  cases q1
  exact h1
 ·rw [← z] at q2
  rw [show off + j / 3 * 3 + 2 = off + j by omega] at h2
  rw [hj] at q2
  cases q2
  exact h2
theorem cs_cat {w : World} {b : Nat} {cs : List De.Cs} (h : ∀ j v, (ccs cs)[j]? = some v → w.cell? ⟨b, j, none⟩ = some v) : De.CAt w (some ⟨b, 0, none⟩) cs := by
 intro k x hk
 obtain ⟨q0, q1, q2⟩ := ccs_at cs k x hk
 refine ⟨b, 0, rfl, ?_, ?_, ?_⟩
 ·rw [Nat.zero_add]; exact h _ _ q0
 ·rw [Nat.zero_add]; exact h _ _ q1
 ·rw [Nat.zero_add]; exact h _ _ q2
theorem es_cs {w : World} {oa : Option Addr} {l : List Ev} (h : EsAt w oa l) : CsAt w oa (ec l) := by
 intro j v hj
 have hl := (List.getElem?_eq_some_iff.1 hj).1
 rw [ec_len] at hl
 have hk : j / 8 < l.length := by omega
 obtain ⟨b, off, e, hc⟩ := h (j / 8) l[j / 8] (List.getElem?_eq_getElem hk)
 refine ⟨b, off, e, ?_⟩
 have h1 := ec_at l (j / 8) l[j / 8] (List.getElem?_eq_getElem hk) (j % 8) (by omega)
 have h2 := hc (j % 8) (by omega)
 rw [show j / 8 * 8 + j % 8 = j by omega, hj] at h1
 rw [show off + j / 8 * 8 + j % 8 = off + j by omega, ← h1] at h2
 exact h2
theorem cs_es {w : World} {b off : Nat} {l : List Ev} (h : ∀ j v, (ec l)[j]? = some v → w.cell? ⟨b, off + j, none⟩ = some v) : EsAt w (some ⟨b, off, none⟩) l := by
 intro k e hk
 refine ⟨b, off, rfl, fun j hj => ?_⟩
 have h1 := ec_at l k e hk j hj
 obtain ⟨v, hv⟩ := evc_some e j hj
 rw [hv] at h1 ⊢
 rw [Nat.add_assoc]
 exact h _ _ h1
theorem own_zero (w : World) (t : TypeId) (z : Nat) : (w.alloc (.cells #[] t)).ownsRow w.heap.size t z (.slice (some ⟨w.heap.size, 0, none⟩) 0 0) 0 [] := by
 refine ⟨by simp, .inr ⟨w.heap.size, 0, #[], rfl, Nat.le_refl _, heap_new _ _, Nat.le_refl _, by unfold maxLen; omega, by simp, by simp⟩⟩
theorem own_es {w : World} {base : Nat} {v : Value} {l : List Ev} (h : w.ownsRow base 35 8 v l.length (ec l)) : ∃ ob d, v = .slice ob l.length d ∧ EsAt w ob l ∧ l.length ≤ d ∧ ∀ a, ob = some a → base ≤ a.block := by
 rcases h.2 with ⟨rfl, h0⟩ | ⟨g, cap, cur, rfl, hbase, hg, hc, _, hcs, htk⟩
 ·obtain rfl := List.eq_nil_of_length_eq_zero h0
  exact ⟨none, 0, rfl, EsAt.nil _ _, Nat.le_refl _, fun a e => by cases e⟩
 ·refine ⟨_, cap, rfl, cs_es fun j v hj => ?_, by omega, fun a e => by cases e; exact hbase⟩
  have hjl := (List.getElem?_eq_some_iff.1 hj).1
  rw [ec_len] at hjl
  rw [Nat.zero_add, cell_of hg]
  rw [← htk, List.getElem?_take_of_lt (by omega)] at hj
  simpa using hj
theorem own_ca {w : World} {base : Nat} {v : Value} {l : List De.Cs} (h : w.ownsRow base 92 3 v l.length (ccs l)) : ∃ ob d, v = .slice ob l.length d ∧ De.CAt w ob l ∧ ∀ a, ob = some a → base ≤ a.block := by
 rcases h.2 with ⟨rfl, h0⟩ | ⟨g, cap, cur, rfl, hbase, hg, hc, _, hcs, htk⟩
 ·obtain rfl := List.eq_nil_of_length_eq_zero h0
  exact ⟨none, 0, rfl, (fun k x hk => by simp at hk), fun a e => by cases e⟩
 ·refine ⟨_, cap, rfl, cs_cat fun j v hj => ?_, fun a e => by cases e; exact hbase⟩
  have hjl := (List.getElem?_eq_some_iff.1 hj).1
  rw [ccs_len] at hjl
  rw [cell_of hg]
  rw [← htk, List.getElem?_take_of_lt (by omega)] at hj
  simpa using hj
theorem info_case : (Tryz.prog.info? 92).map (fun i => (i.zero, i.size, i.bytes)) = some (some (.agg #[.bool false, .int .i64 0, .int .i64 0]), 3, 24) := by kernel_rfl
theorem info_parts {P : Program} {t : TypeId} {z : Value} {n m : Nat} (h : (P.info? t).map (fun i => (i.zero, i.size, i.bytes)) = some (some z, n, m)) : ∃ i, P.info? t = some i ∧ i.zero = some z ∧ i.size = n ∧ i.bytes = m := by
 cases hi : P.info? t with
 | none => rw [hi] at h; cases h
 | some i =>
   rw [hi] at h
   simp at h
   exact ⟨i, rfl, h⟩
set_option maxRecDepth 100000 in
set_option maxHeartbeats 1600000 in
theorem clone_es (oa : Option Addr) (l : List Ev) (c : Nat) (w : World) (h : EsAt w oa l) (hl : l.length ≤ 1000000) :
 Calls Tryz.prog 39 #[.slice oa l.length c] w fun r w' => ∃ ob d, r = .returned (.slice ob l.length d) ∧ EsAt w' ob l ∧ (l.length ≤ d ∧ ∀ a, ob = some a → w.heap.size ≤ a.block) ∧ Below w.heap.size w w' := by
 have qn : ∀ (w : World) (a : Option Addr) (n c n' c' : Nat), (binOp .eql 28 (.slice a n c) (.slice none n' c')).run Tryz.prog w = .ok (.bool a.isNone) w := fun w a n c n' c' => Lib.run_eql_slice_nil w _ _ a n c n' c' Tryz.underlying28
 cases oa with
 | none =>
   have h0 : l.length = 0 := by
    rcases Nat.eq_zero_or_pos l.length with e | e
    ·exact e
    ·obtain ⟨b, off, e2, _⟩ := h 0 l[0] (List.getElem?_eq_getElem e)
     cases e2
   obtain rfl := List.eq_nil_of_length_eq_zero h0
   go_enter Tryz.func39, Tryz.ntmps39
   go_wp2_with fail
   go_ret
   exact ⟨none, 0, rfl, EsAt.nil _ _, ⟨Nat.le_refl _, fun a e => by cases e⟩, Below.refl _ _⟩
 | some ad =>
   have HS := hide (es_cs (h.below (below_alloc w (.cells #[] 35))))
   obtain ⟨i0, hi, hz0, hz1, hz2⟩ := info_parts info_ev
   have INF := hide (And.intro hi (And.intro hz0 (And.intro hz1 hz2)))
   have ow0 : (w.alloc (.cells #[] 35)).ownsRow w.heap.size 35 8 (.slice (some ⟨w.heap.size, 0, none⟩) 0 0) 0 [] := own_zero w 35 8
   clear h hi hz0 hz1 hz2
   go_enter Tryz.func39, Tryz.ntmps39
   go_wp2_with (at_builtin; refine wpList_append_own_at _ rfl _ _ 28 rfl w.heap.size 35 i0 _ 8 56 Tryz.underlying28 INF.out.1 INF.out.2.1 INF.out.2.2.1 INF.out.2.2.2 rfl (by decide) _ _ _ rfl ow0 ad l.length c (ec l) rfl (ec_len l) ?c1 (ec_one l) ?c3 ?c4 ?c5 ?_)
   case c1 =>
    intro j u hj
    obtain ⟨b, off, e, hc⟩ := HS.out j u hj
    cases e
    rw [Addr.add_lit]
    exact hc
   case c3 => unfold maxLen; omega
   case c4 => omega
   case c5 => rw [World.size_alloc]; omega
   intro v' w2 ho hg _ hat
   obtain ⟨ob, d, hv, hA, hB⟩ := own_es ho
   subst hv
   have B2 : Below w.heap.size w w2 := by
    have ba := below_alloc w (.cells #[] 35)
    refine ⟨hg.os.trans ba.os, hg.tape.trans ba.tape, hg.output.trans ba.output, Nat.le_trans ba.size hg.size, fun x hx => ?_⟩
    refine (hg.block x (by rw [World.size_alloc]; omega) (fun e => ?_)).trans (ba.block x hx)
    have e' : x = w.heap.size := by simpa [Value.ownBlock] using e
    omega
   have HB2 := hide B2
   have HA := hide hA
   have HBl := hide hB
   clear ho hg hat B2 hA hB ow0
   go_wp2_with fail
   go_ret
   exact ⟨ob, d, rfl, HA.out, HBl.out, HB2.out⟩
set_option maxRecDepth 100000 in
set_option maxHeartbeats 1600000 in
theorem clone_ca (oa : Option Addr) (l : List De.Cs) (c : Nat) (w : World) (h : De.CAt w oa l) (hl : l.length ≤ 1000000) :
 Calls Tryz.prog 74 #[.slice oa l.length c] w fun r w' => ∃ ob d, r = .returned (.slice ob l.length d) ∧ De.CAt w' ob l ∧ (∀ a, ob = some a → w.heap.size ≤ a.block) ∧ Below w.heap.size w w' := by
 have qn : ∀ (w : World) (a : Option Addr) (n c n' c' : Nat), (binOp .eql 46 (.slice a n c) (.slice none n' c')).run Tryz.prog w = .ok (.bool a.isNone) w := fun w a n c n' c' => Lib.run_eql_slice_nil w _ _ a n c n' c' Tryz.underlying46
 cases oa with
 | none =>
   have h0 : l.length = 0 := by
    rcases Nat.eq_zero_or_pos l.length with e | e
    ·exact e
    ·obtain ⟨b, off, e2, _⟩ := h 0 l[0] (List.getElem?_eq_getElem e)
     cases e2
   obtain rfl := List.eq_nil_of_length_eq_zero h0
   go_enter Tryz.func74, Tryz.ntmps74
   go_wp2_with fail
   go_ret
   exact ⟨none, 0, rfl, (fun k x hk => by simp at hk), (fun a e => by cases e), Below.refl _ _⟩
 | some ad =>
   have HS := hide (cat_cs (h.below (below_alloc w (.cells #[] 92))))
   obtain ⟨i0, hi, hz0, hz1, hz2⟩ := info_parts info_case
   have INF := hide (And.intro hi (And.intro hz0 (And.intro hz1 hz2)))
   have ow0 : (w.alloc (.cells #[] 92)).ownsRow w.heap.size 92 3 (.slice (some ⟨w.heap.size, 0, none⟩) 0 0) 0 [] := own_zero w 92 3
   clear h hi hz0 hz1 hz2
   go_enter Tryz.func74, Tryz.ntmps74
   go_wp2_with (at_builtin; refine wpList_append_own_at _ rfl _ _ 46 rfl w.heap.size 92 i0 _ 3 24 Tryz.underlying46 INF.out.1 INF.out.2.1 INF.out.2.2.1 INF.out.2.2.2 rfl (by decide) _ _ _ rfl ow0 ad l.length c (ccs l) rfl (ccs_len l) ?c1 (ccs_one l) ?c3 ?c4 ?c5 ?_)
   case c1 =>
    intro j u hj
    obtain ⟨b, off, e, hc⟩ := HS.out j u hj
    cases e
    rw [Addr.add_lit]
    exact hc
   case c3 => unfold maxLen; omega
   case c4 => omega
   case c5 => rw [World.size_alloc]; omega
   intro v' w2 ho hg _ hat
   obtain ⟨ob, d, hv, hA, hB⟩ := own_ca ho
   subst hv
   have B2 : Below w.heap.size w w2 := by
    have ba := below_alloc w (.cells #[] 92)
    refine ⟨hg.os.trans ba.os, hg.tape.trans ba.tape, hg.output.trans ba.output, Nat.le_trans ba.size hg.size, fun x hx => ?_⟩
    refine (hg.block x (by rw [World.size_alloc]; omega) (fun e => ?_)).trans (ba.block x hx)
    have e' : x = w.heap.size := by simpa [Value.ownBlock] using e
    omega
   have HB2 := hide B2
   have HA := hide hA
   have HBl := hide hB
   clear ho hg hat B2 hA hB ow0
   go_wp2_with fail
   go_ret
   exact ⟨ob, d, rfl, HA.out, HBl.out, HB2.out⟩
end Lo
end Go.Proofs.YtkkgbeaaekmhfaaGreat
namespace Go.Proofs.YtkkgbeaaekmhfaaGreat
namespace Lo
open Ba
theorem op_ok {o : OpD} {n : Int} (h : De.chk o n = 0) : (1 ≤ n ∧ n ≤ 8) ∧ (1 ≤ o.kind ∧ o.kind ≤ 9) ∧ o.cases.length ≤ 4 ∧ (0 ≤ o.a ∧ o.a ≤ De.mA o.kind n) ∧ (0 ≤ o.b ∧ o.b ≤ De.mB o.kind) ∧ (o.kind ≠ 6 → o.def_ = false ∧ o.cases.length = 0) ∧ ∀ c ∈ o.cases, (0 ≤ c.ch ∧ c.ch ≤ 7) ∧ 0 ≤ c.val ∧ c.val ≤ 99 := by
 unfold De.chk at h
 split at h
 ·omega
 ·rename_i h1
  split at h
  ·omega
  ·rename_i h2
   split at h
   ·omega
   ·rename_i h3
    split at h
    ·omega
    ·rename_i h4
     split at h
     ·rename_i h5
      simp only [De.okP, De.upB, Bool.not_eq_false, Bool.and_eq_true, decide_eq_true_eq] at h1 h3
      refine ⟨h1.1, h1.2, by omega, h3.1, h3.2, fun hk => ?_, fun c hc => ?_⟩
      ·have h6 : (o.def_ || decide (0 < o.cases.length)) ≠ true := fun e => h4 ⟨hk, e⟩
       simp at h6
       exact ⟨h6.1, by simp [h6.2]⟩
      ·have := List.all_eq_true.1 h5 c hc
       simp only [De.okC, De.upB, Bool.and_eq_true, decide_eq_true_eq] at this
       refine ⟨this.1, this.2.1, ?_⟩
       have h7 := this.2.2
       cases hs : c.send <;> rw [hs] at h7 <;> simp only [cond_true, cond_false] at h7 <;> omega
     ·omega
def SB (n m : Nat) (sts : List (Option St)) : Prop := ∀ (i : Nat) (st : St), sts[i]? = some (some st) → (st.sent ≤ n ∧ st.got ≤ n) ∧ st.snd.length ≤ m ∧ st.rcv.length ≤ m
theorem SB.mono {n m n' m' : Nat} {sts : List (Option St)} (h : SB n m sts) (h1 : n ≤ n') (h2 : m ≤ m') : SB n' m' sts := fun i st e => by
 have := h i st e
 omega
theorem SB.set {n m k : Nat} {sts : List (Option St)} {v : St} (h : SB n m sts) (hv : (v.sent ≤ n ∧ v.got ≤ n) ∧ v.snd.length ≤ m ∧ v.rcv.length ≤ m) : SB n m (sts.set k (some v)) := by
 intro i st e
 rw [List.getElem?_set] at e
 split at e
 ·split at e
  ·simp at e
   subst e
   exact hv
  ·cases e
 ·exact h i st e
theorem SB.nm {n m : Nat} {sts : List (Option St)} (h : SB n m sts) {c : Int} {st : St} (e : Fk.nmB sts c = some st) : (st.sent ≤ n ∧ st.got ≤ n) ∧ st.snd.length ≤ m ∧ st.rcv.length ≤ m := h _ st (Fk.nmB_at e)
theorem dr_le (g : Int) (l : List Wt) : (Pe.dr g l).length ≤ l.length := by
 unfold Pe.dr
 exact List.length_filter_le _ _
theorem al_le (l : List Wt) (x : Wt) : (Pe.al l x).length ≤ l.length + 1 := by
 unfold Pe.al
 split
 ·split
  ·omega
  ·simp
 ·omega
theorem SB.send {n m : Nat} {st : St} (x : Int) (h : (st.sent ≤ n ∧ st.got ≤ n) ∧ st.snd.length ≤ m ∧ st.rcv.length ≤ m) : let v := _root_.Go.Proofs.YtkkgbeaaekmhfaaGreat.Pi.sendS st x; (v.sent ≤ n + 1 ∧ v.got ≤ n + 1) ∧ v.snd.length ≤ m ∧ v.rcv.length ≤ m := by
 intro v
 simp only [v, _root_.Go.Proofs.YtkkgbeaaekmhfaaGreat.Pi.sendS]
 split
 ·omega
 ·split
  ·rename_i e
   rw [e] at h
   simp at h ⊢
   omega
  ·rename_i e
   split
   ·rw [e] at h
    refine ⟨?_, ?_⟩
    ·simp only
     omega
    ·simp only
     rw [e]
     exact h.2
   ·omega
theorem SB.recv {n m : Nat} {st : St} (h : (st.sent ≤ n ∧ st.got ≤ n) ∧ st.snd.length ≤ m ∧ st.rcv.length ≤ m) : let v := _root_.Go.Proofs.YtkkgbeaaekmhfaaGreat.Pi.recvS st; (v.sent ≤ n + 1 ∧ v.got ≤ n + 1) ∧ v.snd.length ≤ m ∧ v.rcv.length ≤ m := by
 intro v
 simp only [v, _root_.Go.Proofs.YtkkgbeaaekmhfaaGreat.Pi.recvS]
 split
 ·omega
 ·rename_i e1 e2
  rw [e2] at h
  simp at h ⊢
  omega
 ·simp
  omega
 ·rename_i e1 e2
  rw [e2] at h
  simp at h ⊢
  omega
theorem SB.try {n m : Nat} {sts : List (Option St)} (h : SB n m sts) (c : Ca) : SB (n + 1) m (Fk.tryS sts c) := by
 unfold Fk.tryS
 split
 ·exact h.mono (by omega) (Nat.le_refl _)
 ·rename_i st e
  refine (h.mono (Nat.le_succ n) (Nat.le_refl _)).set ?_
  cases c.sd
  ·exact SB.recv (h.nm e)
  ·exact SB.send _ (h.nm e)
theorem SB.waitS {n m : Nat} {st : St} (send : Bool) (x : Wt) (h : (st.sent ≤ n ∧ st.got ≤ n) ∧ st.snd.length ≤ m ∧ st.rcv.length ≤ m) : let v := _root_.Go.Proofs.YtkkgbeaaekmhfaaGreat.Pi.waitS st send x; (v.sent ≤ n ∧ v.got ≤ n) ∧ v.snd.length ≤ m + 1 ∧ v.rcv.length ≤ m + 1 := by
 intro v
 simp only [v, _root_.Go.Proofs.YtkkgbeaaekmhfaaGreat.Pi.waitS]
 split
 ·omega
 ·split
  ·have := al_le st.snd x
   simp only
   omega
  ·have := al_le st.rcv x
   simp only
   omega
theorem SB.wait1 {n m : Nat} {sts : List (Option St)} (h : SB n m sts) (c : Ca) (g : Int) : SB n (m + 1) (Lo.waitN sts c g) := by
 unfold Lo.waitN
 split
 ·exact h.mono (Nat.le_refl _) (by omega)
 ·rename_i st e
  exact (h.mono (Nat.le_refl _) (Nat.le_succ m)).set (SB.waitS _ _ (h.nm e))
theorem SB.leave {n m : Nat} {sts : List (Option St)} (h : SB n m sts) (g : Int) : SB n m (Fk.leaveS g sts) := by
 intro i st e
 unfold Fk.leaveS at e
 rw [List.getElem?_map] at e
 cases h1 : sts[i]? with
 | none => rw [h1] at e; cases e
 | some o =>
   rw [h1] at e
   cases o with
   | none => simp [Fk.dropO] at e
   | some st1 =>
     simp [Fk.dropO] at e
     subst e
     have := h i st1 h1
     have := dr_le g st1.snd
     have := dr_le g st1.rcv
     simp only [_root_.Go.Proofs.YtkkgbeaaekmhfaaGreat.Pi.dropS]
     omega
theorem SB.pkS {n m : Nat} {sts : List (Option St)} (h : SB n m sts) (g : Int) (l : List Ca) : ∀ k, SB n (m + k) (Fk.pkS g l sts k)
 | 0 => h
 | k + 1 => by
   have ih := SB.pkS h g l k
   unfold Fk.pkS
   split
   ·exact ih.mono (Nat.le_refl _) (by omega)
   ·unfold Fk.pk1
    split
    ·exact ih.mono (Nat.le_refl _) (by omega)
    ·rename_i st e
     exact (ih.mono (Nat.le_refl _) (Nat.le_succ _)).set (SB.waitS _ _ (ih.nm e))
theorem SB.pkA {n m : Nat} {sts : List (Option St)} (h : SB n m sts) (g : Int) (l : List Ca) (hl : l.length ≤ 4) : SB n (m + 4) (Fk.pkA g l sts) := by
 unfold Fk.pkA
 split
 ·exact h.mono (Nat.le_refl _) (by omega)
 ·split
  ·exact h.mono (Nat.le_refl _) (by omega)
  ·exact (SB.pkS h g l _).mono (Nat.le_refl _) (by omega)
end Lo
end Go.Proofs.YtkkgbeaaekmhfaaGreat
namespace Go.Proofs.YtkkgbeaaekmhfaaGreat
open Go.ChangeShapes Go.WideShapes Go.ChangeAt Go.RowKit
namespace Lo
open Ba
def opV (o : OpD) (oc : Option Addr) (cc : Nat) : Value := .agg #[.int .i64 o.kind, .int .i64 o.a, .int .i64 o.b, .slice oc o.cases.length cc, .bool o.def_]
theorem do_any (L : Nat) (col : Nat → Nat) (s : Lm) (K : Nat) (g : Int) (o : OpD) (oc : Option Addr) (cc : Nat) (w : World) (n : Int) (h : LW w col L s) (ok : Ok K s) (hK : K ≤ 90000) (ho : De.chk o n = 0) (hC : De.CAt w oc o.cases) (hCc : 0 < o.cases.length → ∀ a, oc = some a → col a.block = 7) :
 Calls Tryz.prog 38 #[.pointer (some ⟨L, 0, none⟩), .int .i64 g, opV o oc cc] w fun r w' => r = .returned (.tuple #[]) ∧ ∃ col', LW w' col' L (doF s g o) ∧ Tr col col' w w' := by
 obtain ⟨kind, a, b, cs, df⟩ := o
 obtain ⟨-, hk, h4, ha, hb, -, hcs⟩ := op_ok ho
 simp only at hk h4 ha hb hcs hC hCc
 unfold opV
 simp only
 rcases (show kind = 1 ∨ kind = 2 ∨ kind = 3 ∨ kind = 4 ∨ kind = 5 ∨ kind = 6 ∨ kind = 7 ∨ kind = 8 ∨ kind = 9 by omega) with rfl | rfl | rfl | rfl | rfl | rfl | rfl | rfl | rfl
 ·exact do_1 L col s K g a b oc cs.length cc df w h ok hK
 ·simp [De.mA, De.mB] at ha hb
  obtain ⟨k, rfl⟩ : ∃ k : Nat, a = (k : Int) := ⟨a.toNat, by omega⟩
  obtain ⟨z, rfl⟩ : ∃ z : Nat, b = (z : Int) := ⟨b.toNat, by omega⟩
  exact do_2 L col s K g k z oc cs.length cc df w h ok hK (by omega) (by omega)
 ·simp [De.mA] at ha
  obtain ⟨k, rfl⟩ : ∃ k : Nat, a = (k : Int) := ⟨a.toNat, by omega⟩
  exact do_3 L col s K g k b oc cs.length cc df w h ok hK (by omega)
 ·simp [De.mA] at ha
  obtain ⟨k, rfl⟩ : ∃ k : Nat, a = (k : Int) := ⟨a.toNat, by omega⟩
  exact do_4 L col s K g k b oc cs.length cc df w h ok hK (by omega)
 ·simp [De.mA] at ha
  obtain ⟨k, rfl⟩ : ∃ k : Nat, a = (k : Int) := ⟨a.toNat, by omega⟩
  exact do_5 L col s K g k b oc cs.length cc df w h ok hK (by omega)
 ·exact do_6 L col s K g a b oc cs cc df w h ok hK hC hCc h4 (fun c hc => (hcs c hc).1)
 ·exact do_7 L col s K g a b oc cs.length cc df w h ok hK
 ·exact do_8 L col s K g a b oc cs.length cc df w h ok hK
 ·exact do_9 L col s K g a b oc cs.length cc df w h ok hK
set_option maxRecDepth 100000 in
set_option maxHeartbeats 1600000 in
theorem verdict_any (L : Nat) (col : Nat → Nat) (s : Lm) (K : Nat) (w : World) (h : LW w col L s) (hb : Cr.Bn K s.cr) :
 Calls Tryz.prog 17 #[.pointer (some ⟨L, 0, none⟩)] w fun r w' => r = .returned (.int .i64 (verd s)) ∧ Below w.heap.size w w' := by
 obtain ⟨N, C, B, X, FB, pa, pc, bs, Fs, ta, tc, h⟩ := h
 obtain ⟨-, y1, y2, -, -, -, y14⟩ := h.cells
 unfold verd
 cases hp : s.pk
 ·rw [hp] at y14
  simp only [Bool.false_eq_true, if_false]
  have OV := hide (Cr.over_any B FB s.cr K w h.cr hb)
  have H := hide h
  generalize Cr.ovr s.cr = ov at OV ⊢
  have LE := hide (fun u (hb : Below w.heap.size w u) => Pk.left_any C s.p s.d u (H.out.cu.below hb).cur)
  have hL := h.lt
  clear h
  by_cases h0 : ov = 0
  ·subst h0
   simp only [ne_eq, not_true, if_false]
   have Y1 := hide (fun u (hb : Below w.heap.size w u) => cell_of (heap_below H.out.hp hb) 1)
   by_cases hl : s.p.length = 0
   ·rw [if_pos hl]
    rw [hl] at LE
    go_enter Tryz.func17, Tryz.ntmps17
    go_wp2_with fail
    refine OV.out.mono ?_
    rintro r w1 ⟨rfl, b1⟩
    have z1 := Y1.out w1 b1
    simp [lcs] at z1
    have B1 := hide b1
    clear b1
    go_wp2_with fail
    refine (LE.out _ B1.out).mono ?_
    rintro r w2 ⟨rfl, b2⟩
    have B2 := hide (btr B1.out b2)
    clear b2
    go_wp2_with fail
    go_ret
    exact ⟨rfl, B2.out⟩
   ·rw [if_neg hl]
    have hl' : (((s.p.length : Nat) : Int) == 0) = false := by rw [beq_eq_false_iff_ne]; omega
    go_enter Tryz.func17, Tryz.ntmps17
    go_wp2_with fail
    refine OV.out.mono ?_
    rintro r w1 ⟨rfl, b1⟩
    have z1 := Y1.out w1 b1
    simp [lcs] at z1
    have B1 := hide b1
    clear b1
    go_wp2_with fail
    refine (LE.out _ B1.out).mono ?_
    rintro r w2 ⟨rfl, b2⟩
    have B2 := hide (btr B1.out b2)
    clear b2
    go_wp2_with fail
    go_ret
    exact ⟨rfl, B2.out⟩
  ·rw [if_pos h0]
   have h0' : (ov != 0) = true := by simp [h0]
   go_enter Tryz.func17, Tryz.ntmps17
   go_wp2_with fail
   refine OV.out.mono ?_
   rintro r w1 ⟨rfl, b1⟩
   have B1 := hide b1
   clear b1
   go_wp2_with fail
   go_ret
   exact ⟨rfl, B1.out⟩
 ·rw [hp] at y14
  simp only [if_true]
  clear h
  go_enter Tryz.func17, Tryz.ntmps17
  go_wp2_with fail
  go_ret
  exact ⟨rfl, Below.refl _ _⟩
theorem verdict_nil (w : World) : Calls Tryz.prog 17 #[.pointer none] w fun r w' => r = .returned (.int .i64 0) ∧ w' = w := by
 go_enter Tryz.func17, Tryz.ntmps17
 go_wp2_with fail
 go_ret
 exact ⟨rfl, rfl⟩
theorem size_op : (Tryz.prog.info? 48).map (·.size) = some 5 := by kernel_rfl
theorem loadVar_op {w : World} {b : Nat} {c : Array Value} {t : TypeId} (h : w.heap[b]? = some (.cells c t (0, 0))) (hc : c.size = 5) : (loadVar 48 ⟨b, 0, none⟩).run Tryz.prog w = .ok (.agg c) w :=
 run_loadVar_row w b t _ _ _ _ h Tryz.underlying48 rfl (by rw [size_op, hc])
theorem set5 {w : World} {b : Nat} {t : TypeId} {a0 a1 a2 a3 a4 u0 u1 u2 u3 u4 : Value} (h : w.heap[b]? = some (.cells #[a0, a1, a2, a3, a4] t (0, 0))) : (((((w.setCell ⟨b, 0, none⟩ u0).setCell ⟨b, 1, none⟩ u1).setCell ⟨b, 2, none⟩ u2).setCell ⟨b, 3, none⟩ u3).setCell ⟨b, 4, none⟩ u4).heap[b]? = some (.cells #[u0, u1, u2, u3, u4] t (0, 0)) :=
 (Ba.heap_setCell_same (Ba.heap_setCell_same (Ba.heap_setCell_same (Ba.heap_setCell_same (Ba.heap_setCell_same h _) _) _) _) _).trans rfl
theorem cat_keep {w w' : World} {oc : Option Addr} {cs : List De.Cs} (h : De.CAt w oc cs) (hk : ∀ a, oc = some a → a.block < w.heap.size → w'.heap[a.block]? = w.heap[a.block]?) : De.CAt w' oc cs := by
 intro k x hx
 obtain ⟨b, off, e, h0, h1, h2⟩ := h k x hx
 have := hk _ e (World.block_lt_of_cell? w ⟨b, off + k * 3, none⟩ h0)
 simp only at this
 refine ⟨b, off, e, ?_, ?_, ?_⟩
 ·rw [← h0]; simp only [World.cell?, this]
 ·rw [← h1]; simp only [World.cell?, this]
 ·rw [← h2]; simp only [World.cell?, this]
set_option maxRecDepth 100000 in
set_option maxHeartbeats 1600000 in
theorem oper_any (L : Nat) (col : Nat → Nat) (s : Lm) (g : Int) (p q : Nat) (w : World) (h : LW w col L s) (hp : (Cr.one0 (Cr.gt s.cr g)).p = (p : Int)) (hq : (Cr.one0 (Cr.gt s.cr g)).q = (q : Int)) (hpl : p < s.ps.length) (hs4 : ∀ x ∈ s.ps, ∀ o ∈ x, o.cases.length ≤ 4) :
 Calls Tryz.prog 59 #[.pointer (some ⟨L, 0, none⟩), .int .i64 g] w fun r w' => ∃ oc cc, r = .returned (opV (opOf s g) oc cc) ∧ De.CAt w' oc (opOf s g).cases ∧ (∀ a, oc = some a → w.heap.size ≤ a.block) ∧ Below w.heap.size w w' := by
 obtain ⟨N, C, B, X, FB, pa, pc, bs, Fs, ta, tc, h⟩ := h
 obtain ⟨P, hP⟩ : ∃ P, s.ps[p]? = some P := ⟨_, List.getElem?_eq_getElem hpl⟩
 have hPm : P ∈ s.ps := List.mem_of_getElem? hP
 have PA := hide (h.ps w (fun _ _ _ => rfl))
 have AT := hide (Cr.at_any B FB s.cr g (w.alloc (.cells #[.int .i64 0, .int .i64 0, .int .i64 0, .slice none 0 0, .bool false] 48)) (h.cr.below (below_alloc _ _)))
 rw [hp, hq] at AT
 obtain ⟨y0, -, y2, -⟩ := h.cells
 have hL := h.lt
 have e : opOf s g = (P[q]?).getD exitO := by
  unfold opOf
  rw [hp, hq, Int.toNat_natCast, Int.toNat_natCast, hP]
  rfl
 rw [e]
 obtain ⟨pb, po, qa, qc, hpa, hpc, hO, hPl⟩ := PA.out p P hP
 subst hpa
 have p0 : (0 : Int) ≤ (p : Int) := by omega
 have p1 : (p : Int) < (s.ps.length : Int) := by omega
 clear h
 by_cases hlt : q < P.length
 ·obtain ⟨o, hoq⟩ : ∃ o, P[q]? = some o := ⟨_, List.getElem?_eq_getElem hlt⟩
  rw [hoq]
  simp only [Option.getD_some]
  obtain ⟨ob, oo, ca, cc, hqa, ⟨k0, k1, k2, k3, k4⟩, hCA, -⟩ := hO q o hoq
  subst hqa
  have h4 := hs4 P hPm o (List.mem_of_getElem? hoq)
  have hq1 : ¬ ((P.length : Int) ≤ (q : Int)) := by omega
  have hq2 : (q : Int) < (P.length : Int) := by omega
  have hq0 : (0 : Int) ≤ (q : Int) := by omega
  have CA := hide hCA
  clear hCA hO
  go_enter Tryz.func59, Tryz.ntmps59
  go_wp2_with fail
  refine AT.out.mono ?_
  rintro r w1 ⟨rfl, b1⟩
  have bb := btr (below_alloc w (.cells #[.int .i64 0, .int .i64 0, .int .i64 0, .slice none 0 0, .bool false] 48)) b1
  have z0 := Sh.cellB y0 bb
  have zp := Sh.cellB hpc bb
  have m0 := Sh.cellB k0 bb
  have m1 := Sh.cellB k1 bb
  have m2 := Sh.cellB k2 bb
  have m3 := Sh.cellB k3 bb
  have m4 := Sh.cellB k4 bb
  have Z1 := hide (heap_below (heap_new w (.cells #[.int .i64 0, .int .i64 0, .int .i64 0, .slice none 0 0, .bool false] 48)) b1)
  have BB := hide bb
  have CA1 := hide (CA.out.below bb)
  have hz1 := heap_lt Z1.out
  have CL := hide (clone_ca ca o.cases cc (w1.alloc (.cells #[.int .i64 o.kind, .int .i64 o.a, .int .i64 o.b, .slice ca o.cases.length cc, .bool o.def_] 48)) (CA1.out.below (below_alloc _ _)) (by omega))
  clear b1 bb AT PA y0 y2 hpc k0 k1 k2 k3 k4 CA
  go_wp2_with fail
  refine CL.out.mono ?_
  rintro r w3 ⟨oc, d, rfl, hc3, hn3, b3⟩
  have Z3 := hide (heap_below Z1.out (btr (below_alloc _ _) b3))
  have V3 := hide (heap_below (heap_new w1 (.cells #[.int .i64 o.kind, .int .i64 o.a, .int .i64 o.b, .slice ca o.cases.length cc, .bool o.def_] 48)) b3)
  have x0 := cell_of V3.out 0
  have x1 := cell_of V3.out 1
  have x2 := cell_of V3.out 2
  have x3 := cell_of V3.out 3
  have x4 := cell_of V3.out 4
  have xf := frozen_of V3.out 3
  have r0 := cell_of Z3.out 0
  have r1 := cell_of Z3.out 1
  have r2 := cell_of Z3.out 2
  have r3 := cell_of Z3.out 3
  have r4 := cell_of Z3.out 4
  have f0 := frozen_of Z3.out 0
  have f1 := frozen_of Z3.out 1
  have f2 := frozen_of Z3.out 2
  have f3 := frozen_of Z3.out 3
  have f4 := frozen_of Z3.out 4
  simp at x0 x1 x2 x3 x4 r0 r1 r2 r3 r4
  have hne : w.heap.size ≠ w1.heap.size := by omega
  have C3 := hide hc3
  rw [World.size_alloc] at hn3
  have N3 := hide hn3
  have B3 := hide (btr BB.out (btr (below_alloc _ _) b3))
  clear hc3 hn3 b3 CL z0 zp m0 m1 m2 m3 m4 CA1
  generalize w1.heap.size = Vb at *
  go_wp2_with fail
  have Z4 := ((KB.refl Vb w3).setCell 3 (.slice oc o.cases.length d)).heap Z3.out hne
  refine bodyPost_ret (En.results_row1 Tryz.results59 _ _ _ _ rfl (loadVar_op (set5 Z4) rfl)) rfl ⟨oc, d, rfl, ?_, ?_, ?_⟩
  ·have K1 := (KB.refl Vb w3).setCell 3 (.slice oc o.cases.length d)
   have K2 := (((((KB.refl w.heap.size (w3.setCell ⟨Vb, 3, none⟩ (.slice oc o.cases.length d))).setCell 0 (.int .i64 o.kind)).setCell 1 (.int .i64 o.a)).setCell 2 (.int .i64 o.b)).setCell 3 (.slice oc o.cases.length d)).setCell 4 (.bool o.def_)
   refine cat_keep C3.out fun a e hl => ?_
   have := N3.out a e
   exact (K2.block _ (Nat.lt_of_lt_of_le hl K1.size) (by omega)).trans (K1.block _ hl (by omega))
  ·intro a e
   have := N3.out a e
   omega
  ·have := B3.out.setCell (p := ⟨Vb, 3, none⟩) (by show w.heap.size ≤ Vb; omega) (.slice oc o.cases.length d)
   exact ((((this.setCell (p := ⟨w.heap.size, 0, none⟩) (Nat.le_refl _) _).setCell (p := ⟨w.heap.size, 1, none⟩) (Nat.le_refl _) _).setCell (p := ⟨w.heap.size, 2, none⟩) (Nat.le_refl _) _).setCell (p := ⟨w.heap.size, 3, none⟩) (Nat.le_refl _) _).setCell (p := ⟨w.heap.size, 4, none⟩) (Nat.le_refl _) _
 ·rw [List.getElem?_eq_none (by omega)]
  simp only [Option.getD_none]
  have hq1 : (P.length : Int) ≤ (q : Int) := by omega
  go_enter Tryz.func59, Tryz.ntmps59
  go_wp2_with fail
  refine AT.out.mono ?_
  rintro r w1 ⟨rfl, b1⟩
  have bb := btr (below_alloc w (.cells #[.int .i64 0, .int .i64 0, .int .i64 0, .slice none 0 0, .bool false] 48)) b1
  have z0 := Sh.cellB y0 bb
  have zp := Sh.cellB hpc bb
  have Z3 := hide (heap_below (heap_new w (.cells #[.int .i64 0, .int .i64 0, .int .i64 0, .slice none 0 0, .bool false] 48)) b1)
  have r0 := cell_of Z3.out 0
  have r1 := cell_of Z3.out 1
  have r2 := cell_of Z3.out 2
  have r3 := cell_of Z3.out 3
  have r4 := cell_of Z3.out 4
  have f0 := frozen_of Z3.out 0
  have f1 := frozen_of Z3.out 1
  have f2 := frozen_of Z3.out 2
  have f3 := frozen_of Z3.out 3
  have f4 := frozen_of Z3.out 4
  simp at r0 r1 r2 r3 r4
  have BB := hide bb
  clear b1 bb AT PA y0 y2 hpc hO
  go_wp2_with fail
  refine bodyPost_ret (En.results_row1 Tryz.results59 _ _ _ _ rfl (loadVar_op (set5 Z3.out) rfl)) rfl ⟨none, 0, rfl, (fun k x hk => by simp [exitO] at hk), (fun a e => by cases e), ?_⟩
  exact ((((BB.out.setCell (p := ⟨w.heap.size, 0, none⟩) (Nat.le_refl _) _).setCell (p := ⟨w.heap.size, 1, none⟩) (Nat.le_refl _) _).setCell (p := ⟨w.heap.size, 2, none⟩) (Nat.le_refl _) _).setCell (p := ⟨w.heap.size, 3, none⟩) (Nat.le_refl _) _).setCell (p := ⟨w.heap.size, 4, none⟩) (Nat.le_refl _) _
end Lo
end Go.Proofs.YtkkgbeaaekmhfaaGreat
namespace Go.Proofs.YtkkgbeaaekmhfaaGreat
open Go.ChangeShapes Go.WideShapes Go.ChangeAt Go.RowKit
namespace Lo
open Ba
theorem results_tct {fn : Func} {p u v : Tmp} {ty : TypeId} (h : fn.results = #[.tmp u, .cell p ty, .tmp v]) (tmps : Array Value) (w : World) (g : Nat) (cs : Array Value) (x y : Value)
 (hx : tmps.getD u undef = x) (hp : tmps.getD p undef = .pointer (some ⟨g, 0, none⟩)) (hy : tmps.getD v undef = y) (hl : (loadVar ty ⟨g, 0, none⟩).run Tryz.prog w = .ok (.agg cs) w) :
 (results fn tmps).run Tryz.prog w = .ok (.tuple #[x, .agg cs, y]) w := by
 subst hx
 subst hy
 have hp' : tmps[p]?.getD undef = .pointer (some ⟨g, 0, none⟩) := by simpa using hp
 simp [results, h, hp', asAddr, hl]
theorem below_kb {n D : Nat} {w a b : World} (h : Below n w a) (k : KB D a b) (hD : n ≤ D) (hs : n ≤ a.heap.size) : Below n w b :=
 ⟨k.os.trans h.os, k.tape.trans h.tape, k.output.trans h.output, Nat.le_trans h.size k.size, fun x hx => (k.block x (Nat.lt_of_lt_of_le hx hs) (by omega)).trans (h.block x hx)⟩
theorem below5 {n b : Nat} {w a : World} (h : Below n w a) (hb : n ≤ b) (u0 u1 u2 u3 u4 : Value) : Below n w (((((a.setCell ⟨b, 0, none⟩ u0).setCell ⟨b, 1, none⟩ u1).setCell ⟨b, 2, none⟩ u2).setCell ⟨b, 3, none⟩ u3).setCell ⟨b, 4, none⟩ u4) :=
 ((((h.setCell (p := ⟨b, 0, none⟩) hb _).setCell (p := ⟨b, 1, none⟩) hb _).setCell (p := ⟨b, 2, none⟩) hb _).setCell (p := ⟨b, 3, none⟩) hb _).setCell (p := ⟨b, 4, none⟩) hb _
theorem next_nil (w : World) : Calls Tryz.prog 34 #[.pointer none] w fun r w' => r = .returned (.tuple #[.int .i64 0, .agg #[.int .i64 0, .int .i64 0, .int .i64 0, .slice none 0 0, .bool false], .bool false]) ∧ Below w.heap.size w w' := by
 have r0 := cell_of (heap_new w (.cells #[.int .i64 0, .int .i64 0, .int .i64 0, .slice none 0 0, .bool false] 48)) 0
 go_enter Tryz.func34, Tryz.ntmps34
 go_wp2_with fail
 exact bodyPost_ret (results_tct Tryz.results34 _ _ _ _ _ _ rfl rfl rfl (loadVar_op (heap_new _ _) rfl)) rfl ⟨rfl, below_alloc _ _⟩
set_option maxRecDepth 100000 in
set_option maxHeartbeats 1600000 in
theorem next_over (L : Nat) (col : Nat → Nat) (s : Lm) (K : Nat) (w : World) (h : LW w col L s) (hb : Cr.Bn K s.cr) (hv : verd s ≠ 0) :
 Calls Tryz.prog 34 #[.pointer (some ⟨L, 0, none⟩)] w fun r w' => r = .returned (.tuple #[.int .i64 0, .agg #[.int .i64 0, .int .i64 0, .int .i64 0, .slice none 0 0, .bool false], .bool false]) ∧ Below w.heap.size w w' := by
 obtain ⟨col1, h1, -, -⟩ := h.below (below_alloc w (.cells #[.int .i64 0, .int .i64 0, .int .i64 0, .slice none 0 0, .bool false] 48))
 have VE := hide (verdict_any L col1 s K _ h1 hb)
 clear h h1
 generalize verd s = v at VE hv
 have hv' : (v != 0) = true := by simp [hv]
 go_enter Tryz.func34, Tryz.ntmps34
 go_wp2_with fail
 refine VE.out.mono ?_
 rintro r w1 ⟨rfl, b1⟩
 have Z3 := hide (heap_below (heap_new w (.cells #[.int .i64 0, .int .i64 0, .int .i64 0, .slice none 0 0, .bool false] 48)) b1)
 have r0 := cell_of Z3.out 0
 have r1 := cell_of Z3.out 1
 have r2 := cell_of Z3.out 2
 have r3 := cell_of Z3.out 3
 have r4 := cell_of Z3.out 4
 have f0 := frozen_of Z3.out 0
 have f1 := frozen_of Z3.out 1
 have f2 := frozen_of Z3.out 2
 have f3 := frozen_of Z3.out 3
 have f4 := frozen_of Z3.out 4
 simp at r0 r1 r2 r3 r4
 have BB := hide (btr (below_alloc w (.cells #[.int .i64 0, .int .i64 0, .int .i64 0, .slice none 0 0, .bool false] 48)) b1)
 clear b1
 go_wp2_with fail
 exact bodyPost_ret (results_tct Tryz.results34 _ _ _ _ _ _ rfl rfl rfl (loadVar_op (set5 Z3.out) rfl)) rfl ⟨rfl, below5 BB.out (Nat.le_refl _) _ _ _ _ _⟩
set_option maxRecDepth 100000 in
set_option maxHeartbeats 1600000 in
theorem next_comp (L : Nat) (col : Nat → Nat) (s : Lm) (K : Nat) (w : World) (h : LW w col L s) (hb : Cr.Bn K s.cr) (hv : verd s = 0) (hl : s.p.length ≤ 1000 ∧ s.d.length ≤ 1000) (ht : nth s.p 0 = -1) :
 Calls Tryz.prog 34 #[.pointer (some ⟨L, 0, none⟩)] w fun r w' => r = .returned (.tuple #[.int .i64 (-1), .agg #[.int .i64 0, .int .i64 0, .int .i64 0, .slice none 0 0, .bool false], .bool true]) ∧ Below w.heap.size w w' := by
 obtain ⟨col1, h1, -, -⟩ := h.below (below_alloc w (.cells #[.int .i64 0, .int .i64 0, .int .i64 0, .slice none 0 0, .bool false] 48))
 have VE := hide (verdict_any L col1 s K _ h1 hb)
 rw [hv] at VE
 obtain ⟨N, C, B, X, FB, pa, pc, bs, Fs, ta, tc, h⟩ := h
 have H := hide h
 have hL := h.lt
 clear h h1
 go_enter Tryz.func34, Tryz.ntmps34
 go_wp2_with fail
 refine VE.out.mono ?_
 rintro r w1 ⟨rfl, b1⟩
 have bb := btr (below_alloc w (.cells #[.int .i64 0, .int .i64 0, .int .i64 0, .slice none 0 0, .bool false] 48)) b1
 have z1 := cell_of (heap_below H.out.hp bb) 1
 simp [lcs] at z1
 have CO := hide (Pk.copy_any C s.p s.d w1 (H.out.cu.below bb).cur hl.1 hl.2)
 have Z1 := hide (heap_below (heap_new w (.cells #[.int .i64 0, .int .i64 0, .int .i64 0, .slice none 0 0, .bool false] 48)) b1)
 have BB := hide bb
 clear b1 bb VE
 go_wp2_with fail
 refine CO.out.mono ?_
 rintro r w2 ⟨D, rfl, hD, cu2, b2⟩
 have NX := hide (Pk.next_any D s.p s.d w2 cu2)
 rw [ht] at NX
 have Z2 := hide (heap_below Z1.out b2)
 have B2 := hide (btr BB.out b2)
 have hs1 := heap_lt Z1.out
 clear cu2 b2 CO
 go_wp2_with fail
 refine NX.out.mono ?_
 rintro r w3 ⟨rfl, -, kb3⟩
 have Z3 := hide (kb3.heap Z2.out (by omega))
 have B3 := hide (below_kb B2.out kb3 (by omega) B2.out.size)
 clear kb3 NX
 have r0 := cell_of Z3.out 0
 have r1 := cell_of Z3.out 1
 have r2 := cell_of Z3.out 2
 have r3 := cell_of Z3.out 3
 have r4 := cell_of Z3.out 4
 have f0 := frozen_of Z3.out 0
 have f1 := frozen_of Z3.out 1
 have f2 := frozen_of Z3.out 2
 have f3 := frozen_of Z3.out 3
 have f4 := frozen_of Z3.out 4
 simp at r0 r1 r2 r3 r4
 go_wp2_with fail
 exact bodyPost_ret (results_tct Tryz.results34 _ _ _ _ _ _ rfl rfl rfl (loadVar_op (set5 Z3.out) rfl)) rfl ⟨rfl, below5 B3.out (Nat.le_refl _) _ _ _ _ _⟩
set_option maxRecDepth 100000 in
set_option maxHeartbeats 1600000 in
theorem next_op (L : Nat) (col : Nat → Nat) (s : Lm) (K p q : Nat) (w : World) (h : LW w col L s) (hb : Cr.Bn K s.cr) (hv : verd s = 0) (hl : s.p.length ≤ 1000 ∧ s.d.length ≤ 1000) (ht : nth s.p 0 ≠ -1)
 (hp : (Cr.one0 (Cr.gt s.cr (whoN s))).p = (p : Int)) (hq : (Cr.one0 (Cr.gt s.cr (whoN s))).q = (q : Int)) (hpl : p < s.ps.length) (hs4 : ∀ x ∈ s.ps, ∀ o ∈ x, o.cases.length ≤ 4) :
 Calls Tryz.prog 34 #[.pointer (some ⟨L, 0, none⟩)] w fun r w' => ∃ oc cc, r = .returned (.tuple #[.int .i64 (whoN s), opV (opOf s (whoN s)) oc cc, .bool true]) ∧ De.CAt w' oc (opOf s (whoN s)).cases ∧ (∀ a, oc = some a → w.heap.size ≤ a.block) ∧ Below w.heap.size w w' := by
 obtain ⟨col1, h1, -, -⟩ := h.below (below_alloc w (.cells #[.int .i64 0, .int .i64 0, .int .i64 0, .slice none 0 0, .bool false] 48))
 have VE := hide (verdict_any L col1 s K _ h1 hb)
 rw [hv] at VE
 have HL := hide h
 obtain ⟨N, C, B, X, FB, pa, pc, bs, Fs, ta, tc, h⟩ := h
 have H := hide h
 have hL := h.lt
 have hcr := h.cr.le
 have OP := hide (fun u c (q' : LW u c L s) => oper_any L c s (whoN s) p q u q' hp hq hpl hs4)
 have ht' : (nth s.p 0 == -1) = false := by simp [ht]
 have hwho : Pk.ofx (nth s.p 0) (Cr.abl s.cr) = whoN s := rfl
 clear h h1
 generalize opOf s (whoN s) = o at OP ⊢
 generalize whoN s = g at *
 generalize hT : nth s.p 0 = t at *
 go_enter Tryz.func34, Tryz.ntmps34
 go_wp2_with fail
 refine VE.out.mono ?_
 rintro r w1 ⟨rfl, b1⟩
 have bb := btr (below_alloc w (.cells #[.int .i64 0, .int .i64 0, .int .i64 0, .slice none 0 0, .bool false] 48)) b1
 have z1 := cell_of (heap_below H.out.hp bb) 1
 simp [lcs] at z1
 have CO := hide (Pk.copy_any C s.p s.d w1 (H.out.cu.below bb).cur hl.1 hl.2)
 have Z1 := hide (heap_below (heap_new w (.cells #[.int .i64 0, .int .i64 0, .int .i64 0, .slice none 0 0, .bool false] 48)) b1)
 have BB := hide bb
 clear b1 bb VE
 go_wp2_with fail
 refine CO.out.mono ?_
 rintro r w2 ⟨D, rfl, hD, cu2, b2⟩
 have NX := hide (Pk.next_any D s.p s.d w2 cu2)
 rw [hT] at NX
 have Z2 := hide (heap_below Z1.out b2)
 have B2 := hide (btr BB.out b2)
 have hs1 := heap_lt Z1.out
 clear cu2 b2 CO
 go_wp2_with fail
 refine NX.out.mono ?_
 rintro r w3 ⟨rfl, -, kb3⟩
 have Z3 := hide (kb3.heap Z2.out (by omega))
 have B3 := hide (below_kb B2.out kb3 (by omega) B2.out.size)
 clear kb3 NX
 have y2 : w3.cell? ⟨L, 2, none⟩ = some (.pointer (some ⟨B, 0, none⟩)) := cell_of (heap_below H.out.hp B3.out) 2
 have AB := hide (Cr.able_any B FB s.cr w3 (H.out.cr.below B3.out))
 have al := Cr.abl_len s.cr
 go_wp2_with fail
 refine AB.out.mono ?_
 rintro r w4 ⟨ob, d, rfl, at4, b4⟩
 have OF := hide (Pk.of_any t ob (Cr.abl s.cr) d w4 at4 (by unfold maxLen; omega))
 rw [hwho] at OF
 have Z4 := hide (heap_below Z3.out b4)
 have B4 := hide (btr B3.out b4)
 clear at4 b4 AB
 go_wp2_with fail
 refine OF.out.mono ?_
 rintro r w5 ⟨rfl, rfl⟩
 obtain ⟨col5, h5, -, -⟩ := HL.out.below B4.out
 have OP5 := hide (OP.out _ col5 h5)
 clear h5 OP OF
 go_wp2_with fail
 refine OP5.out.mono ?_
 rintro r w6 ⟨oc, cc, rfl, hc6, hn6, b6⟩
 have Z6 := hide (heap_below Z4.out b6)
 have B6 := hide (btr B4.out b6)
 have C6 := hide hc6
 have N6 : Hid (∀ a, oc = some a → w.heap.size < a.block) := fun a e => by
  have := hn6 a e
  have := heap_lt Z4.out
  omega
 clear hc6 hn6 b6 OP5
 have r0 := cell_of Z6.out 0
 have r1 := cell_of Z6.out 1
 have r2 := cell_of Z6.out 2
 have r3 := cell_of Z6.out 3
 have r4 := cell_of Z6.out 4
 have f0 := frozen_of Z6.out 0
 have f1 := frozen_of Z6.out 1
 have f2 := frozen_of Z6.out 2
 have f3 := frozen_of Z6.out 3
 have f4 := frozen_of Z6.out 4
 simp at r0 r1 r2 r3 r4
 unfold opV
 go_wp2_with fail
 refine bodyPost_ret (results_tct Tryz.results34 _ _ _ _ _ _ rfl rfl rfl (loadVar_op (set5 Z6.out) rfl)) rfl ⟨oc, cc, rfl, ?_, fun a e => Nat.le_of_lt (N6.out a e), below5 B6.out (Nat.le_refl _) _ _ _ _ _⟩
 have K2 := (((((KB.refl w.heap.size w6).setCell 0 (.int .i64 o.kind)).setCell 1 (.int .i64 o.a)).setCell 2 (.int .i64 o.b)).setCell 3 (.slice oc o.cases.length cc)).setCell 4 (.bool o.def_)
 refine cat_keep C6.out fun a e hl => ?_
 have := N6.out a e
 exact K2.block _ hl (by omega)
end Lo
end Go.Proofs.YtkkgbeaaekmhfaaGreat
