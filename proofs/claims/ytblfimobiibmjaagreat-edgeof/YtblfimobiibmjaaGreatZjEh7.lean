import Derived.Test.YtblfimobiibmjaaGreatZjEh6
import Derived.Deep.Cut
import Derived.Deep.RegionHeld3
import Derived.Shelf.SlSortCmp.NoneTotal
import Derived.Shelf.Lay
import Derived.Ground.SlsfProg
import Derived.Maps.AppendAt
import Derived.LoopN
import Derived.Deep.AppendLies
namespace Go.Proofs.YtblfimobiibmjaaGreat
open Go.ChangeShapes Go.WideShapes Go.ChangeAt Go.RowKit
namespace Eg
open En Gu Ba
theorem info_ch0 : (Tryz.prog.info? 123).map (fun i => (i.zero, i.size, i.bytes)) = some (some (.agg #[.int .i64 0, .int .i64 0, .slice none 0 0, .slice none 0 0]), 4, 64) := by kernel_rfl
theorem mk_ch (w : World) (n : Nat) (hn : n ≤ 100000) : (Instr.makeSlice 119 (.int .i64 (n : Int)) (.int .i64 (n : Int))).run Tryz.prog w = .ok (.slice (some ⟨w.heap.size, 0, none⟩) n n) (w.alloc (.cells (madeCells #[.int .i64 0, .int .i64 0, .slice none 0 0, .slice none 0 0] (n * 4)) 123)) := by
 obtain ⟨i0, hi, hz, hs, hby⟩ := info_ex info_ch0
 have := run_mkG (Tryz.underlying119) hi hz w n (by rw [hby]; omega) (by omega)
 rw [hs] at this
 exact this
theorem made4 (n g : Nat) (h : g < n) : (madeCells #[Value.int .i64 0, .int .i64 0, .slice none 0 0, .slice none 0 0] (n * 4))[g * 4]? = some (.int .i64 0) ∧ (madeCells #[Value.int .i64 0, .int .i64 0, .slice none 0 0, .slice none 0 0] (n * 4))[g * 4 + 1]? = some (.int .i64 0) ∧ (madeCells #[Value.int .i64 0, .int .i64 0, .slice none 0 0, .slice none 0 0] (n * 4))[g * 4 + 2]? = some (.slice none 0 0) ∧ (madeCells #[Value.int .i64 0, .int .i64 0, .slice none 0 0, .slice none 0 0] (n * 4))[g * 4 + 3]? = some (.slice none 0 0) := by
 unfold madeCells
 have e0 : (g * 4) % 4 = 0 := by omega
 have e1 : (g * 4 + 1) % 4 = 1 := by omega
 have e2 : (g * 4 + 2) % 4 = 2 := by omega
 have e3 : (g * 4 + 3) % 4 = 3 := by omega
 have h0 : g * 4 < n * 4 := by omega
 have h1 : g * 4 + 1 < n * 4 := by omega
 have h2 : g * 4 + 2 < n * 4 := by omega
 have h3 : g * 4 + 3 < n * 4 := by omega
 simp [e0, e1, e2, e3, h0, h1, h2, h3]
def szK (l : List Ev) (k c : Nat) : Int := (inn l k (c : Int)).size
def clK (l : List Ev) (k c : Nat) : Nat := clF l (c : Int) k
def dlK (l : List Ev) (k c : Nat) (b : Bool) : List (Nat × Nat) := dl l (c : Int) b k
structure ChI (w : World) (M C : Nat) (l : List Ev) (ed : Value) (wr : World) (k : Nat) : Prop where
 le : k ≤ l.length
 bl : Below w.heap.size w wr
 cm : ∃ vs, CM wr M C (szK l k) (clK l k) (dlK l k) vs
 ed : Ow wr (M + 1) ed (clE l k)
section
variable {w wr W : World} {M C : Nat} {l : List Ev} {ed : Value} {k : Nat} {e : Ev}
theorem ChI.below (h : ChI w M C l ed wr k) (b : Below wr.heap.size wr W) : ChI w M C l ed W k := by
 obtain ⟨vs, cm⟩ := h.cm
 exact ⟨h.le, btr h.bl b, ⟨vs, cm.below b⟩, h.ed.below b⟩
theorem ChI.skip (h : ChI w M C l ed wr k) (he : l[k]? = some e) (h1 : e.c = -1 ∨ (e.k ≠ 2 ∧ e.k ≠ 5 ∧ moves e = false ∧ ¬ ((e.k = 4 ∨ e.k = 7) ∧ e.o = false))) : ChI w M C l ed wr (k + 1) := by
 have hk := (List.getElem?_eq_some_iff.1 he).1
 obtain ⟨vs, cm⟩ := h.cm
 refine ⟨by omega, h.bl, ⟨vs, cm.congr (fun c _ => ?_) (fun c _ => ?_) (fun c _ b => ?_) (fun _ _ _ => rfl)⟩, ?_⟩
 ·unfold szK
  rw [size_next he, if_neg]
  rcases h1 with q | q
  ·omega
  ·exact fun z => q.1 z.2
 ·unfold clK
  rw [cl_next he, if_neg]
  rcases h1 with q | q
  ·omega
  ·exact fun z => q.2.1 z.1
 ·unfold dlK
  refine dl_same (one_not he b ?_)
  rcases h1 with q | q
  ·exact .inl (by omega)
  ·exact .inr q.2.2.1
 ·rw [ce_same he]
  ·exact h.ed
  ·rcases h1 with q | q
   ·exact fun z => z.1 q
   ·exact fun z => q.2.2.2 z.2
theorem ChI.make (h : ChI w M C l ed wr k) (hM : w.heap.size ≤ M) (he : l[k]? = some e) {d : Nat} (hd : e.c = (d : Int)) (hdC : d < C) (h2 : e.k = 2) : ChI w M C l ed (wr.setCell ⟨M, d * 4, none⟩ (.int .i64 e.v)) (k + 1) := by
 have hk := (List.getElem?_eq_some_iff.1 he).1
 obtain ⟨vs, cm⟩ := h.cm
 have mv : moves e = false := by unfold moves; simp [h2]
 refine ⟨by omega, h.bl.setCell hM _, ⟨vs, (cm.size hdC e.v).congr (fun c _ => ?_) (fun c _ => ?_) (fun c _ b => ?_) (fun _ _ _ => rfl)⟩, ?_⟩
 ·unfold szK
  rw [size_next he]
  by_cases q : c = d
  ·rw [if_pos q, if_pos ⟨by rw [hd, q], h2⟩]
  ·rw [if_neg q, if_neg (fun z => q (by have := z.1; omega))]
 ·unfold clK
  rw [cl_next he, if_neg (fun z => by have := z.1; omega)]
 ·unfold dlK
  exact dl_same (one_not he b (.inr mv))
 ·rw [ce_same he (fun z => by rcases z.2.1 with q | q <;> omega)]
  exact own_keep h.ed fun g hg hl => Below.heap_setCell _ _ _ _ (fun q => by have q' : g = M := q; omega)
theorem ChI.shut (h : ChI w M C l ed wr k) (hM : w.heap.size ≤ M) (he : l[k]? = some e) {d : Nat} (hd : e.c = (d : Int)) (hdC : d < C) (h5 : e.k = 5) : ChI w M C l ed (wr.setCell ⟨M, d * 4 + 1, none⟩ (.int .i64 (k : Int))) (k + 1) := by
 have hk := (List.getElem?_eq_some_iff.1 he).1
 obtain ⟨vs, cm⟩ := h.cm
 have mv : moves e = false := by unfold moves; simp [h5]
 refine ⟨by omega, h.bl.setCell hM _, ⟨vs, (cm.close hdC k).congr (fun c _ => ?_) (fun c _ => ?_) (fun c _ b => ?_) (fun _ _ _ => rfl)⟩, ?_⟩
 ·unfold szK
  rw [size_next he, if_neg (fun z => by have := z.2; omega)]
 ·unfold clK
  rw [cl_next he]
  by_cases q : c = d
  ·rw [if_pos q, if_pos ⟨h5, by rw [hd, q]⟩]
  ·rw [if_neg q, if_neg (fun z => q (by have := z.2; omega))]
 ·unfold dlK
  exact dl_same (one_not he b (.inr mv))
 ·rw [ce_same he (fun z => by rcases z.2.1 with q | q <;> omega)]
  exact own_keep h.ed fun g hg hl => Below.heap_setCell _ _ _ _ (fun q => by have q' : g = M := q; omega)
theorem ChI.none (h : ChI w M C l ed wr k) (he : l[k]? = some e) {d : Nat} (hd : e.c = (d : Int)) (hn : (e.k = 4 ∨ e.k = 7) ∧ e.o = false) {ed' : Value} {w6 : World} (g : wr.grownBy w6 ed.ownBlock) (o : Ow w6 (M + 1) ed' (clE l k ++ [⟨clK l k d, k, 4⟩])) (hM : w.heap.size ≤ M) : ChI w M C l ed' w6 (k + 1) := by
 have hk := (List.getElem?_eq_some_iff.1 he).1
 obtain ⟨vs, cm⟩ := h.cm
 have mv : moves e = false := by unfold moves; rcases hn with ⟨q | q, z⟩ <;> simp [q, z]
 obtain ⟨cur, hc, hr⟩ := cm.row
 have eb := own_base h.ed
 have et : ∀ q cc tt fr, wr.heap[q]? = some (.cells cc tt fr) → tt ≠ 70 → some q ≠ ed.ownBlock := by
  intro q cc tt fr hq ht e2
  rcases h.ed.2 with ⟨r1, _⟩ | ⟨b', cap, cr, r1, r2, r3, _⟩
  ·rw [r1] at e2; simp [Value.ownBlock] at e2
  ·rw [r1] at e2
   simp [Value.ownBlock] at e2
   rw [e2, r3] at hq
   cases hq
   exact ht rfl
 have cm6 : CM w6 M C (szK l k) (clK l k) (dlK l k) vs := by
  refine ⟨⟨cur, (g.block M (heap_lt hc) (et M _ _ _ hc (by decide))).trans hc, hr⟩, fun c hc b => ⟨(cm.od c hc b).1, ?_⟩, cm.dj⟩
  rcases (cm.od c hc b).2 with q | ⟨q, cap, cr, q1, q2, q3, q4⟩
  ·exact .inl q
  ·exact .inr ⟨q, cap, cr, q1, q2, (g.block q (heap_lt q3) (et q _ _ _ q3 (by decide))).trans q3, q4⟩
 refine ⟨by omega, h.bl.trans ((grown_below g eb (by have := cm.lt; omega)).mono (by omega)), ⟨vs, cm6.congr (fun c _ => ?_) (fun c _ => ?_) (fun c _ b => ?_) (fun _ _ _ => rfl)⟩, ?_⟩
 ·unfold szK
  rw [size_next he, if_neg (fun z => by have := z.2; rcases hn.1 with q | q <;> omega)]
 ·unfold clK
  rw [cl_next he, if_neg (fun z => by have := z.1; rcases hn.1 with q | q <;> omega)]
 ·unfold dlK
  exact dl_same (one_not he b (.inr mv))
 ·rw [ce_more he ⟨by omega, hn.1, hn.2⟩, hd]
  exact o
theorem CM.edg {sz : Nat → Int} {cl : Nat → Nat} {D : Nat → Bool → List (Nat × Nat)} {vs : Nat → Bool → Value} (cm : CM wr M C sz cl D vs) {B : Nat} {le : List Ed} {w6 : World} (o : Ow wr B ed le) (g : wr.grownBy w6 ed.ownBlock) : CM w6 M C sz cl D vs := by
 obtain ⟨cur, hc, hr⟩ := cm.row
 have et : ∀ q cc tt fr, wr.heap[q]? = some (.cells cc tt fr) → tt ≠ 70 → some q ≠ ed.ownBlock := by
  intro q cc tt fr hq ht e2
  rcases o.2 with ⟨r1, _⟩ | ⟨b', cap, cr, r1, r2, r3, _⟩
  ·rw [r1] at e2; simp [Value.ownBlock] at e2
  ·rw [r1] at e2
   simp [Value.ownBlock] at e2
   rw [e2, r3] at hq
   cases hq
   exact ht rfl
 refine ⟨⟨cur, (g.block M (heap_lt hc) (et M _ _ _ hc (by decide))).trans hc, hr⟩, fun c hc b => ⟨(cm.od c hc b).1, ?_⟩, cm.dj⟩
 rcases (cm.od c hc b).2 with q | ⟨q, cap, cr, q1, q2, q3, q4⟩
 ·exact .inl q
 ·exact .inr ⟨q, cap, cr, q1, q2, (g.block q (heap_lt q3) (et q _ _ _ q3 (by decide))).trans q3, q4⟩
theorem sz_bound (h : Tok l) (c : Int) : ∀ n, n ≤ l.length → 0 ≤ (inn l n c).size ∧ (inn l n c).size ≤ 4
 | 0, _ => by
   show 0 ≤ (0 : Int) ∧ (0 : Int) ≤ 4
   decide
 | n + 1, hn => by
   obtain ⟨e, he⟩ : ∃ e, l[n]? = some e := ⟨_, List.getElem?_eq_getElem (by omega)⟩
   have ih := sz_bound h c n (by omega)
   rw [size_next he]
   split
   ·rename_i q
    exact ⟨(h.at he).fit.v q.2, chk_v (h.chk he) q.2⟩
   ·exact ih
theorem sz_is (h : Tok l) (c : Nat) : szK l l.length c = (szF l (c : Int) : Int) ∧ szF l (c : Int) ≤ 4 := by
 have := sz_bound h (c : Int) l.length (Nat.le_refl _)
 unfold szK szF
 omega
theorem chE_len (l : List Ev) (c : Int) : (chE l c).length ≤ 2 * l.length := by
 rw [← eX_is]
 have h1 := eX_len (szF l c) (if szF l c = 0 then 5 else 6) (dl l c true l.length) (dl l c false l.length) (dl l c false l.length).length
 have h2 := dl_len l c false l.length
 omega
def chs (l : List Ev) (j : Nat) : List Ed := (List.range j).flatMap fun (c : Nat) => chE l (c : Int)
theorem chs_succ (l : List Ev) (j : Nat) : chs l (j + 1) = chs l j ++ chE l (j : Int) := by
 unfold chs
 rw [List.range_succ, List.flatMap_append]
 simp
theorem chs_len (l : List Ev) : ∀ j, (chs l j).length ≤ j * (2 * l.length)
 | 0 => by simp [chs]
 | j + 1 => by
   have := chs_len l j
   have := chE_len l (j : Int)
   rw [chs_succ, List.length_append, Nat.add_mul]
   omega
theorem put_app {sz : Nat → Int} {cl : Nat → Nat} {D : Nat → Bool → List (Nat × Nat)} {vs : Nat → Bool → Value} (cm : CM wr M C sz cl D vs) {d : Nat} (hd : d < C) (b : Bool) {W : World} (hb : Below wr.heap.size wr W) {B2 : Nat} {v2 : Value} {l2 : List (Nat × Nat)} (h2 : Od W B2 v2 l2) (hl : (D d b).length + l2.length ≤ 100000) :
 ∃ oa n c w6, (Builtin.append_ #[121, 121] 121 #[vs d b, v2]).run Tryz.prog W = .ok (.slice oa n c) w6 ∧ (∃ u, w6.cell? ⟨M, d * 4 + (if b then 2 else 3), none⟩ = some u) ∧ w6.frozen? ⟨M, d * 4 + (if b then 2 else 3), none⟩ = false ∧ CM (w6.setCell ⟨M, d * 4 + (if b then 2 else 3), none⟩ (.slice oa n c)) M C sz cl (fun y z => if y = d ∧ z = b then D d b ++ l2 else D y z) (fun y z => if y = d ∧ z = b then .slice oa n c else vs y z) ∧ Below M wr (w6.setCell ⟨M, d * 4 + (if b then 2 else 3), none⟩ (.slice oa n c)) ∧ ∀ ed le, Ow wr (M + 1) ed le → Ow (w6.setCell ⟨M, d * 4 + (if b then 2 else 3), none⟩ (.slice oa n c)) (M + 1) ed le := by
 have cmW := cm.below hb
 obtain ⟨v', w6, h1, h3, h4, h5⟩ := app_od (cmW.od d hd b) h2 hl (by have := cmW.lt; omega)
 obtain ⟨oa, c, rfl, -, -⟩ := h3.sl
 obtain ⟨cur, hc, hs, -⟩ := cmW.row
 have hM : some M ≠ (vs d b).ownBlock := fun e => by have := own_base (cmW.od d hd b) M e.symm; omega
 have c6 : w6.heap[M]? = some (.cells cur 123 (0, 0)) := (h4.block M (heap_lt hc) hM).trans hc
 refine ⟨oa, _, c, w6, h1, ?_, frozen_of c6 _, cmW.put hd b h3 h4 ?_, ?_, fun ed le ho => ?_⟩
 ·rw [cell_of c6]
  exact ⟨_, Array.getElem?_eq_getElem (by cases b <;> simp <;> omega)⟩
 ·rcases h5 with q | q
  ·exact .inl q
  ·exact .inr fun n hn => by rw [q] at hn; cases hn; exact Nat.le_refl _
 ·have b1 := hb.mono (Nat.le_of_lt cm.lt)
  have b2 := (grown_below h4 (own_base (cmW.od d hd b)) (by have := cmW.lt; omega)).mono (Nat.le_succ M)
  exact (b1.trans b2).setCell (Nat.le_refl _) _
 ·have hoW := ho.below hb
  refine own_keep (w := w6) ⟨hoW.1, ?_⟩ fun g hg hl => Below.heap_setCell _ _ _ _ (fun q => by have q' : g = M := q; omega)
  rcases hoW.2 with q | ⟨q, cap, cr, q1, q2, q3, q4⟩
  ·exact .inl q
  ·refine .inr ⟨q, cap, cr, q1, q2, (h4.block q (heap_lt q3) fun e2 => ?_).trans q3, q4⟩
   rcases (cmW.od d hd b).2 with ⟨r1, _⟩ | ⟨b', cap', cr', r1, r2, r3, _⟩
   ·rw [r1] at e2; simp [Value.ownBlock] at e2
   ·rw [r1] at e2
    simp [Value.ownBlock] at e2
    rw [← e2, q3] at r3
    have : 70 = 125 := by cases r3
    revert this
    decide
theorem ChI.deal {vs : Nat → Bool → Value} {W : World} (hk : k < l.length) (he : l[k]? = some e) (h : Tok l) {d : Nat} (hd : e.c = (d : Int)) (mv : moves e = true) (bl : Below w.heap.size w W) (ed_ : Ow W (M + 1) ed (clE l k))
 (cm : CM W M C (szK l k) (clK l k) (fun y z => if y = d ∧ z = !e.s then (if d = d ∧ (!e.s) = e.s then dlK l k d e.s ++ [(bg l k, k)] else dlK l k d (!e.s)) ++ svL l k e else if y = d ∧ z = e.s then dlK l k d e.s ++ [(bg l k, k)] else dlK l k y z) vs) : ChI w M C l ed W (k + 1) := by
 have hk45 : e.k ≠ 2 ∧ e.k ≠ 5 ∧ ¬ ((e.k = 4 ∨ e.k = 7) ∧ e.o = false) := by
  unfold moves at mv
  simp at mv
  rcases mv with q | q
  ·exact ⟨by omega, by omega, fun z => by rcases z.1 with r | r <;> omega⟩
  ·exact ⟨by omega, by omega, fun z => by rw [q.2] at z; exact absurd z.2 (by decide)⟩
 refine ⟨by omega, bl, ⟨vs, cm.congr (fun c _ => ?_) (fun c _ => ?_) (fun c _ b => ?_) (fun _ _ _ => rfl)⟩, ?_⟩
 ·unfold szK
  rw [size_next he, if_neg (fun z => hk45.1 z.2)]
 ·unfold clK
  rw [cl_next he, if_neg (fun z => hk45.2.1 z.1)]
 ·have m1 := (h.at he).fit.m
  by_cases q : c = d
  ·subst q
   have e1 := dl_own he mv
   have e2 := dl_svc he mv m1
   rw [hd] at e1 e2
   by_cases qb : b = e.s
   ·subst qb
    rw [if_neg (fun z => by have := z.2; revert this; cases e.s <;> simp), if_pos ⟨rfl, rfl⟩]
    exact e1
   ·have qb2 : b = !e.s := by revert qb; cases b <;> cases e.s <;> simp
    subst qb2
    rw [if_pos ⟨rfl, rfl⟩, if_neg (fun z => by have := z.2; revert this; cases e.s <;> simp)]
    exact e2
  ·rw [if_neg (fun z => q z.1), if_neg (fun z => q z.1)]
   unfold dlK
   exact dl_same (one_not he b (.inl (by omega)))
 ·rw [ce_same he (fun z => hk45.2.2 z.2)]
  exact ed_
end
end Eg
end Go.Proofs.YtblfimobiibmjaaGreat
namespace Go.Proofs.YtblfimobiibmjaaGreat
open Go.ChangeShapes Go.WideShapes Go.ChangeAt Go.RowKit
namespace Eg
open En Gu Ba
set_option maxRecDepth 100000 in
set_option maxHeartbeats 6400000 in
theorem edges_any (sz : Nat) (cl : Int) (sv rv : Value) (S R : List (Nat × Nat)) (B1 B2 : Nat) (w : World) (hs : Od w B1 sv S) (hr : Od w B2 rv R) (hsz : sz ≤ 1000000000) (hR : R.length ≤ 4000) (hS : S.length ≤ 4000) (bk : Nat) (hbk : bk = if sz = 0 then 5 else 6) :
 Calls Tryz.prog 67 #[.agg #[.int .i64 (sz : Int), .int .i64 cl, sv, rv]] w fun r w' => ∃ v, r = .returned v ∧ Ow w' w.heap.size v (eX sz bk S R R.length) ∧ Below w.heap.size w w' := by
 obtain ⟨sa, sc, rfl, -, -⟩ := hs.sl
 obtain ⟨ra, rc, rfl, -, -⟩ := hr.sl
 obtain ⟨nS, hnS⟩ : ∃ n, S.length = n := ⟨_, rfl⟩
 obtain ⟨nR, hnR⟩ : ∃ n, R.length = n := ⟨_, rfl⟩
 have NS := hide hnS
 have NR := hide hnR
 have HS := hide hs
 have HRR := hide hr
 rw [hnS] at hS ⊢
 rw [hnR] at hR ⊢
 have BX := hide (heap_new w (.cells #[.int .i64 (sz : Int), .int .i64 cl, .slice sa nS sc, .slice ra nR rc] 123))
 have BB := hide (below_alloc w (.cells #[.int .i64 (sz : Int), .int .i64 cl, .slice sa nS sc, .slice ra nR rc] 123))
 clear hs hr hnS hnR
 go_enter Tryz.func67, Tryz.ntmps67
 go_upto_region 2 with fail
 generalize w.alloc (.cells #[.int .i64 (sz : Int), .int .i64 cl, .slice sa nS sc, .slice ra nR rc] 123) = wb at *
 have y0 : wb.cell? ⟨w.heap.size, 0, none⟩ = some (.int .i64 (sz : Int)) := cell_of BX.out 0
 have y2 : wb.cell? ⟨w.heap.size, 2, none⟩ = some (.slice sa nS sc) := cell_of BX.out 2
 have y3 : wb.cell? ⟨w.heap.size, 3, none⟩ = some (.slice ra nR rc) := cell_of BX.out 3
 have B0 := hide BB.out
 by_cases h0 : sz = 0
 ·have d0 : ((sz : Int) == 0) = true := by simp [h0]
  obtain rfl : bk = 5 := by rw [hbk, if_pos h0]
  clear h0 hbk
  go_wp2_with fail
  go_loopw [4, 13] (fun ev iv wr => ∃ k : Nat, k ≤ nR ∧ iv = .int .i64 k ∧ Ow wr wb.heap.size ev (eX sz 5 S R k) ∧ Below wb.heap.size wb wr) (fun _ iv _ => nR - (intOf iv).toNat)
  case atStart => exact ⟨0, Nat.zero_le _, rfl, Ow.nil _ _, Below.refl _ _⟩
  case round =>
   obtain ⟨k, hk, rfl, ow, hb⟩ := hrel
   have HB := hide hb
   have BXr := hide (heap_below BX.out hb)
   clear y0 y2 y3
   have y0 : wr.cell? ⟨w.heap.size, 0, none⟩ = some (.int .i64 (sz : Int)) := cell_of BXr.out 0
   have y2 : wr.cell? ⟨w.heap.size, 2, none⟩ = some (.slice sa nS sc) := cell_of BXr.out 2
   obtain ⟨ea, cp, rfl, -, -⟩ := ow.sl
   have XL := eX_len sz 5 S R k
   obtain ⟨n, hn⟩ : ∃ n, (eX sz 5 S R k).length = n := ⟨_, rfl⟩
   have HN := hide hn
   have OWo := hide ow
   rw [hn] at XL ⊢
   clear ow hb
   by_cases hlt : k < nR
   ·have hlt' : (k : Int) < (nR : Int) := by omega
    have k0 : (0 : Int) ≤ (k : Int) := by omega
    obtain ⟨q, hq⟩ : ∃ q, R[k]? = some q := ⟨_, List.getElem?_eq_getElem (by rw [NR.out]; omega)⟩
    have BW := hide (btr B0.out HB.out)
    obtain ⟨gr, rfl, r0, r1⟩ := (HRR.out.below BW.out).cell hq
    have HQ := hide hq
    clear hq hn
    go_upto_region 8 with fail
    have QB0 := hide (heap_new wr (.cells #[.int .i64 (q.1 : Int), .int .i64 (q.2 : Int)] 125))
    have BD := hide (below_alloc wr (.cells #[.int .i64 (q.1 : Int), .int .i64 (q.2 : Int)] 125))
    generalize wr.alloc (.cells #[.int .i64 (q.1 : Int), .int .i64 (q.2 : Int)] 125) = wd at *
    have OWd := hide (OWo.out.below BD.out)
    have OWn : Hid (Ow wd wb.heap.size (.slice ea n cp) (eX sz 5 S R k)) := by have O := OWd.out; rw [HN.out] at O; exact O
    have BXd := hide (heap_below BXr.out BD.out)
    clear y0 y2 r0 r1
    have y0 : wd.cell? ⟨w.heap.size, 0, none⟩ = some (.int .i64 (sz : Int)) := cell_of BXd.out 0
    have y2 : wd.cell? ⟨w.heap.size, 2, none⟩ = some (.slice sa nS sc) := cell_of BXd.out 2
    have q0 : wd.cell? ⟨wr.heap.size, 0, none⟩ = some (.int .i64 (q.1 : Int)) := cell_of QB0.out 0
    have q1 : wd.cell? ⟨wr.heap.size, 1, none⟩ = some (.int .i64 (q.2 : Int)) := cell_of QB0.out 1
    have WLT : Hid (w.heap.size < wr.heap.size) := heap_lt BXr.out
    have BWd := hide (btr BW.out BD.out)
    have BWb := hide (btr HB.out BD.out)
    have WBS : Hid (w.heap.size < wb.heap.size) := heap_lt BX.out
    cases hp : S[k]? with
    | none =>
      have hkS : nS ≤ k := by have := List.getElem?_eq_none_iff.1 hp; rw [NS.out] at this; exact this
      have d1 : decide ((k : Int) < (nS : Int)) = false := by simp; omega
      have hp2 : S[k + sz]? = none := List.getElem?_eq_none_iff.2 (by rw [NS.out]; omega)
      have d2 : decide ((k : Int) + (sz : Int) < (nS : Int)) = false := by simp; omega
      have E : Hid (eX sz 5 S R (k + 1) = eX sz 5 S R k) := by
       show _ = _
       rw [eX_succ, eC_is HQ.out, hp, hp2]
       simp
      clear hp hp2
      go_wp2_with fail
      go_roundw
      case measure => simp [intOf]; omega
      case rel => exact ⟨k + 1, by omega, by simp, by rw [E.out]; exact OWn.out, btr HB.out BD.out⟩
    | some p =>
      have HP := hide hp
      have hkS : k < nS := by have := (List.getElem?_eq_some_iff.1 hp).1; rw [NS.out] at this; exact this
      have d1 : decide ((k : Int) < (nS : Int)) = true := by simp; omega
      have hkS' : (k : Int) < (nS : Int) := by omega
      obtain ⟨gs, rfl, s0, s1⟩ := (HS.out.below BWd.out).cell hp
      obtain ⟨ea', c', w6, hap, o6, g6⟩ := x_app wd OWd.out (Below.refl _ _) ⟨p.1, q.2, 3⟩ (by rw [HN.out]; omega) BWb.out.size
      rw [HN.out] at hap o6
      have O6 := hide o6
      have BG6 := hide (grown_below g6 (own_base OWd.out) BWb.out.size)
      have gn : ∀ x, x < wd.heap.size → some x ≠ (Value.slice ea (eX sz 5 S R k).length cp).ownBlock → w6.heap[x]? = wd.heap[x]? := fun x hx hne => g6.block x hx hne
      have EN : ∀ g, (Value.slice ea (eX sz 5 S R k).length cp).ownBlock = some g → g < wr.heap.size := fun g hg => own_lt2 OWo.out g hg
      have BX6 := hide ((BG6.out.block _ WBS.out).trans BXd.out)
      have QB6 := hide ((gn _ (heap_lt QB0.out) (fun e => by have := EN _ e.symm; omega)).trans QB0.out)
      clear hp o6 g6 gn EN
      go_upto_region 9 with fail
      go_region_law (refine step_append_run _ (by rfl) _ _ _ _ (by rfl) _ _ (by rfl) (by rfl) _ _ hap ?_)
      all_goals
       clear hap s0 s1 q0 q1 y0 y2
       have y0 : w6.cell? ⟨w.heap.size, 0, none⟩ = some (.int .i64 (sz : Int)) := cell_of BX6.out 0
       have y2 : w6.cell? ⟨w.heap.size, 2, none⟩ = some (.slice (some ⟨gs, 0, none⟩) nS sc) := cell_of BX6.out 2
       have q0 : w6.cell? ⟨wr.heap.size, 0, none⟩ = some (.int .i64 (q.1 : Int)) := cell_of QB6.out 0
       have BW6 := hide (BWd.out.trans (BG6.out.mono (by have := WBS.out; omega)))
       have BB6 := hide (BWb.out.trans BG6.out)
       obtain ⟨j, hj⟩ : ∃ j, k + sz = j := ⟨_, rfl⟩
       have HJ := hide hj
       have hj' : (k : Int) + (sz : Int) = (j : Int) := by omega
       have hjb : j ≤ 2000000000 := by omega
       have hjw : IntKind.i64.wrap (j : Int) = (j : Int) := by rw [IntKind.wrap_i64]; omega
       clear hj
       cases hp2 : S[j]? with
       | none =>
         have hkS2 : nS ≤ j := by have := List.getElem?_eq_none_iff.1 hp2; rw [NS.out] at this; exact this
         have d2 : decide ((j : Int) < (nS : Int)) = false := by simp; omega
         have E : Hid (eX sz 5 S R (k + 1) = eX sz 5 S R k ++ [⟨p.1, q.2, 3⟩]) := by
          show _ = _
          rw [eX_succ, eC_is HQ.out, HP.out, HJ.out, hp2]
          simp
         clear hp2
         go_wp2_with fail
         go_roundw
         case measure => simp [intOf]; omega
         case rel => exact ⟨k + 1, by omega, by simp, by rw [E.out]; exact O6.out, BB6.out⟩
       | some p2 =>
         have hkS2 : j < nS := by have := (List.getElem?_eq_some_iff.1 hp2).1; rw [NS.out] at this; exact this
         have d2 : decide ((j : Int) < (nS : Int)) = true := by simp; omega
         have ks0 : (0 : Int) ≤ (j : Int) := by omega
         have ks1 : (j : Int) < (nS : Int) := by omega
         obtain ⟨gs2, e2, s2, s3⟩ := (HS.out.below BW6.out).cell hp2
         obtain rfl : gs2 = gs := by cases e2; rfl
         have O6' : Ow w6 wb.heap.size (.slice ea' (eX sz 5 S R k ++ ([⟨p.1, q.2, 3⟩] : List Ed)).length c') (eX sz 5 S R k ++ ([⟨p.1, q.2, 3⟩] : List Ed)) := by
          have o := O6.out
          rw [show n + 1 = (eX sz 5 S R k ++ ([⟨p.1, q.2, 3⟩] : List Ed)).length by simp [HN.out]] at o
          exact o
         obtain ⟨ea2, c2, w8, hap2, o8, g8⟩ := x_app w6 O6' (Below.refl _ _) (⟨q.1, p2.2, 5⟩ : Ed) (by rw [List.length_append, HN.out]; simp; omega) BB6.out.size
         rw [show (eX sz 5 S R k ++ ([⟨p.1, q.2, 3⟩] : List Ed)).length = n + 1 by simp [HN.out]] at hap2 o8
         have E : Hid (eX sz 5 S R (k + 1) = (eX sz 5 S R k ++ [⟨p.1, q.2, 3⟩]) ++ [⟨q.1, p2.2, 5⟩]) := by
          show _ = _
          rw [eX_succ, eC_is HQ.out, HP.out, HJ.out, hp2]
          simp
         have O8 := hide o8
         have B8 := hide (BB6.out.trans (grown_below g8 (own_base O6') BB6.out.size))
         clear hp2 o8 g8 e2 O6'
         go_upto_region 11 with fail
         go_region_law (refine step_append_run _ (by rfl) _ _ _ _ (by rfl) _ _ (by rfl) (by rfl) _ _ hap2 ?_)
         all_goals
          clear hap2 s2 s3 q0 y0 y2
          go_wp2_with fail
          go_roundw
          case measure => simp [intOf]; omega
          case rel => exact ⟨k + 1, by omega, by simp, by rw [E.out]; exact O8.out, B8.out⟩
   ·have d : decide ((k : Int) < (nR : Int)) = false := by simp; omega
    have hk2 : k = nR := by omega
    subst hk2
    have O1 := hide OWo.out
    have BW := hide (btr B0.out HB.out)
    rw [HN.out] at O1
    clear hn y0 y2
    go_wp2_with fail
    go_ret
    exact ⟨_, rfl, O1.out.mono (by have := B0.out.size; omega), BW.out⟩
 ·have d0 : ((sz : Int) == 0) = false := by simp; omega
  obtain rfl : bk = 6 := by rw [hbk, if_neg h0]
  clear h0 hbk
  go_wp2_with fail
  go_loopw [4, 13] (fun ev iv wr => ∃ k : Nat, k ≤ nR ∧ iv = .int .i64 k ∧ Ow wr wb.heap.size ev (eX sz 6 S R k) ∧ Below wb.heap.size wb wr) (fun _ iv _ => nR - (intOf iv).toNat)
  case atStart => exact ⟨0, Nat.zero_le _, rfl, Ow.nil _ _, Below.refl _ _⟩
  case round =>
   obtain ⟨k, hk, rfl, ow, hb⟩ := hrel
   have HB := hide hb
   have BXr := hide (heap_below BX.out hb)
   clear y0 y2 y3
   have y0 : wr.cell? ⟨w.heap.size, 0, none⟩ = some (.int .i64 (sz : Int)) := cell_of BXr.out 0
   have y2 : wr.cell? ⟨w.heap.size, 2, none⟩ = some (.slice sa nS sc) := cell_of BXr.out 2
   obtain ⟨ea, cp, rfl, -, -⟩ := ow.sl
   have XL := eX_len sz 6 S R k
   obtain ⟨n, hn⟩ : ∃ n, (eX sz 6 S R k).length = n := ⟨_, rfl⟩
   have HN := hide hn
   have OWo := hide ow
   rw [hn] at XL ⊢
   clear ow hb
   by_cases hlt : k < nR
   ·have hlt' : (k : Int) < (nR : Int) := by omega
    have k0 : (0 : Int) ≤ (k : Int) := by omega
    obtain ⟨q, hq⟩ : ∃ q, R[k]? = some q := ⟨_, List.getElem?_eq_getElem (by rw [NR.out]; omega)⟩
    have BW := hide (btr B0.out HB.out)
    obtain ⟨gr, rfl, r0, r1⟩ := (HRR.out.below BW.out).cell hq
    have HQ := hide hq
    clear hq hn
    go_upto_region 8 with fail
    have QB0 := hide (heap_new wr (.cells #[.int .i64 (q.1 : Int), .int .i64 (q.2 : Int)] 125))
    have BD := hide (below_alloc wr (.cells #[.int .i64 (q.1 : Int), .int .i64 (q.2 : Int)] 125))
    generalize wr.alloc (.cells #[.int .i64 (q.1 : Int), .int .i64 (q.2 : Int)] 125) = wd at *
    have OWd := hide (OWo.out.below BD.out)
    have OWn : Hid (Ow wd wb.heap.size (.slice ea n cp) (eX sz 6 S R k)) := by have O := OWd.out; rw [HN.out] at O; exact O
    have BXd := hide (heap_below BXr.out BD.out)
    clear y0 y2 r0 r1
    have y0 : wd.cell? ⟨w.heap.size, 0, none⟩ = some (.int .i64 (sz : Int)) := cell_of BXd.out 0
    have y2 : wd.cell? ⟨w.heap.size, 2, none⟩ = some (.slice sa nS sc) := cell_of BXd.out 2
    have q0 : wd.cell? ⟨wr.heap.size, 0, none⟩ = some (.int .i64 (q.1 : Int)) := cell_of QB0.out 0
    have q1 : wd.cell? ⟨wr.heap.size, 1, none⟩ = some (.int .i64 (q.2 : Int)) := cell_of QB0.out 1
    have WLT : Hid (w.heap.size < wr.heap.size) := heap_lt BXr.out
    have BWd := hide (btr BW.out BD.out)
    have BWb := hide (btr HB.out BD.out)
    have WBS : Hid (w.heap.size < wb.heap.size) := heap_lt BX.out
    cases hp : S[k]? with
    | none =>
      have hkS : nS ≤ k := by have := List.getElem?_eq_none_iff.1 hp; rw [NS.out] at this; exact this
      have d1 : decide ((k : Int) < (nS : Int)) = false := by simp; omega
      have hp2 : S[k + sz]? = none := List.getElem?_eq_none_iff.2 (by rw [NS.out]; omega)
      have d2 : decide ((k : Int) + (sz : Int) < (nS : Int)) = false := by simp; omega
      have E : Hid (eX sz 6 S R (k + 1) = eX sz 6 S R k) := by
       show _ = _
       rw [eX_succ, eC_is HQ.out, hp, hp2]
       simp
      clear hp hp2
      go_wp2_with fail
      go_roundw
      case measure => simp [intOf]; omega
      case rel => exact ⟨k + 1, by omega, by simp, by rw [E.out]; exact OWn.out, btr HB.out BD.out⟩
    | some p =>
      have HP := hide hp
      have hkS : k < nS := by have := (List.getElem?_eq_some_iff.1 hp).1; rw [NS.out] at this; exact this
      have d1 : decide ((k : Int) < (nS : Int)) = true := by simp; omega
      have hkS' : (k : Int) < (nS : Int) := by omega
      obtain ⟨gs, rfl, s0, s1⟩ := (HS.out.below BWd.out).cell hp
      obtain ⟨ea', c', w6, hap, o6, g6⟩ := x_app wd OWd.out (Below.refl _ _) ⟨p.1, q.2, 3⟩ (by rw [HN.out]; omega) BWb.out.size
      rw [HN.out] at hap o6
      have O6 := hide o6
      have BG6 := hide (grown_below g6 (own_base OWd.out) BWb.out.size)
      have gn : ∀ x, x < wd.heap.size → some x ≠ (Value.slice ea (eX sz 6 S R k).length cp).ownBlock → w6.heap[x]? = wd.heap[x]? := fun x hx hne => g6.block x hx hne
      have EN : ∀ g, (Value.slice ea (eX sz 6 S R k).length cp).ownBlock = some g → g < wr.heap.size := fun g hg => own_lt2 OWo.out g hg
      have BX6 := hide ((BG6.out.block _ WBS.out).trans BXd.out)
      have QB6 := hide ((gn _ (heap_lt QB0.out) (fun e => by have := EN _ e.symm; omega)).trans QB0.out)
      clear hp o6 g6 gn EN
      go_upto_region 9 with fail
      go_region_law (refine step_append_run _ (by rfl) _ _ _ _ (by rfl) _ _ (by rfl) (by rfl) _ _ hap ?_)
      all_goals
       clear hap s0 s1 q0 q1 y0 y2
       have y0 : w6.cell? ⟨w.heap.size, 0, none⟩ = some (.int .i64 (sz : Int)) := cell_of BX6.out 0
       have y2 : w6.cell? ⟨w.heap.size, 2, none⟩ = some (.slice (some ⟨gs, 0, none⟩) nS sc) := cell_of BX6.out 2
       have q0 : w6.cell? ⟨wr.heap.size, 0, none⟩ = some (.int .i64 (q.1 : Int)) := cell_of QB6.out 0
       have BW6 := hide (BWd.out.trans (BG6.out.mono (by have := WBS.out; omega)))
       have BB6 := hide (BWb.out.trans BG6.out)
       obtain ⟨j, hj⟩ : ∃ j, k + sz = j := ⟨_, rfl⟩
       have HJ := hide hj
       have hj' : (k : Int) + (sz : Int) = (j : Int) := by omega
       have hjb : j ≤ 2000000000 := by omega
       have hjw : IntKind.i64.wrap (j : Int) = (j : Int) := by rw [IntKind.wrap_i64]; omega
       clear hj
       cases hp2 : S[j]? with
       | none =>
         have hkS2 : nS ≤ j := by have := List.getElem?_eq_none_iff.1 hp2; rw [NS.out] at this; exact this
         have d2 : decide ((j : Int) < (nS : Int)) = false := by simp; omega
         have E : Hid (eX sz 6 S R (k + 1) = eX sz 6 S R k ++ [⟨p.1, q.2, 3⟩]) := by
          show _ = _
          rw [eX_succ, eC_is HQ.out, HP.out, HJ.out, hp2]
          simp
         clear hp2
         go_wp2_with fail
         go_roundw
         case measure => simp [intOf]; omega
         case rel => exact ⟨k + 1, by omega, by simp, by rw [E.out]; exact O6.out, BB6.out⟩
       | some p2 =>
         have hkS2 : j < nS := by have := (List.getElem?_eq_some_iff.1 hp2).1; rw [NS.out] at this; exact this
         have d2 : decide ((j : Int) < (nS : Int)) = true := by simp; omega
         have ks0 : (0 : Int) ≤ (j : Int) := by omega
         have ks1 : (j : Int) < (nS : Int) := by omega
         obtain ⟨gs2, e2, s2, s3⟩ := (HS.out.below BW6.out).cell hp2
         obtain rfl : gs2 = gs := by cases e2; rfl
         have O6' : Ow w6 wb.heap.size (.slice ea' (eX sz 6 S R k ++ ([⟨p.1, q.2, 3⟩] : List Ed)).length c') (eX sz 6 S R k ++ ([⟨p.1, q.2, 3⟩] : List Ed)) := by
          have o := O6.out
          rw [show n + 1 = (eX sz 6 S R k ++ ([⟨p.1, q.2, 3⟩] : List Ed)).length by simp [HN.out]] at o
          exact o
         obtain ⟨ea2, c2, w8, hap2, o8, g8⟩ := x_app w6 O6' (Below.refl _ _) (⟨q.1, p2.2, 6⟩ : Ed) (by rw [List.length_append, HN.out]; simp; omega) BB6.out.size
         rw [show (eX sz 6 S R k ++ ([⟨p.1, q.2, 3⟩] : List Ed)).length = n + 1 by simp [HN.out]] at hap2 o8
         have E : Hid (eX sz 6 S R (k + 1) = (eX sz 6 S R k ++ [⟨p.1, q.2, 3⟩]) ++ [⟨q.1, p2.2, 6⟩]) := by
          show _ = _
          rw [eX_succ, eC_is HQ.out, HP.out, HJ.out, hp2]
          simp
         have O8 := hide o8
         have B8 := hide (BB6.out.trans (grown_below g8 (own_base O6') BB6.out.size))
         clear hp2 o8 g8 e2 O6'
         go_upto_region 11 with fail
         go_region_law (refine step_append_run _ (by rfl) _ _ _ _ (by rfl) _ _ (by rfl) (by rfl) _ _ hap2 ?_)
         all_goals
          clear hap2 s2 s3 q0 y0 y2
          go_wp2_with fail
          go_roundw
          case measure => simp [intOf]; omega
          case rel => exact ⟨k + 1, by omega, by simp, by rw [E.out]; exact O8.out, B8.out⟩
   ·have d : decide ((k : Int) < (nR : Int)) = false := by simp; omega
    have hk2 : k = nR := by omega
    subst hk2
    have O1 := hide OWo.out
    have BW := hide (btr B0.out HB.out)
    rw [HN.out] at O1
    clear hn y0 y2
    go_wp2_with fail
    go_ret
    exact ⟨_, rfl, O1.out.mono (by have := B0.out.size; omega), BW.out⟩
end Eg
end Go.Proofs.YtblfimobiibmjaaGreat
namespace Go.Proofs.YtblfimobiibmjaaGreat
open Go.ChangeShapes Go.WideShapes Go.ChangeAt Go.RowKit
namespace Eg
open En Gu Ba
set_option maxRecDepth 100000 in
set_option maxHeartbeats 12800000 in
theorem channels_any (oa : Option Addr) (l : List Ev) (c : Nat) (w : World) (hA : EsAt w oa l) (h : Tok l) (hl : l.length ≤ 2000) :
 Calls Tryz.prog 36 #[.slice oa l.length c] w fun r w' => ∃ v, r = .returned v ∧ Ow w' w.heap.size v (clE l l.length ++ (List.range (mkN l)).flatMap fun (c : Nat) => chE l (c : Int)) ∧ Below w.heap.size w w' := by
 have GO := hide (chans_any oa l c w hA (by omega) (hw_c h))
 rw [chn_is h hl] at GO
 have HA := hide hA
 have H := hide h
 have TL := mkN_le l
 obtain ⟨L, hM⟩ : ∃ L, l.length = L := ⟨_, rfl⟩
 obtain ⟨C, hG⟩ : ∃ C, mkN l = C := ⟨_, rfl⟩
 have HM := hide hM
 have HG := hide hG
 rw [hM, hG] at GO
 rw [hM, hG] at TL
 rw [hM] at hl
 rw [hM, hG]
 clear hA h hM hG
 go_enter Tryz.func36, Tryz.ntmps36
 go_wp2_with fail
 refine GO.out.mono ?_
 rintro r w1 ⟨rfl, b1⟩
 have mk := mk_ch w1 C (by omega)
 obtain ⟨W2, hW2⟩ : ∃ W2, w1.alloc (.cells (madeCells #[.int .i64 0, .int .i64 0, .slice none 0 0, .slice none 0 0] (C * 4)) 123) = W2 := ⟨_, rfl⟩
 rw [hW2] at mk
 have I0 : Hid (ChI w w1.heap.size C l (.slice none 0 0) W2 0) := by
  refine ⟨Nat.zero_le _, ?_, ⟨fun _ _ => .slice none 0 0, ⟨⟨_, by rw [← hW2]; exact heap_new _ _, size_madeCells _ _, fun g hg => made4 C g hg⟩, fun c hc b => ⟨rfl, .inl ⟨rfl, rfl⟩⟩, fun _ _ _ _ _ _ _ g hg => by simp [Value.ownBlock] at hg⟩⟩, Ow.nil _ _⟩
  rw [← hW2]
  exact btr b1 (below_alloc _ _)
 have S1 : Hid (w.heap.size ≤ w1.heap.size) := b1.size
 generalize w1.heap.size = M at *
 clear hW2 b1 GO
 go_wp2_with fail
 go_loopw [3, 15] (fun ed iv wr => ∃ k : Nat, iv = .int .i64 k ∧ ChI w M C l ed wr k) (fun _ iv _ => L - (intOf iv).toNat)
 case atStart => exact ⟨0, rfl, I0.out⟩
 case round =>
  obtain ⟨k, rfl, I⟩ := hrel
  have hkM : k ≤ L := by rw [← HM.out]; exact I.le
  have CEL := ce_len l k
  obtain ⟨ea, cp, rfl, -, -⟩ := I.ed.sl
  have HI := hide I
  obtain ⟨n, hn⟩ : ∃ n, (clE l k).length = n := ⟨_, rfl⟩
  have HN := hide hn
  rw [hn] at HI CEL ⊢
  by_cases hlt : k < L
  ·obtain ⟨e, he⟩ : ∃ e, l[k]? = some e := ⟨_, List.getElem?_eq_getElem (by rw [HM.out]; omega)⟩
   have EA := hide (HA.out.below I.bl)
   obtain ⟨bb, oo, rfl, -⟩ := EA.out k e he
   obtain ⟨p0, p1, p2, p3, p4, p5, p6, p7⟩ := EA.out.read he
   have hlt' : (k : Int) < (L : Int) := by omega
   have k0 : (0 : Int) ≤ (k : Int) := by omega
   have HE := hide he
   by_cases hc1 : e.c = -1
   ·have d1 : (e.c == -1) = true := by simp [hc1]
    have HC1 := hide hc1
    clear I hn he hc1
    go_wp2_with fail
    go_roundw
    case measure => simp [intOf]; omega
    case rel => exact ⟨k + 1, by simp, (HI.out.below (below_alloc _ _)).skip HE.out (.inl HC1.out)⟩
   ·obtain ⟨d, hd, hdC⟩ := H.out.cl_ he (by have := H.out.c1 he; omega)
    rw [HG.out] at hdC
    have hdC' : (d : Int) < (C : Int) := by omega
    have d0 : (0 : Int) ≤ (d : Int) := by omega
    have d1 : ((d : Int) == -1) = false := by simp
    have HD := hide hd
    rw [hd] at p2
    have EB0 := hide (heap_new wr ((.cells #[.int .i64 e.k, .int .i64 e.g, .int .i64 e.c, .int .i64 e.a, .int .i64 e.v, .int .i64 e.m, .bool e.s, .bool e.o] 50)))
    have I1 := hide (HI.out.below (below_alloc wr ((.cells #[.int .i64 e.k, .int .i64 e.g, .int .i64 e.c, .int .i64 e.a, .int .i64 e.v, .int .i64 e.m, .bool e.s, .bool e.o] 50))))
    have EB1 := hide (EA.out.below (below_alloc wr ((.cells #[.int .i64 e.k, .int .i64 e.g, .int .i64 e.c, .int .i64 e.a, .int .i64 e.v, .int .i64 e.m, .bool e.s, .bool e.o] 50))))
    have BA := hide (below_alloc wr ((.cells #[.int .i64 e.k, .int .i64 e.g, .int .i64 e.c, .int .i64 e.a, .int .i64 e.v, .int .i64 e.m, .bool e.s, .bool e.o] 50)))
    rw [hd] at EB0 I1 EB1 BA
    clear I hn he hc1 hd
    go_upto_region 8 with fail
    generalize wr.alloc ((.cells #[.int .i64 e.k, .int .i64 e.g, .int .i64 (d : Int), .int .i64 e.a, .int .i64 e.v, .int .i64 e.m, .bool e.s, .bool e.o] 50)) = w1 at *
    clear p0 p1 p2 p3 p4 p5 p6 p7
    have p0 : w1.cell? ⟨wr.heap.size, 0, none⟩ = some (.int .i64 e.k) := cell_of EB0.out 0
    have p4 : w1.cell? ⟨wr.heap.size, 4, none⟩ = some (.int .i64 e.v) := cell_of EB0.out 4
    have p7 : w1.cell? ⟨wr.heap.size, 7, none⟩ = some (.bool e.o) := cell_of EB0.out 7
    obtain ⟨vs, cm⟩ := I1.out.cm
    have CMH := hide cm
    obtain ⟨y0, y1, y2, y3⟩ := cm.read hdC
    have f0 := cm.fr (d * 4)
    have f1 := cm.fr (d * 4 + 1)
    have f2 := cm.fr (d * 4 + 2)
    have f3 := cm.fr (d * 4 + 3)
    clear cm
    by_cases h2 : e.k = 2
    ·have b2 : (e.k == 2) = true := by simp [h2]
     have H2 := hide h2
     clear h2
     go_wp2_with fail
     go_roundw
     case measure => simp [intOf]; omega
     case rel => exact ⟨k + 1, by simp, I1.out.make S1.out HE.out HD.out hdC H2.out⟩
    have b2 : (e.k == 2) = false := by simp [h2]
    by_cases h5 : e.k = 5
    ·have b5 : (e.k == 5) = true := by simp [h5]
     have H5 := hide h5
     clear h2 h5
     go_wp2_with fail
     go_roundw
     case measure => simp [intOf]; omega
     case rel => exact ⟨k + 1, by simp, I1.out.shut S1.out HE.out HD.out hdC H5.out⟩
    have b5 : (e.k == 5) = false := by simp [h5]
    by_cases h3 : e.k = 3
    ·have mv : moves e = true := by unfold moves; simp [h3]
     have es : e.s = true := (H.out.at HE.out).fit.s3 h3
     have b3 : (e.k == 3) = true := by simp [h3]
     have MV := hide mv
     have ES := hide es
     clear h2 h5 h3 mv es
     have bgL : bg l k ≤ k := bg_le k
     have DL1 := dl_len l (d : Int) true k
     have DL2 := dl_len l (d : Int) false k
     have SVL : (svL l k e).length ≤ 1 := by unfold svL; split <;> simp
     obtain ⟨oa1, cp1, hv1, -, -⟩ := (CMH.out.od d hdC true).sl
     obtain ⟨oa3, cp3, hv3, -, -⟩ := (CMH.out.od d hdC false).sl
     have DA := hide (fun u (b : Below w1.heap.size w1 u) => dealAt_any _ l c k u (EB1.out.below b) H.out (by rw [HM.out]; exact hlt) (by rw [HM.out]; exact hl))
     have AP := hide (fun w4 (b4 : Below w1.heap.size w1 w4) => put_app CMH.out hdC true (btr b4 (below_alloc w4 (.cells #[.int .i64 ((bg l k : Nat) : Int), .int .i64 ((k : Nat) : Int)] 125))) (od_one (x := (bg l k, k)) (heap_new w4 _)) (by unfold dlK; simp only [List.length_cons, List.length_nil]; omega))
     simp only [hv1, if_true] at AP
     rw [hv1] at y2
     rw [HM.out] at DA
     obtain ⟨m1, hm1⟩ : ∃ m, (dlK l k d true).length = m := ⟨_, rfl⟩
     rw [hm1] at y2
     simp only [hm1] at AP
     obtain ⟨B, hB⟩ : ∃ B, ((bg l k : Nat) : Int) = B := ⟨_, rfl⟩
     rw [hB] at DA
     simp only [hB] at AP
     have YO := hide y2
     clear hm1 hB
     go_upto_region 13 with fail
     go_region_law (first
      | (refine step_append_run _ (by rfl) _ _ _ _ (by rfl) _ _ (by rfl) (by rfl) _ _ hap ?_)
      | (go_simp; go_wp2_with (go_at_call 65; refine (DA.out _ (bdrew1 _)).mono ?_; rintro r w4 ⟨rfl, b4⟩; obtain ⟨oa2, n2, c2, w6, hap, ⟨u6, y6⟩, f6, cm6, bl6, ke6⟩ := AP.out w4 (btr (bdrew1 _) b4); have yy : w4.cell? ⟨M, d * 4 + 2, none⟩ = some (.slice oa1 m1 cp1) := cellB YO.out (btr (bdrew1 _) b4); have yy2 : (w4.alloc (.cells #[.int .i64 B, .int .i64 (k : Int)] 125)).cell? ⟨M, d * 4 + 2, none⟩ = some (.slice oa1 m1 cp1) := cellB yy (below_alloc _ _); have CM6 := hide cm6; have BL6 := hide bl6; have KE6 := hide ke6; clear cm6 bl6 ke6)))
     all_goals
      generalize w6.setCell ⟨M, d * 4 + 2, none⟩ (.slice oa2 n2 c2) = w7 at *
      clear hap yy yy2 y6 f6 AP DA y0 y1 y2 y3 f0 f1 f2 f3 p0 p4 p7 YO hv1
      have BW7 := hide (I1.out.bl.trans (BL6.out.mono S1.out))
      have SV := hide (fun u (b : Below w7.heap.size w7 u) => service_any _ l c k e u (HA.out.below (btr BW7.out b)) H.out HE.out (by rw [HM.out]; exact hl))
      rw [HM.out] at SV
      obtain ⟨m3, hm3⟩ : ∃ m, (dlK l k d false).length = m := ⟨_, rfl⟩
      have AP2 := hide (fun w4 (b4 : Below w7.heap.size w7 w4) B2 v2 (o : Od w4 B2 v2 (svL l k e)) => put_app CM6.out hdC false b4 o (by show (if d = d ∧ false = true then dlK l k d true ++ [(bg l k, k)] else dlK l k d false).length + _ ≤ _; rw [if_neg (by simp)]; unfold dlK; omega))
      simp only [Bool.false_eq_true, if_false, hv3, hm3, and_false] at AP2
      have yt : w7.cell? ⟨M, d * 4 + 3, none⟩ = some (.slice oa3 m3 cp3) := by
       have q := (CM6.out.read hdC).2.2.2
       simp only [Bool.false_eq_true, if_false, hv3, hm3, and_false] at q
       exact q
      have ft : w7.frozen? ⟨M, d * 4 + 3, none⟩ = false := CM6.out.fr _
      have YT := hide yt
      obtain ⟨nv, hnv⟩ : ∃ m, (svL l k e).length = m := ⟨_, rfl⟩
      have NV := hide hnv
      clear hm3 hv3 hnv
      go_upto_region 14 with fail
      go_region_law (first
       | (refine step_append_run _ (by rfl) _ _ _ _ (by rfl) _ _ (by rfl) (by rfl) _ _ hap2 ?_)
       | (go_simp; go_wp2_with (go_at_call 66; refine (SV.out _ (bdrew1 _)).mono ?_; rintro r w4 ⟨⟨v2, rfl, o4⟩, b4⟩; obtain ⟨ov, cv, rfl, -, -⟩ := o4.sl; obtain ⟨oa4, n4, c4, w8, hap2, ⟨u8, y8⟩, f8, cm8, bl8, ke8⟩ := AP2.out w4 (btr (bdrew1 _) b4) _ _ o4; have yy8 : w4.cell? ⟨M, d * 4 + 3, none⟩ = some (.slice oa3 m3 cp3) := cellB YT.out (btr (bdrew1 _) b4); rw [NV.out] at hap2 ⊢; have CM8 := hide cm8; have BL8 := hide bl8; have KE8 := hide ke8; clear cm8 bl8 ke8 o4)))
      all_goals
       generalize w8.setCell ⟨M, d * 4 + 3, none⟩ (.slice oa4 n4 c4) = w9 at *
       clear hap2 yy8 y8 f8 AP2 SV yt ft YT
       go_wp2_with fail
       go_roundw
       case measure => simp [intOf]; omega
       case rel => exact ⟨k + 1, by simp, ChI.deal (by rw [HM.out]; exact hlt) HE.out H.out HD.out MV.out (BW7.out.trans (BL8.out.mono S1.out)) (by have q := KE8.out _ _ (KE6.out _ _ I1.out.ed); exact q) (by simp only [ES.out]; exact CM8.out.congr (fun _ _ => rfl) (fun _ _ => rfl) (fun y _ b => by cases b <;> by_cases hy : y = d <;> simp [hy]) (fun _ _ _ => rfl))⟩
    have b3 : (e.k == 3) = false := by simp [h3]
    cases ho : e.o
    ·have HO := hide ho
     rw [ho] at p7
     clear ho
     by_cases h47 : e.k = 4 ∨ e.k = 7
     ·have hap0 : ∃ ea' c' w6, (Builtin.append_ #[24, 24] 24 #[.slice ea n cp, .slice (some ⟨w1.heap.size, 0, none⟩) 1 1]).run Tryz.prog (w1.alloc (.cells #[.int .i64 (clK l k d : Int), .int .i64 (k : Int), .int .i64 4] 70)) = .ok (.slice ea' (n + 1) c') w6 ∧ ChI w M C l (.slice ea' (n + 1) c') w6 (k + 1) := by
       have I2 := I1.out.below (below_alloc w1 (.cells #[.int .i64 (clK l k d : Int), .int .i64 (k : Int), .int .i64 4] 70))
       obtain ⟨ea', c', w6, h1, h2_, h3_, -⟩ := app_ed _ (M + 1) (.slice ea n cp) (clE l k) [⟨clK l k d, k, 4⟩] n HN.out.symm (by have q := I2.ed; unfold Ow at q; rw [HN.out] at q; exact q) ⟨w1.heap.size, 0, none⟩ 1 1 rfl (fun j u hj => by rw [Addr.add_lit, Nat.zero_add, cell_of (heap_new w1 _)]; simpa [edc] using hj) (by omega) (by obtain ⟨vs, cm⟩ := I2.cm; have := cm.lt; omega)
       refine ⟨ea', c', w6, h1, I2.none HE.out HD.out ⟨h47, HO.out⟩ h3_ ?_ S1.out⟩
       unfold Ow
       rw [List.length_append, HN.out]
       exact h2_
      obtain ⟨ea', c', w6, hap, I6⟩ := hap0
      have HI6 := hide I6
      clear I6
      by_cases h4 : e.k = 4
      ·have b4 : (e.k == 4) = true := by simp [h4]
       clear h2 h5 h3 h4 h47
       go_wp2_with (at_builtin; refine Lib.wpList_append_run _ (by rfl) _ _ _ _ (by rfl) _ _ (by rfl) (by rfl) _ _ hap ?_)
       go_roundw
       case measure => simp [intOf]; omega
       case rel => exact ⟨k + 1, by simp, HI6.out⟩
      ·have h7 : e.k = 7 := by omega
       have b4 : (e.k == 4) = false := by simp [h4]
       have b7 : (e.k == 7) = true := by simp [h7]
       clear h2 h5 h3 h4 h47 h7
       go_wp2_with (at_builtin; refine Lib.wpList_append_run _ (by rfl) _ _ _ _ (by rfl) _ _ (by rfl) (by rfl) _ _ hap ?_)
       go_roundw
       case measure => simp [intOf]; omega
       case rel => exact ⟨k + 1, by simp, HI6.out⟩
     ·have b4 : (e.k == 4) = false := by simp; omega
      have b7 : (e.k == 7) = false := by simp; omega
      have SK : Hid (e.k ≠ 2 ∧ e.k ≠ 5 ∧ moves e = false ∧ ¬ ((e.k = 4 ∨ e.k = 7) ∧ e.o = false)) := ⟨h2, h5, by unfold moves; simp [h3, HO.out], fun z => h47 z.1⟩
      clear h2 h5 h3 h47
      go_wp2_with fail
      go_roundw
      case measure => simp [intOf]; omega
      case rel => exact ⟨k + 1, by simp, I1.out.skip HE.out (.inr SK.out)⟩
    ·have HO := hide ho
     rw [ho] at p7
     clear ho
     by_cases h4 : e.k = 4
     ·have mv : moves e = true := by unfold moves; simp [h4, HO.out]
      have es : e.s = false := (H.out.at HE.out).fit.s4 h4
      have b4 : (e.k == 4) = true := by simp [h4]
      have MV := hide mv
      have ES := hide es
      clear h2 h5 h3 h4 mv es
      have bgL : bg l k ≤ k := bg_le k
      have DL1 := dl_len l (d : Int) false k
      have DL2 := dl_len l (d : Int) true k
      have SVL : (svL l k e).length ≤ 1 := by unfold svL; split <;> simp
      obtain ⟨oa1, cp1, hv1, -, -⟩ := (CMH.out.od d hdC false).sl
      obtain ⟨oa3, cp3, hv3, -, -⟩ := (CMH.out.od d hdC true).sl
      have DA := hide (fun u (b : Below w1.heap.size w1 u) => dealAt_any _ l c k u (EB1.out.below b) H.out (by rw [HM.out]; exact hlt) (by rw [HM.out]; exact hl))
      have AP := hide (fun w4 (b4 : Below w1.heap.size w1 w4) => put_app CMH.out hdC false (btr b4 (below_alloc w4 (.cells #[.int .i64 ((bg l k : Nat) : Int), .int .i64 ((k : Nat) : Int)] 125))) (od_one (x := (bg l k, k)) (heap_new w4 _)) (by unfold dlK; simp only [List.length_cons, List.length_nil]; omega))
      simp only [hv1, if_false, Bool.false_eq_true] at AP
      rw [hv1] at y3
      rw [HM.out] at DA
      obtain ⟨m1, hm1⟩ : ∃ m, (dlK l k d false).length = m := ⟨_, rfl⟩
      rw [hm1] at y3
      simp only [hm1] at AP
      obtain ⟨B, hB⟩ : ∃ B, ((bg l k : Nat) : Int) = B := ⟨_, rfl⟩
      rw [hB] at DA
      simp only [hB] at AP
      have YO := hide y3
      clear hm1 hB
      go_upto_region 16 with fail
      go_region_law (first
       | (refine step_append_run _ (by rfl) _ _ _ _ (by rfl) _ _ (by rfl) (by rfl) _ _ hap ?_)
       | (go_simp; go_wp2_with (go_at_call 65; refine (DA.out _ (bdrew1 _)).mono ?_; rintro r w4 ⟨rfl, b4⟩; obtain ⟨oa2, n2, c2, w6, hap, ⟨u6, y6⟩, f6, cm6, bl6, ke6⟩ := AP.out w4 (btr (bdrew1 _) b4); have yy : w4.cell? ⟨M, d * 4 + 3, none⟩ = some (.slice oa1 m1 cp1) := cellB YO.out (btr (bdrew1 _) b4); have yy2 : (w4.alloc (.cells #[.int .i64 B, .int .i64 (k : Int)] 125)).cell? ⟨M, d * 4 + 3, none⟩ = some (.slice oa1 m1 cp1) := cellB yy (below_alloc _ _); have CM6 := hide cm6; have BL6 := hide bl6; have KE6 := hide ke6; clear cm6 bl6 ke6)))
      all_goals
       generalize w6.setCell ⟨M, d * 4 + 3, none⟩ (.slice oa2 n2 c2) = w7 at *
       clear hap yy yy2 y6 f6 AP DA y0 y1 y2 y3 f0 f1 f2 f3 p0 p4 p7 YO hv1
       have BW7 := hide (I1.out.bl.trans (BL6.out.mono S1.out))
       have SV := hide (fun u (b : Below w7.heap.size w7 u) => service_any _ l c k e u (HA.out.below (btr BW7.out b)) H.out HE.out (by rw [HM.out]; exact hl))
       rw [HM.out] at SV
       obtain ⟨m3, hm3⟩ : ∃ m, (dlK l k d true).length = m := ⟨_, rfl⟩
       have AP2 := hide (fun w4 (b4 : Below w7.heap.size w7 w4) B2 v2 (o : Od w4 B2 v2 (svL l k e)) => put_app CM6.out hdC true b4 o (by show (if d = d ∧ true = false then dlK l k d false ++ [(bg l k, k)] else dlK l k d true).length + _ ≤ _; rw [if_neg (by simp)]; unfold dlK; omega))
       simp only [Bool.true_eq_false, if_false, hv3, hm3, if_true, and_false] at AP2
       have yt : w7.cell? ⟨M, d * 4 + 2, none⟩ = some (.slice oa3 m3 cp3) := by
        have q := (CM6.out.read hdC).2.2.1
        simp only [Bool.true_eq_false, if_false, hv3, hm3, and_false] at q
        exact q
       have ft : w7.frozen? ⟨M, d * 4 + 2, none⟩ = false := CM6.out.fr _
       have YT := hide yt
       obtain ⟨nv, hnv⟩ : ∃ m, (svL l k e).length = m := ⟨_, rfl⟩
       have NV := hide hnv
       clear hm3 hv3 hnv
       go_upto_region 17 with fail
       go_region_law (first
        | (refine step_append_run _ (by rfl) _ _ _ _ (by rfl) _ _ (by rfl) (by rfl) _ _ hap2 ?_)
        | (go_simp; go_wp2_with (go_at_call 66; refine (SV.out _ (bdrew1 _)).mono ?_; rintro r w4 ⟨⟨v2, rfl, o4⟩, b4⟩; obtain ⟨ov, cv, rfl, -, -⟩ := o4.sl; obtain ⟨oa4, n4, c4, w8, hap2, ⟨u8, y8⟩, f8, cm8, bl8, ke8⟩ := AP2.out w4 (btr (bdrew1 _) b4) _ _ o4; have yy8 : w4.cell? ⟨M, d * 4 + 2, none⟩ = some (.slice oa3 m3 cp3) := cellB YT.out (btr (bdrew1 _) b4); rw [NV.out] at hap2 ⊢; have CM8 := hide cm8; have BL8 := hide bl8; have KE8 := hide ke8; clear cm8 bl8 ke8 o4)))
       all_goals
        generalize w8.setCell ⟨M, d * 4 + 2, none⟩ (.slice oa4 n4 c4) = w9 at *
        clear hap2 yy8 y8 f8 AP2 SV yt ft YT
        go_wp2_with fail
        go_roundw
        case measure => simp [intOf]; omega
        case rel => exact ⟨k + 1, by simp, ChI.deal (by rw [HM.out]; exact hlt) HE.out H.out HD.out MV.out (BW7.out.trans (BL8.out.mono S1.out)) (by have q := KE8.out _ _ (KE6.out _ _ I1.out.ed); exact q) (by simp only [ES.out]; exact CM8.out.congr (fun _ _ => rfl) (fun _ _ => rfl) (fun y _ b => by cases b <;> by_cases hy : y = d <;> simp [hy]) (fun _ _ _ => rfl))⟩
     ·have b4 : (e.k == 4) = false := by simp [h4]
      have SK : Hid (e.k ≠ 2 ∧ e.k ≠ 5 ∧ moves e = false ∧ ¬ ((e.k = 4 ∨ e.k = 7) ∧ e.o = false)) := ⟨h2, h5, by unfold moves; simp [h3, h4], fun z => by rw [HO.out] at z; exact absurd z.2 (by decide)⟩
      clear h2 h5 h3 h4
      cases b7 : (e.k == 7)
      ·go_wp2_with fail
       go_roundw
       case measure => simp [intOf]; omega
       case rel => exact ⟨k + 1, by simp, I1.out.skip HE.out (.inr SK.out)⟩
      ·go_wp2_with fail
       go_roundw
       case measure => simp [intOf]; omega
       case rel => exact ⟨k + 1, by simp, I1.out.skip HE.out (.inr SK.out)⟩
  ·have dl_ : decide ((k : Int) < (L : Int)) = false := by simp; omega
   have hk : k = L := by omega
   subst hk
   obtain ⟨vs, cm⟩ := I.cm
   have CMH := hide cm
   have BL := hide I.bl
   have ED0 := hide I.ed
   clear I hlt hn HI cm
   go_wp2_with fail
   go_loopw [3, 126] (fun ed iv w3 => ∃ j : Nat, j ≤ C ∧ iv = .int .i64 j ∧ Ow w3 (M + 1) ed (clE l k ++ chs l j) ∧ CM w3 M C (szK l k) (clK l k) (dlK l k) vs ∧ Below w.heap.size w w3) (fun _ iv _ => C - (intOf iv).toNat)
   case atStart => exact ⟨0, Nat.zero_le _, rfl, by have q := ED0.out; rw [HN.out] at q; simpa [chs] using q, CMH.out, BL.out⟩
   case round =>
    rename World => w3
    obtain ⟨j, hj, rfl, ow, cm, bl⟩ := hrel
    have CLN := ce_len l k
    have CHN := chs_len l j
    rw [HM.out] at CHN
    have OW := hide ow
    have CM3 := hide cm
    have BL3 := hide bl
    have hTN : j * (2 * k) ≤ 2000 * 4000 := Nat.mul_le_mul (by omega) (by omega)
    obtain ⟨ea, cp, rfl, -, -⟩ := ow.sl
    obtain ⟨N, hN⟩ : ∃ N, (clE l k ++ chs l j).length = N := ⟨_, rfl⟩
    have HNN := hide hN
    have hNb : N ≤ 9000000 := by rw [← hN, List.length_append]; omega
    rw [hN] at OW ⊢
    clear ow bl hN
    by_cases hlt : j < C
    ·have hlt' : (j : Int) < (C : Int) := by omega
     have j0 : (0 : Int) ≤ (j : Int) := by omega
     obtain ⟨y0, y1, y2, y3⟩ := cm.read hlt
     obtain ⟨sa, sc, hv1, -, -⟩ := (cm.od j hlt true).sl
     obtain ⟨ra, rc, hv2, -, -⟩ := (cm.od j hlt false).sl
     obtain ⟨e1, e2⟩ := sz_is H.out j
     rw [HM.out] at e1
     rw [hv1] at y2
     rw [hv2] at y3
     rw [e1] at y0
     have ES := hide (eX_is l (j : Int))
     have D1 := dl_len l (j : Int) true k
     have D2 := dl_len l (j : Int) false k
     rw [HM.out] at ES
     have EDG := hide (fun u (b : Below w3.heap.size w3 u) => edges_any (szF l (j : Int)) (clK l k j : Int) (vs j true) (vs j false) (dlK l k j true) (dlK l k j false) (M + 1) (M + 1) u ((CM3.out.below b).od j hlt true) ((CM3.out.below b).od j hlt false) (by omega) (by unfold dlK; omega) (by unfold dlK; omega) _ rfl)
     simp only [hv1, hv2] at EDG
     obtain ⟨n1, hn1⟩ : ∃ n, (dlK l k j true).length = n := ⟨_, rfl⟩
     obtain ⟨n2, hn2⟩ : ∃ n, (dlK l k j false).length = n := ⟨_, rfl⟩
     obtain ⟨sz, hsz⟩ : ∃ s, szF l (j : Int) = s := ⟨_, rfl⟩
     rw [hn1] at y2
     rw [hn2] at y3
     rw [hsz] at y0
     have EDGE : Hid (∀ u, Below w3.heap.size w3 u → Calls Tryz.prog 67 #[.agg #[.int .i64 (sz : Int), .int .i64 (clK l k j : Int), .slice sa n1 sc, .slice ra n2 rc]] u fun r w' => ∃ v, r = .returned v ∧ Ow w' u.heap.size v (chE l (j : Int)) ∧ Below u.heap.size u w') := by
      intro u b
      have q := EDG.out u b
      rw [← hn1, ← hn2, ← hsz, ← ES.out]
      exact q
     have BXB := hide (below_alloc w3 (.cells #[.int .i64 (sz : Int), .int .i64 (clK l k j : Int), .slice sa n1 sc, .slice ra n2 rc] 123))
     have CHL := chE_len l (j : Int)
     rw [HM.out] at CHL
     clear cm EDG hv1 hv2 hn1 hn2 hsz e1 e2 D1 D2
     go_wp2_with fail
     refine (EDGE.out _ BXB.out).mono ?_
     rintro r w5 ⟨v, rfl, o5, b5⟩
     have B5 := hide (btr BXB.out b5)
     obtain ⟨oe, ce, rfl, -, -⟩ := o5.sl
     have OW5 : Ow w5 (M + 1) (.slice ea (clE l k ++ chs l j).length cp) (clE l k ++ chs l j) := by
      have q := OW.out.below B5.out
      rw [← HNN.out] at q
      exact q
     obtain ⟨ea', c', w6, hap, o6, g6⟩ := app_ow OW5 o5 (by rw [HNN.out]; omega) (by have := (CM3.out.below B5.out).lt; omega)
     have CM6 := hide ((CM3.out.below B5.out).edg OW5 g6)
     have BL6 := hide ((btr BL3.out B5.out).trans ((grown_below g6 (own_base OW5) (by have := (CM3.out.below B5.out).lt; omega)).mono (by have := S1.out; omega)))
     rw [HNN.out] at hap o6
     have O6 := hide o6
     obtain ⟨n6, hn6⟩ : ∃ n, (chE l (j : Int)).length = n := ⟨_, rfl⟩
     rw [hn6] at hap O6 ⊢
     clear o5 b5 OW5 o6 g6 EDGE hn6
     go_wp2_with (at_builtin; refine Lib.wpList_append_run _ (by rfl) _ _ _ _ (by rfl) _ _ (by rfl) (by rfl) _ _ hap ?_)
     go_roundw
     case measure => simp [intOf]; omega
     case rel => exact ⟨j + 1, by omega, by simp, by rw [chs_succ, ← List.append_assoc]; exact O6.out, CM6.out, BL6.out⟩
    ·have dj : decide ((j : Int) < (C : Int)) = false := by simp; omega
     have hjC : j = C := by omega
     clear cm hTN CHN hNb
     go_wp2_with fail
     go_ret
     refine ⟨_, rfl, ?_, BL3.out⟩
     have q := OW.out
     rw [hjC] at q
     exact q.mono (by have := S1.out; omega)
end Eg
end Go.Proofs.YtblfimobiibmjaaGreat
namespace Go.Proofs
open Go.Shelf Go.RowKit Go.Lib Go.Sort
shelf_lay_g SlLaysF0.n6 Slsf 6 at Tryz 37 as YtblfimobiibmjaaGreat.sortE
end Go.Proofs
namespace Go.Proofs.YtblfimobiibmjaaGreat
open Go.ChangeShapes Go.WideShapes Go.ChangeAt Go.RowKit
namespace Eg
open En Gu Ba
open Go.Sort (SWO grow putRowK HoldsK PermIn SortedIn)
def edl (x : Ed) : List Value := [.int .i64 (x.f : Int), .int .i64 (x.t : Int), .int .i64 (x.r : Int)]
instance : Inhabited Ed := ⟨⟨0, 0, 0⟩⟩
theorem cmpI_cases (a b : Nat) : (a < b ∧ cmpI a b = -1) ∨ (a = b ∧ cmpI a b = 0) ∨ (b < a ∧ cmpI a b = 1) := by
 unfold cmpI
 rcases Nat.lt_trichotomy a b with h | h | h
 ·exact .inl ⟨h, if_pos (by omega)⟩
 ·exact .inr (.inl ⟨h, by rw [if_neg (by omega), if_neg (by omega)]⟩)
 ·exact .inr (.inr ⟨h, by rw [if_neg (by omega), if_pos (by omega)]⟩)
theorem cmpE_lt (x y : Ed) : ltOf cmpE x y = true ↔ ltE x y := by
 unfold ltOf cmpE ltE
 rw [decide_eq_true_eq]
 rcases cmpI_cases x.t y.t with ⟨h1, e1⟩ | ⟨h1, e1⟩ | ⟨h1, e1⟩ <;> rcases cmpI_cases x.f y.f with ⟨h2, e2⟩ | ⟨h2, e2⟩ | ⟨h2, e2⟩ <;> rcases cmpI_cases x.r y.r with ⟨h3, e3⟩ | ⟨h3, e3⟩ | ⟨h3, e3⟩ <;> rw [e1, e2, e3] <;> (try simp only [or3]) <;> (constructor <;> intro h <;> first | omega | (exfalso; revert h; decide) | (revert h; decide) | (simp at h) | skip)
theorem swoE : SWO (ltOf cmpE) where
 irrefl x := by
  cases h : ltOf cmpE x x
  ·rfl
  ·exact absurd ((cmpE_lt x x).1 h) (ltE_irrefl x)
 trans x y z h1 h2 := (cmpE_lt x z).2 (ltE_trans ((cmpE_lt x y).1 h1) ((cmpE_lt y z).1 h2))
 ntrans x y z h1 h2 := by
  cases h : ltOf cmpE x z
  ·rfl
  ·have h3 := (cmpE_lt x z).1 h
   have n1 : ¬ ltE x y := fun q => by rw [(cmpE_lt x y).2 q] at h1; cases h1
   have n2 : ¬ ltE y z := fun q => by rw [(cmpE_lt y z).2 q] at h2; cases h2
   unfold ltE at *
   omega
theorem agg_ed (w : World) : (isAgg 70).run Tryz.prog w = .ok true w := by kernel_rfl
theorem size_ed (w : World) : (Go.sizeOf 70).run Tryz.prog w = .ok 3 w := by kernel_rfl
theorem flat_at (d : Array Ed) (k : Nat) (hk : k < d.size * 3) : (Go.Sort.flatK edl 3 d)[k]! = (edc d.toList)[k]! := by
 rw [Go.Sort.get_flatK _ _ _ _ hk]
 have h1 : k / 3 < d.size := by omega
 obtain ⟨x, hx⟩ : ∃ x, d[k / 3]? = some x := ⟨_, Array.getElem?_eq_getElem h1⟩
 have hx2 : d[k / 3]! = x := by rw [getElem!_def, hx]
 have hl : d.toList[k / 3]? = some x := by simpa using hx
 obtain ⟨a, b, c⟩ := edc_at _ _ _ hl
 rw [hx2]
 obtain h | h | h : k % 3 = 0 ∨ k % 3 = 1 ∨ k % 3 = 2 := by omega
 ·rw [h, show k = k / 3 * 3 by omega]
  simp [a, edl]
 ·rw [h, show k = k / 3 * 3 + 1 by omega]
  simp [b, edl]
 ·rw [h, show k = k / 3 * 3 + 2 by omega]
  simp [c, edl]
theorem sortW_block {w : World} {g n : Nat} {F cur : Array Value} {os : Array Obj} {t : TypeId} {fr : Nat × Nat} (h : w.heap[g]? = some (.cells cur t fr)) : (grow (Go.Sort.putRow id (Go.Sort.ahead w n) g 0 F) os).heap[g]? = some (.cells (Go.Sort.putCells id 0 F cur) t fr) := by
 have hl := heap_lt h
 show (((Go.Sort.ahead w n).heap.modify g (Go.Sort.onCells (Go.Sort.putCells id 0 F))) ++ os)[g]? = _
 have e : (Go.Sort.ahead w n).heap = w.heap := rfl
 rw [e, Array.getElem?_append_left (by simpa using hl), Array.getElem?_modify, if_pos rfl, h]
 rfl
theorem sortW_other {w : World} {g n : Nat} {F : Array Value} {os : Array Obj} {k : Nat} (hk : k < w.heap.size) (hne : k ≠ g) : (grow (Go.Sort.putRow id (Go.Sort.ahead w n) g 0 F) os).heap[k]? = w.heap[k]? := by
 show (((Go.Sort.ahead w n).heap.modify g (Go.Sort.onCells (Go.Sort.putCells id 0 F))) ++ os)[k]? = _
 have e : (Go.Sort.ahead w n).heap = w.heap := rfl
 rw [e, Array.getElem?_append_left (by simpa using hk), Array.getElem?_modify, if_neg (Ne.symm hne)]
theorem sortW_size {w : World} {g n : Nat} {F : Array Value} {os : Array Obj} : w.heap.size ≤ (grow (Go.Sort.putRow id (Go.Sort.ahead w n) g 0 F) os).heap.size := by
 show w.heap.size ≤ (((Go.Sort.ahead w n).heap.modify g (Go.Sort.onCells (Go.Sort.putCells id 0 F))) ++ os).size
 have e : (Go.Sort.ahead w n).heap = w.heap := rfl
 rw [e]
 simp
theorem put_at (F cur : Array Value) (k : Nat) (hk : k < F.size) (hc : k < cur.size) : (Go.Sort.putCells id 0 F cur)[k]? = some F[k]! := by
 unfold Go.Sort.putCells
 rw [Array.getElem?_mapIdx, Array.getElem?_eq_getElem hc]
 simp [hk]
theorem pairs_of {d : Array Ed} (h : SortedIn (ltOf cmpE) 0 d.size d) : d.toList.Pairwise fun x y => ¬ ltE y x := by
 rw [List.pairwise_iff_getElem]
 intro i j hi hj hij
 simp only [Array.length_toList] at hi hj
 have := h i j (Nat.zero_le _) hij hj
 rw [getElem!_pos d i hi, getElem!_pos d j hj] at this
 intro q
 simp only [Array.getElem_toList] at q
 rw [(cmpE_lt _ _).2 q] at this
 cases this
set_option maxRecDepth 100000 in
set_option maxHeartbeats 3200000 in
theorem sort_any (B : Nat) (v : Value) (l : List Ed) (w : World) (ho : Ow w B v l) (hl : l.length ≤ 100000000) :
 Calls Tryz.prog 37 #[v, .func (.func 38) #[] #[]] w fun r w' => r = .returned (.tuple #[]) ∧ ∃ m : List Ed, m.Perm l ∧ (m.Pairwise fun x y => ¬ ltE y x) ∧ m.length = l.length ∧ Ow w' B v m ∧ w.grownBy w' v.ownBlock := by
 obtain ⟨oa, c, rfl, -, -⟩ := ho.sl
 rcases oa with _ | ⟨g, o, x⟩
 ·have h0 : l.length = 0 := by
   rcases ho.2 with ⟨-, q⟩ | ⟨g, cap, cur, q, -⟩
   ·exact q
   ·cases q
  have hl0 : l = [] := List.length_eq_zero_iff.1 h0
  subst hl0
  refine (AnyF.slices_SortFunc_none { YtblfimobiibmjaaGreat.sortE with } none c (.func (.func 38) #[] #[]) w).mono ?_
  rintro r w' ⟨rfl, rfl⟩
  exact ⟨rfl, [], List.Perm.refl _, List.Pairwise.nil, rfl, ho, grown_refl _ _⟩
 ·obtain ⟨rfl, rfl⟩ : o = 0 ∧ x = none := by
   rcases ho.2 with ⟨q, -⟩ | ⟨g, cap, cur, q, -⟩
   ·cases q
   ·cases q; exact ⟨rfl, rfl⟩
  obtain ⟨cur, hg, hB, hsz, hlc, hcm, hcell⟩ := own_cur ho
  have eg : ∀ args w, (callFunc 38 args).run Tryz.prog w = .ok (.enter 38 args) w := enters_of Tryz.func38 (by kernel_rfl) rfl
  have hH : HoldsK edl 3 w g 0 l.toArray := by
   intro j hj
   rw [Go.Sort.size_flatK] at hj
   have hj2 : j < l.length * 3 := by simpa using hj
   refine ⟨?_, by rw [Nat.zero_add]; exact frozen_of hg _⟩
   rw [Nat.zero_add, cell_of hg, hcell j hj2, flat_at _ _ hj]
   show (edc l)[j]? = some (edc l)[j]!
   rw [getElem!_pos (edc l) j (by rw [edc_len]; exact hj2)]
   exact List.getElem?_eq_getElem _
  have hcmp : CmpLays Tryz.prog 38 #[] edl 3 cmpE g 0 l.toArray.size w := fun _ _ _ _ x y => ecmp_any x y _
  have hcon := AnyQ.slices_SortFunc YtblfimobiibmjaaGreat.sortE 3 agg_ed size_ed edl (fun _ => rfl) (fun x v hv => by simp [edl] at hv; rcases hv with rfl | rfl | rfl <;> rfl) cmpE swoE 38 #[] g 0 c l.toArray w eg hcmp hH (heap_lt hg) (by simp; omega)
  change Calls Tryz.prog 37 _ _ _ at hcon
  rw [show l.toArray.size = l.length by simp] at hcon
  refine hcon.mono ?_
  rintro r w' ⟨rfl, d, n, os, hp, hs, rfl⟩
  have hd : d.size = l.length := by simpa using hp.1
  have hpm : d.toList.Perm l := by
   have := hp.2.2
   rw [← hd] at this
   have e1 : d.extract 0 d.size = d := by simp
   have e2 : l.toArray.extract 0 d.size = l.toArray := by rw [hd]; simp
   rw [e1, e2] at this
   simpa using this
  have hL : d.toList.length = l.length := by simpa using hd
  refine ⟨rfl, d.toList, hpm, pairs_of (by rw [hd]; exact hs), hL, ?_, ?_⟩
  ·have := own_mk (B := B) (cap := c) (m := d.toList) hB (sortW_block (n := n) (F := Go.Sort.flatK edl 3 d) (os := os) hg) (by unfold Go.Sort.putCells; rw [Array.size_mapIdx]; exact hsz) (by rw [hL]; exact hlc) hcm (fun k hk => by
    rw [hL] at hk
    have hk2 : k < d.size * 3 := by rw [hd]; exact hk
    rw [put_at _ _ _ (by rw [Go.Sort.size_flatK]; exact hk2) (by omega), flat_at _ _ hk2]
    rw [getElem!_pos (edc d.toList) k (by rw [edc_len, hL]; exact hk)]
    exact (List.getElem?_eq_getElem _).symm)
   rw [hL] at this
   exact this
  ·exact ⟨rfl, rfl, rfl, sortW_size, fun k hk hne => sortW_other hk (fun q => hne (by rw [q]; rfl))⟩
end Eg
end Go.Proofs.YtblfimobiibmjaaGreat
namespace Go.Proofs.YtblfimobiibmjaaGreat
open Go.ChangeShapes Go.WideShapes Go.ChangeAt Go.RowKit
namespace Eg
open En Gu Ba
set_option maxRecDepth 100000 in
set_option maxHeartbeats 3200000 in
theorem deleteF_any (n : FuncId) (caps : Array Value) (hn : ∀ (a : Array Value) (u : World), (callFunc n a).run Tryz.prog u = .ok (.enter n a) u) (p : Ed → Bool) (B : Nat) (v : Value) (l : List Ed) (w : World)
 (ho : Ow w B v l) (hll : l.length ≤ 100000000) (hp : ∀ W, w.grownBy W v.ownBlock → Tell n caps p W) :
 Calls Tryz.prog 41 #[v, .func (.func n) #[] caps] w fun r w' => ∃ v', r = .returned v' ∧ Ow w' B v' (l.filter fun x => !p x) ∧ v'.ownBlock = v.ownBlock ∧ w.grownBy w' v.ownBlock := by
 have gr := grown_refl w v.ownBlock
 have IX := hide (index_any n caps hn p B v l w ho hll (fun W g => hp W (grown_more g)))
 by_cases hall : ∀ (j : Nat) x, l[j]? = some x → p x = false
 ·have e : l.filter (fun x => !p x) = l := by rw [← fl_all, fl_pre (fun j x _ hx => hall j x hx), List.take_length]
  rw [idx_none hall] at IX
  rw [e]
  obtain ⟨oa, c, rfl, -, -⟩ := ho.sl
  have HO := hide ho
  clear hall e hp ho gr hn
  go_enter Tryz.func41, Tryz.ntmps41
  go_wp2_with fail
  refine IX.out.mono ?_
  rintro r w1 ⟨rfl, e1⟩
  have E1 := hide e1
  clear e1
  go_wp2_with fail
  go_ret
  exact ⟨_, rfl, HO.out.below (below_of E1.out), rfl, grown_more E1.out⟩
 ·obtain ⟨k0, y, hk0, hpk, hpre⟩ : ∃ k y, l[k]? = some y ∧ p y = true ∧ ∀ (j : Nat) x, j < k → l[j]? = some x → p x = false := by
   have : ∃ i, l.findIdx? p = some i := by
    cases h : l.findIdx? p with
    | some i => exact ⟨i, rfl⟩
    | none =>
      exfalso; apply hall; intro j x hj
      have := (List.findIdx?_eq_none_iff.1 h) _ (List.mem_of_getElem? hj)
      simpa using this
   obtain ⟨i, hi⟩ := this
   obtain ⟨h1, h2, h3⟩ := List.findIdx?_eq_some_iff_getElem.1 hi
   refine ⟨i, _, List.getElem?_eq_getElem h1, h2, fun j x hj hx => ?_⟩
   have := h3 j hj
   obtain ⟨q, e⟩ := List.getElem?_eq_some_iff.1 hx
   rw [← e]
   simpa using this
  rw [idx_some hk0 hpre hpk] at IX
  obtain ⟨oa, c, rfl, hlc, hcm⟩ := ho.sl
  obtain ⟨g, rfl, -⟩ := ho.cell hk0
  obtain ⟨cur, hg, hB, hsz, -, -, hcell⟩ := own_cur ho
  have hkl := (List.getElem?_eq_some_iff.1 hk0).1
  have hm2 : c ≤ 9223372036854775807 := by simp only [maxLen] at hcm; omega
  have D0 : Hid (DI p l g c w w (k0 + 1)) := by
   have d : DI p l g c w w k0 := ⟨⟨cur, hg, hsz, fun k hk => by
    rw [fl_pre hpre] at hk ⊢
    have hk' : k < k0 * 3 := by simp at hk; omega
    rw [hcell k (by omega)]
    conv => lhs; rw [← List.take_append_drop k0 l, edc_app]
    rw [List.getElem?_append_left (by rw [edc_len, List.length_take]; omega)], fun k _ hl => hcell k hl⟩, gr, heap_lt hg⟩
   exact d.drop hk0 hpk
  have F0 : Hid ((fl p l (k0 + 1)).length = k0) := by
   show (fl p l (k0 + 1)).length = k0
   rw [fl_succ hk0, hpk, fl_pre hpre]; simp; omega
  have HP := hide hp
  unfold Tell edv at HP
  have hne1 : ((k0 : Int) == -1) = false := beq_eq_false_iff_ne.2 (by omega)
  have FA := hide (fl_all p l)
  have HBG := hide hB
  obtain ⟨L, hL⟩ : ∃ L, l.length = L := ⟨_, rfl⟩
  have HL := hide hL
  rw [hL] at hkl hlc IX hll ⊢
  clear hall hp ho gr hg hsz hcell hpk hpre hL hB hk0
  go_enter Tryz.func41, Tryz.ntmps41
  go_wp2_with fail
  refine IX.out.mono ?_
  rintro r w1 ⟨rfl, e1⟩
  have D1 := hide (D0.out.more e1)
  clear IX e1 D0
  go_wp2_with fail
  go_loopw [5, 6] (fun i j wr => ∃ (jn m : Nat), jn ≤ L ∧ (fl p l jn).length = m ∧ m < jn ∧ i = .int .i64 (m : Int) ∧ j = .int .i64 (jn : Int) ∧ DI p l g c w wr jn) (fun _ j _ => L - (intOf j).toNat)
  case atStart => exact ⟨k0 + 1, k0, by omega, F0.out, by omega, rfl, by go_num, D1.out⟩
  case round =>
   clear D1 F0
   obtain ⟨jn, m, hj, hm, hmj, rfl, rfl, di⟩ := hrel
   have DD := hide di
   have HM := hide hm
   clear di hm
   by_cases hlt : jn < L
   ·have hlt' : (jn : Int) < (L : Int) := by omega
    have j0 : (0 : Int) ≤ (jn : Int) := by omega
    obtain ⟨x, hx⟩ : ∃ x, l[jn]? = some x := ⟨_, List.getElem?_eq_getElem (by rw [HL.out]; omega)⟩
    obtain ⟨cur', h1, h2, h3, h4⟩ := DD.out.ex
    obtain ⟨q0, q1, q2⟩ := edc_at l jn x hx
    have c0 : wr.cell? ⟨g, jn * 3, none⟩ = some (.int .i64 (x.f : Int)) := by rw [cell_of h1]; exact (h4 _ (Nat.le_refl _) (by rw [HL.out]; omega)).trans q0
    have c1 : wr.cell? ⟨g, jn * 3 + 1, none⟩ = some (.int .i64 (x.t : Int)) := by rw [cell_of h1]; exact (h4 _ (by omega) (by rw [HL.out]; omega)).trans q1
    have c2 : wr.cell? ⟨g, jn * 3 + 2, none⟩ = some (.int .i64 (x.r : Int)) := by rw [cell_of h1]; exact (h4 _ (by omega) (by rw [HL.out]; omega)).trans q2
    have HX := hide hx
    clear h1 h2 h3 h4 q0 q1 q2 hx
    go_upto_region 8 with fail
    have XB := hide (heap_new wr (.cells #[.int .i64 (x.f : Int), .int .i64 (x.t : Int), .int .i64 (x.r : Int)] 70))
    have G2 := hide (grown_of (below_alloc wr (.cells #[.int .i64 (x.f : Int), .int .i64 (x.t : Int), .int .i64 (x.r : Int)] 70)))
    generalize wr.alloc (.cells #[.int .i64 (x.f : Int), .int .i64 (x.t : Int), .int .i64 (x.r : Int)] 70) = w2 at *
    clear c0 c1 c2
    have x0 : w2.cell? ⟨wr.heap.size, 0, none⟩ = some (.int .i64 (x.f : Int)) := cell_of XB.out 0
    have x1 : w2.cell? ⟨wr.heap.size, 1, none⟩ = some (.int .i64 (x.t : Int)) := cell_of XB.out 1
    have x2 : w2.cell? ⟨wr.heap.size, 2, none⟩ = some (.int .i64 (x.r : Int)) := cell_of XB.out 2
    have D2 := hide (DD.out.more G2.out)
    have CL := hide (HP.out w2 D2.out.gb x)
    cases hpj : p x
    ·have HK : Hid ((fl p l (jn + 1)).length = m + 1) := by
      show (fl p l (jn + 1)).length = m + 1
      rw [fl_succ HX.out, hpj]; simp [HM.out]
     have HPJ := hide hpj
     rw [hpj] at CL
     clear hpj
     have hml : (m : Int) < (L : Int) := by omega
     have m0 : (0 : Int) ≤ (m : Int) := by omega
     go_wp2_with fail
     refine CL.out.mono ?_
     rintro r w3 ⟨rfl, e3⟩
     have D3 := hide (D2.out.more e3)
     have XB3 := hide ((e3.block _ (heap_lt XB.out) (by simp)).trans XB.out)
     clear CL e3 x0 x1 x2 D2
     have x0 : w3.cell? ⟨wr.heap.size, 0, none⟩ = some (.int .i64 (x.f : Int)) := cell_of XB3.out 0
     have x1 : w3.cell? ⟨wr.heap.size, 1, none⟩ = some (.int .i64 (x.t : Int)) := cell_of XB3.out 1
     have x2 : w3.cell? ⟨wr.heap.size, 2, none⟩ = some (.int .i64 (x.r : Int)) := cell_of XB3.out 2
     obtain ⟨cur3, h1, h2, -, -⟩ := D3.out.ex
     obtain ⟨v0, g0⟩ : ∃ u, w3.cell? ⟨g, m * 3, none⟩ = some u := by rw [cell_of h1]; exact ⟨_, Array.getElem?_eq_getElem (by omega)⟩
     obtain ⟨v1, g1⟩ : ∃ u, w3.cell? ⟨g, m * 3 + 1, none⟩ = some u := by rw [cell_of h1]; exact ⟨_, Array.getElem?_eq_getElem (by omega)⟩
     obtain ⟨v2, g2⟩ : ∃ u, w3.cell? ⟨g, m * 3 + 2, none⟩ = some u := by rw [cell_of h1]; exact ⟨_, Array.getElem?_eq_getElem (by omega)⟩
     have f0 : w3.frozen? ⟨g, m * 3, none⟩ = false := frozen_of h1 _
     have f1 : w3.frozen? ⟨g, m * 3 + 1, none⟩ = false := frozen_of h1 _
     have f2 : w3.frozen? ⟨g, m * 3 + 2, none⟩ = false := frozen_of h1 _
     clear h1 h2
     go_wp2_with fail
     go_roundw
     case rel => exact ⟨jn + 1, m + 1, by omega, HK.out, by omega, by go_num, by go_num, D3.out.keep HX.out (by rw [HL.out]; exact hlc) HPJ.out HM.out⟩
     case measure => simp [intOf]; omega
    ·have HK : Hid ((fl p l (jn + 1)).length = m) := by
      show (fl p l (jn + 1)).length = m
      rw [fl_succ HX.out, hpj]; simp [HM.out]
     have HPJ := hide hpj
     rw [hpj] at CL
     clear hpj
     go_wp2_with fail
     refine CL.out.mono ?_
     rintro r w3 ⟨rfl, e3⟩
     have D3 := hide ((D2.out.more e3).drop HX.out HPJ.out)
     clear CL e3 x0 x1 x2 D2
     go_wp2_with fail
     go_roundw
     case rel => exact ⟨jn + 1, m, by omega, HK.out, by omega, rfl, by go_num, D3.out⟩
     case measure => simp [intOf]; omega
   ·have hje : jn = L := by omega
    have hlt' : ¬ ((jn : Int) < (L : Int)) := by omega
    have hml : (m : Int) ≤ (L : Int) := by omega
    obtain ⟨cur', h1, h2, h3, -⟩ := DD.out.ex
    have hcl : ∀ ty cc, (Builtin.clear_ #[24] ty #[.slice (some ⟨g, m * 3, none⟩) (L - m) cc]).run Tryz.prog wr = .ok (.tuple #[]) (wr.setCells g (m * 3) (zvs (L - m))) :=
     fun ty cc => run_clear3 wr ty g (m * 3) (L - m) cc (by omega) (fun t ht => by rw [cell_of h1, Array.getElem?_eq_getElem (by omega)]; rfl) (fun t _ => frozen_of h1 _)
    generalize zvs (L - m) = vs at hcl
    obtain ⟨cur2, k1, k2, k3⟩ := row_cells g 70 (0, 0) vs (m * 3) cur' wr h1
    have FIN : Hid (Ow (wr.setCells g (m * 3) vs) B (.slice (some ⟨g, 0, none⟩) m c) (l.filter fun x => !p x) ∧ w.grownBy (wr.setCells g (m * 3) vs) (some g)) := by
     have e : (l.filter fun x => !p x).length = m := by rw [← FA.out, HL.out, ← hje]; exact HM.out
     refine ⟨?_, ?_⟩
     ·rw [hje, ← HL.out, FA.out] at h3
      have := own_mk (B := B) (m := l.filter fun x => !p x) HBG.out k1 (by rw [k2, h2]) (by omega) hcm (fun k hk => by rw [k3 k (by omega)]; exact h3 k hk)
      rw [e] at this
      exact this
     ·have gb := DD.out.gb
      have tc := tape_cells g vs (m * 3) wr
      exact ⟨tc.2.2.1.trans gb.os, tc.1.trans gb.tape, tc.2.2.2.trans gb.output, by rw [tc.2.1]; exact gb.size, fun k hk hne => (heap_cells g _ (m * 3) wr k (fun e => hne (by rw [e]))).trans (gb.block k hk hne)⟩
    have hmc : ¬ (c = m) := by omega
    have hmc2 : (m : Int) ≤ (c : Int) := by omega
    clear h1 h2 h3 k1 k2 k3 DD HM FA
    generalize hW : wr.setCells g (m * 3) vs = W2 at *
    go_wp2_with fail
    go_ret
    exact ⟨_, rfl, FIN.out.1, rfl, FIN.out.2⟩
end Eg
end Go.Proofs.YtblfimobiibmjaaGreat
namespace Go.Proofs.YtblfimobiibmjaaGreat
open Go.ChangeShapes Go.WideShapes Go.ChangeAt Go.RowKit
namespace Eg
open En Gu Ba
open Classical in
noncomputable def isB (l : List Ev) (x : Ed) : Bool := decide (isD l x)
noncomputable def allS (l : List Ev) : List Ed := allD (isB l) l.length
theorem isB_iff {l : List Ev} {x : Ed} : isB l x = true ↔ isD l x := by
 unfold isB
 simp
theorem allS_of {l : List Ev} (h : Tok l) {m : List Ed} (hp : m.Perm (allE l)) (hs : m.Pairwise fun x y => ¬ ltE y x) : m = allS l := all_is h hp hs fun _ _ _ => isB_iff
set_option maxRecDepth 100000 in
set_option maxHeartbeats 1600000 in
theorem All_no (oa : Option Addr) (l : List Ev) (c : Nat) (w : World) (hA : EsAt w oa l) (hl : l.length ≤ 2000) (ht : tokB l = false) :
 Calls Tryz.prog 10 #[.slice oa l.length c] w fun r w' => r = .returned (.tuple #[.slice none 0 0, .int .i64 4]) ∧ Below w.heap.size w w' := by
 have IT := hide (istr_any oa l c w hA hl)
 rw [ht] at IT
 obtain ⟨M, hM⟩ : ∃ M, l.length = M := ⟨_, rfl⟩
 rw [hM] at IT ⊢
 clear hA hM hl ht
 go_enter Tryz.func10, Tryz.ntmps10
 go_wp2_with fail
 refine IT.out.mono ?_
 rintro r w1 ⟨rfl, b1⟩
 have B1 := hide b1
 clear b1 IT
 go_wp2_with fail
 go_ret2
 exact ⟨rfl, B1.out⟩
set_option maxRecDepth 100000 in
set_option maxHeartbeats 3200000 in
theorem All_yes (oa : Option Addr) (l : List Ev) (c : Nat) (w : World) (hA : EsAt w oa l) (hl : l.length ≤ 2000) (ht : tokB l = true) :
 Calls Tryz.prog 10 #[.slice oa l.length c] w fun r w' => ∃ v, r = .returned (.tuple #[v, .int .i64 0]) ∧ Ow w' w.heap.size v (allS l) ∧ Below w.heap.size w w' := by
 have hT := tokB_iff.1 ht
 have IT := hide (istr_any oa l c w hA hl)
 have PG := hide (fun u (b : Below w.heap.size w u) => programs_any oa l c u (hA.below b) hT hl)
 have CG := hide (fun u (b : Below w.heap.size w u) => channels_any oa l c u (hA.below b) hT hl)
 have PL := prog_len l l.length
 have CL : Hid ((clE l l.length ++ (List.range (mkN l)).flatMap fun (c : Nat) => chE l (c : Int)).length ≤ 9000000) := by
  have a := ce_len l l.length
  have b := chs_len l (mkN l)
  have d := mkN_le l
  have t : mkN l * (2 * l.length) ≤ 2000 * 4000 := Nat.mul_le_mul (by omega) (by omega)
  show (clE l l.length ++ chs l (mkN l)).length ≤ 9000000
  rw [List.length_append]
  omega
 have AS := hide (fun (m : List Ed) (hp : m.Perm (allE l)) hs => allS_of hT hp hs)
 unfold allE at AS
 rw [ht] at IT
 obtain ⟨P, hP⟩ : ∃ P, progE l l.length = P := ⟨_, rfl⟩
 obtain ⟨Q, hQ⟩ : ∃ Q, (clE l l.length ++ (List.range (mkN l)).flatMap fun (c : Nat) => chE l (c : Int)) = Q := ⟨_, rfl⟩
 rw [hP] at PG AS PL
 rw [hQ] at CG AS CL
 obtain ⟨A, hAA⟩ : ∃ A, allS l = A := ⟨_, rfl⟩
 rw [hAA] at AS ⊢
 obtain ⟨M, hM⟩ : ∃ M, l.length = M := ⟨_, rfl⟩
 rw [hM] at IT PG CG PL hl ⊢
 clear hA hM ht hT hP hQ hAA
 go_enter Tryz.func10, Tryz.ntmps10
 go_wp2_with fail
 refine IT.out.mono ?_
 rintro r w1 ⟨rfl, b1⟩
 have B1 := hide b1
 clear b1 IT
 go_wp2_with fail
 refine (PG.out _ B1.out).mono ?_
 rintro r w2 ⟨ea, cp, rfl, o2, b2⟩
 have O2 : Hid (Ow w2 w1.heap.size (.slice ea P.length cp) P) := o2
 have B2 := hide b2
 have BB2 := hide (btr B1.out b2)
 obtain ⟨np, hnp⟩ : ∃ n, P.length = n := ⟨_, rfl⟩
 have NP := hide hnp
 rw [hnp] at O2 ⊢
 clear o2 b2 PG hnp
 go_wp2_with fail
 refine (CG.out _ BB2.out).mono ?_
 rintro r w3 ⟨v3, rfl, o3, b3⟩
 obtain ⟨eb, cq, rfl, -, -⟩ := o3.sl
 have O3 := hide o3
 have B3 := hide b3
 have BB3 := hide (btr BB2.out b3)
 obtain ⟨nq, hnq⟩ : ∃ n, Q.length = n := ⟨_, rfl⟩
 have NQ := hide hnq
 rw [hnq] at O3 ⊢
 clear o3 b3 CG hnq
 have X0 := hide (heap_new w3 (.cells #[.slice ea np cp, .slice eb nq cq] 24))
 have BX := hide (below_alloc w3 (.cells #[.slice ea np cp, .slice eb nq cq] 24))
 have OP : Ow (w3.alloc (.cells #[.slice ea np cp, .slice eb nq cq] 24)) w1.heap.size (.slice ea np cp) P := (O2.out.below B3.out).below BX.out
 have OQ : Ow (w3.alloc (.cells #[.slice ea np cp, .slice eb nq cq] 24)) w2.heap.size (.slice eb nq cq) Q := O3.out.below BX.out
 have CC := hide (concat_any w3.heap.size w1.heap.size w2.heap.size (.slice ea np cp) (.slice eb nq cq) P Q _ (cell_of X0.out 0) (cell_of X0.out 1) OP OQ (by have := CL.out; omega))
 clear OP OQ
 go_wp2_with fail
 refine CC.out.mono ?_
 rintro r w4 ⟨v4, rfl, o4, b4⟩
 have O4 := hide o4
 have B4 := hide (btr BX.out b4)
 have S4 : Hid ((w3.alloc (.cells #[.slice ea np cp, .slice eb nq cq] 24)).heap.size ≤ w4.heap.size) := b4.size
 have ST := hide (sort_any _ v4 (P ++ Q) w4 o4 (by have := CL.out; rw [List.length_append]; omega))
 have BS4 : Hid (w.heap.size ≤ w3.heap.size) := BB3.out.size
 obtain ⟨ez, cz, rfl, -, -⟩ := o4.sl
 obtain ⟨nz, hnz⟩ : ∃ n, (P ++ Q).length = n := ⟨_, rfl⟩
 have NZ := hide hnz
 rw [hnz] at ST ⊢
 clear o4 b4 CC hnz
 go_wp2_with fail
 refine ST.out.mono ?_
 rintro r w5 ⟨rfl, m, hp, hs, hlm, o5, g5⟩
 have RES : Hid (Ow w5 w.heap.size (.slice ez nz cz) A ∧ Below w.heap.size w w5) := by
  have e := AS.out m hp hs
  rw [e] at o5
  have b := own_base O4.out
  rw [NZ.out] at b
  refine ⟨o5.mono (by rw [World.size_alloc]; have := BS4.out; omega), (btr BB3.out B4.out).trans ((grown_below g5 b S4.out).mono (by rw [World.size_alloc]; have := BS4.out; omega))⟩
 clear hp hs hlm o5 g5 ST
 go_wp2_with fail
 go_ret2
 exact ⟨_, rfl, RES.out.1, RES.out.2⟩
end Eg
end Go.Proofs.YtblfimobiibmjaaGreat
namespace Go.Proofs.YtblfimobiibmjaaGreat
open Go.ChangeShapes Go.WideShapes Go.ChangeAt Go.RowKit
namespace Eg
open En Gu Ba
def ofR (rule : Int) (x : Ed) : Bool := (x.r : Int) != rule
theorem of1_any (rule : Int) (b : Nat) (x : Ed) (W : World) (hb : W.cell? ⟨b, 0, none⟩ = some (.int .i64 rule)) :
 Calls Tryz.prog 42 (#[edv x] ++ #[.pointer (some ⟨b, 0, none⟩)]) W fun r w' => r = .returned (.bool (ofR rule x)) ∧ W.grownBy w' none := by
 unfold edv ofR
 obtain ⟨f, t, k⟩ := x
 have hbl := World.block_lt_of_cell? W ⟨b, 0, none⟩ hb
 have c2 : (W.alloc (.cells #[.int .i64 (f : Int), .int .i64 (t : Int), .int .i64 (k : Int)] 70)).cell? ⟨b, 0, none⟩ = some (.int .i64 rule) := ((below_alloc W _).cell (p := ⟨b, 0, none⟩) hbl).trans hb
 have G := hide (grown_of (below_alloc W (.cells #[.int .i64 (f : Int), .int .i64 (t : Int), .int .i64 (k : Int)] 70)))
 have X := hide (heap_new W (.cells #[.int .i64 (f : Int), .int .i64 (t : Int), .int .i64 (k : Int)] 70))
 obtain ⟨q, hq⟩ : ∃ q, ((k : Int) != rule) = q := ⟨_, rfl⟩
 simp only
 rw [hq]
 go_enter Tryz.func42, Tryz.ntmps42
 go_wp2_with fail
 go_ret
 exact ⟨rfl, G.out⟩
set_option maxRecDepth 100000 in
set_option maxHeartbeats 3200000 in
theorem Of_no (oa : Option Addr) (l : List Ev) (c : Nat) (rule : Int) (w : World) (hA : EsAt w oa l) (hl : l.length ≤ 2000) (ht : tokB l = false) :
 Calls Tryz.prog 14 #[.slice oa l.length c, .int .i64 rule] w fun r w' => r = .returned (.tuple #[.slice none 0 0, .int .i64 4]) ∧ Below w.heap.size w w' := by
 have B0 := hide (below_alloc w (.cells #[.int .i64 rule] 3))
 have X0 := hide (heap_new w (.cells #[.int .i64 rule] 3))
 have AL := hide (All_no oa l c _ (hA.below B0.out) hl ht)
 obtain ⟨M, hM⟩ : ∃ M, l.length = M := ⟨_, rfl⟩
 rw [hM] at AL ⊢
 clear hA hM hl ht
 have eg : ∀ (a : Array Value) (u : World), (callFunc 42 a).run Tryz.prog u = .ok (.enter 42 a) u := fun a u => enters_of Tryz.func42 (by kernel_rfl) rfl a u
 go_enter Tryz.func14, Tryz.ntmps14
 go_wp2_with fail
 generalize w.alloc (.cells #[.int .i64 rule] 3) = w0 at *
 refine AL.out.mono ?_
 rintro r w1 ⟨rfl, b1⟩
 have B1 := hide (btr B0.out b1)
 have c1 : w1.heap[w.heap.size]? = some (.cells #[.int .i64 rule] 3) := heap_below X0.out b1
 have DF := hide (deleteF_any 42 #[.pointer (some ⟨w.heap.size, 0, none⟩)] eg (ofR rule) w1.heap.size (.slice none 0 0) [] w1 (Ow.nil _ _) (by simp) (fun W g x => of1_any rule _ x W ((World.cell?_of_block (g.block w.heap.size (heap_lt c1) (by simp [Value.ownBlock]))).trans (cell_of c1 0))))
 clear b1 AL c1
 go_wp2_with fail
 refine DF.out.mono ?_
 rintro r w2 ⟨v, rfl, o2, e2, g2⟩
 obtain rfl : v = .slice none 0 0 := by
  rcases o2.2 with ⟨q, -⟩ | ⟨g, cap, cur, q, -⟩
  ·exact q
  ·rw [q] at e2; simp [Value.ownBlock] at e2
 have B2 := hide (btr B1.out (grown_below g2 (fun g hg => by simp [Value.ownBlock] at hg) (Nat.le_refl _)))
 clear o2 e2 g2 DF
 go_wp2_with fail
 go_ret2
 exact ⟨rfl, B2.out⟩
set_option maxRecDepth 100000 in
set_option maxHeartbeats 3200000 in
theorem Of_yes (oa : Option Addr) (l : List Ev) (c : Nat) (rule : Int) (w : World) (hA : EsAt w oa l) (hl : l.length ≤ 2000) (ht : tokB l = true) (hn : (allS l).length ≤ 100000000) :
 Calls Tryz.prog 14 #[.slice oa l.length c, .int .i64 rule] w fun r w' => ∃ v, r = .returned (.tuple #[v, .int .i64 0]) ∧ Ow w' w.heap.size v ((allS l).filter fun x => !ofR rule x) ∧ Below w.heap.size w w' := by
 have B0 := hide (below_alloc w (.cells #[.int .i64 rule] 3))
 have X0 := hide (heap_new w (.cells #[.int .i64 rule] 3))
 have AL := hide (All_yes oa l c _ (hA.below B0.out) hl ht)
 obtain ⟨A, hAA⟩ : ∃ A, allS l = A := ⟨_, rfl⟩
 rw [hAA] at AL hn ⊢
 obtain ⟨M, hM⟩ : ∃ M, l.length = M := ⟨_, rfl⟩
 rw [hM] at AL ⊢
 clear hA hM hl ht hAA
 have eg : ∀ (a : Array Value) (u : World), (callFunc 42 a).run Tryz.prog u = .ok (.enter 42 a) u := fun a u => enters_of Tryz.func42 (by kernel_rfl) rfl a u
 go_enter Tryz.func14, Tryz.ntmps14
 go_wp2_with fail
 generalize w.alloc (.cells #[.int .i64 rule] 3) = w0 at *
 refine AL.out.mono ?_
 rintro r w1 ⟨v1, rfl, o1, b1⟩
 have B1 := hide (btr B0.out b1)
 have c1 : w1.heap[w.heap.size]? = some (.cells #[.int .i64 rule] 3) := heap_below X0.out b1
 have hw0 : w.heap.size < w0.heap.size := heap_lt X0.out
 have DF := hide (deleteF_any 42 #[.pointer (some ⟨w.heap.size, 0, none⟩)] eg (ofR rule) w0.heap.size v1 A w1 o1 hn (fun W g x => of1_any rule _ x W ((World.cell?_of_block (g.block w.heap.size (heap_lt c1) (fun e => by have := own_base o1 _ e.symm; omega))).trans (cell_of c1 0))))
 obtain ⟨ea, cp, rfl, -, -⟩ := o1.sl
 have OB := hide (own_base o1)
 obtain ⟨n, hn2⟩ : ∃ n, A.length = n := ⟨_, rfl⟩
 rw [hn2] at DF OB ⊢
 have HW1 : Hid (w0.heap.size ≤ w1.heap.size) := b1.size
 have HW0 := hide hw0
 clear b1 AL c1 o1 hn2 hn hw0
 go_wp2_with fail
 refine DF.out.mono ?_
 rintro r w2 ⟨v, rfl, o2, e2, g2⟩
 have O2 : Hid (Ow w2 w.heap.size v (A.filter fun x => !ofR rule x)) := o2.mono (Nat.le_of_lt HW0.out)
 have B2 := hide (B1.out.trans ((grown_below g2 OB.out HW1.out).mono (Nat.le_of_lt HW0.out)))
 obtain ⟨oe, ce, rfl, -, -⟩ := o2.sl
 clear o2 e2 g2 DF
 go_wp2_with fail
 go_ret2
 exact ⟨_, rfl, O2.out, B2.out⟩
end Eg
end Go.Proofs.YtblfimobiibmjaaGreat
namespace Go.Proofs.YtblfimobiibmjaaGreat
open Go.ChangeShapes Go.WideShapes Go.ChangeAt Go.RowKit
namespace Cr
open Ba
structure Mb where
 p : Int
 q : Int
 s : Int
def mc (l : List Mb) : List Value := l.flatMap fun x => [.int .i64 x.p, .int .i64 x.q, .int .i64 x.s]
theorem mc_nil : mc [] = [] := rfl
theorem mc_cons (x : Mb) (l : List Mb) : mc (x :: l) = .int .i64 x.p :: .int .i64 x.q :: .int .i64 x.s :: mc l := rfl
theorem mc_app (l m : List Mb) : mc (l ++ m) = mc l ++ mc m := by simp [mc]
theorem mc_at : ∀ (l : List Mb) (k : Nat) (x : Mb), l[k]? = some x → (mc l)[k * 3]? = some (.int .i64 x.p) ∧ (mc l)[k * 3 + 1]? = some (.int .i64 x.q) ∧ (mc l)[k * 3 + 2]? = some (.int .i64 x.s)
 | [], _, _, h => by simp at h
 | y :: l, 0, x, h => by simp at h; subst h; exact ⟨rfl, rfl, rfl⟩
 | y :: l, k + 1, x, h => by
   rw [mc_cons]
   have := mc_at l k x (by simpa using h)
   rw [show (k + 1) * 3 = k * 3 + 3 by omega]
   exact this
theorem mc_one (l : List Mb) : ∀ u ∈ mc l, u.oneCell' = true := by
 induction l with
 | nil => intro u hu; simp [mc_nil] at hu
 | cons x l ih =>
   intro u hu
   rw [mc_cons] at hu
   simp at hu
   rcases hu with rfl | rfl | rfl | hu
   ·rfl
   ·rfl
   ·rfl
   ·exact ih u hu
theorem mc_set1 : ∀ (l : List Mb) (k : Nat) (x : Mb) (y : Int), l[k]? = some x → (mc l).set (k * 3 + 1) (.int .i64 y) = mc (l.set k ⟨x.p, y, x.s⟩)
 | [], _, _, _, h => by simp at h
 | z :: l, 0, x, y, h => by simp at h; subst h; rfl
 | z :: l, k + 1, x, y, h => by
   rw [List.set_cons_succ, mc_cons, mc_cons, ← mc_set1 l k x y (by simpa using h), show (k + 1) * 3 + 1 = k * 3 + 1 + 1 + 1 + 1 by omega]
   simp only [List.set_cons_succ]
theorem mc_set2 : ∀ (l : List Mb) (k : Nat) (x : Mb) (y : Int), l[k]? = some x → (mc l).set (k * 3 + 2) (.int .i64 y) = mc (l.set k ⟨x.p, x.q, y⟩)
 | [], _, _, _, h => by simp at h
 | z :: l, 0, x, y, h => by simp at h; subst h; rfl
 | z :: l, k + 1, x, y, h => by
   rw [List.set_cons_succ, mc_cons, mc_cons, ← mc_set2 l k x y (by simpa using h), show (k + 1) * 3 + 2 = k * 3 + 2 + 1 + 1 + 1 by omega]
   simp only [List.set_cons_succ]
def MAt (w : World) (oa : Option Addr) (l : List Mb) : Prop :=
 ∀ k x, l[k]? = some x → ∃ b, oa = some ⟨b, 0, none⟩ ∧ w.cell? ⟨b, k * 3, none⟩ = some (.int .i64 x.p) ∧ w.cell? ⟨b, k * 3 + 1, none⟩ = some (.int .i64 x.q) ∧ w.cell? ⟨b, k * 3 + 2, none⟩ = some (.int .i64 x.s)
theorem MAt.nil (w : World) (oa : Option Addr) : MAt w oa [] := fun _ _ h => by simp at h
theorem MAt.below {w w' : World} {oa : Option Addr} {l : List Mb} (h : MAt w oa l) (hb : Below w.heap.size w w') : MAt w' oa l := by
 intro k x hk
 obtain ⟨b, e, h0, h1, h2⟩ := h k x hk
 exact ⟨b, e, (hb.cell (World.block_lt_of_cell? w _ h0)).trans h0, (hb.cell (World.block_lt_of_cell? w _ h1)).trans h1, (hb.cell (World.block_lt_of_cell? w _ h2)).trans h2⟩
theorem owns_mat {w : World} {base : Nat} {e : TypeId} {v : Value} {l : List Mb} (h : w.ownsRow base e 3 v l.length (mc l)) : ∃ oa c, v = .slice oa l.length c ∧ MAt w oa l ∧ l.length ≤ c := by
 rcases h.2 with ⟨rfl, h0⟩ | ⟨g, cap, cur, rfl, _, hg, hc, _, hcs, htk⟩
 ·refine ⟨none, 0, by rw [h0], ?_, by omega⟩
  obtain rfl := List.eq_nil_of_length_eq_zero h0
  exact MAt.nil _ _
 ·refine ⟨_, cap, rfl, ?_, hc⟩
  intro k x hk
  have hkl := (List.getElem?_eq_some_iff.1 hk).1
  obtain ⟨q0, q1, q2⟩ := mc_at l k x hk
  rw [← htk, List.getElem?_take_of_lt (by omega)] at q0 q1 q2
  refine ⟨g, rfl, ?_, ?_, ?_⟩
  ·rw [cell_of hg]; simpa using q0
  ·rw [cell_of hg]; simpa using q1
  ·rw [cell_of hg]; simpa using q2
theorem src3 (w : World) (x : Mb) (t : TypeId) : ∀ j u, (mc [x])[j]? = some u → (w.alloc (.cells #[.int .i64 x.p, .int .i64 x.q, .int .i64 x.s] t)).cell? ((⟨w.heap.size, 0, none⟩ : Addr).add j) = some u := by
 intro j u hj
 rw [Addr.add_lit, Nat.zero_add, cell_of (heap_new _ _)]
 rw [mc_cons, mc_nil] at hj
 rw [← hj]
 simp
theorem own_keep {w w' : World} {base : Nat} {e : TypeId} {size : Nat} {v : Value} {n : Nat} {xs : List Value} (h : w.ownsRow base e size v n xs) (hk : ∀ g, v.ownBlock = some g → w'.heap[g]? = w.heap[g]?) : w'.ownsRow base e size v n xs := by
 refine ⟨h.1, ?_⟩
 rcases h.2 with q | ⟨g, cap, cur, q1, q2, q3, q4⟩
 ·exact .inl q
 ·exact .inr ⟨g, cap, cur, q1, q2, (hk g (by rw [q1]; rfl)).trans q3, q4⟩
theorem own_blk {w : World} {base : Nat} {e : TypeId} {size : Nat} {v : Value} {n : Nat} {xs : List Value} (h : w.ownsRow base e size v n xs) (g : Nat) (hg : v.ownBlock = some g) : base ≤ g ∧ ∃ cur, w.heap[g]? = some (.cells cur e (0, 0)) := by
 rcases h.2 with ⟨rfl, _⟩ | ⟨g', cap, cur, rfl, q2, q3, q4⟩
 ·simp [Value.ownBlock] at hg
 ·simp [Value.ownBlock] at hg
  subst hg
  exact ⟨q2, cur, q3⟩
theorem own_set {w : World} {base : Nat} {e : TypeId} {g n cap j : Nat} {xs : List Value} (h : w.ownsRow base e 3 (.slice (some ⟨g, 0, none⟩) n cap) n xs) (u : Value) : (w.setCell ⟨g, j, none⟩ u).ownsRow base e 3 (.slice (some ⟨g, 0, none⟩) n cap) n (xs.set j u) := by
 refine ⟨by rw [List.length_set]; exact h.1, ?_⟩
 rcases h.2 with ⟨q, _⟩ | ⟨g', cap', cur, q1, q2, q3, q4, q5, q6, q7⟩
 ·cases q
 ·cases q1
  refine .inr ⟨g, cap, _, rfl, q2, Ba.heap_setCell_same q3 u, q4, q5, by simpa using q6, ?_⟩
  rw [Array.toList_setIfInBounds, List.take_set, q7]
structure Cw (T E : TypeId) (w : World) (B : Nat) (F : Nat → Prop) (oa : Option Addr) (c : Nat) (l : List Mb) : Prop where
 hp : w.heap[B]? = some (.cells #[.slice oa l.length c] T (0, 0))
 ow : w.ownsRow 0 E 3 (.slice oa l.length c) l.length (mc l)
 fb : F B
 fr : ∀ g, (Value.slice oa l.length c).ownBlock = some g → F g
 bd : Bd F w
 le : l.length ≤ 512
def Cq (T E : TypeId) (w : World) (B : Nat) (F : Nat → Prop) (l : List Mb) : Prop := ∃ oa c, Cw T E w B F oa c l
section
variable {T E : TypeId} {w w' : World} {B : Nat} {F K : Nat → Prop} {oa : Option Addr} {c : Nat} {l : List Mb}
theorem Cw.at (h : Cw T E w B F oa c l) : MAt w oa l ∧ l.length ≤ c := by
 obtain ⟨oa', c', e, h1, h2⟩ := owns_mat h.ow
 cases e
 exact ⟨h1, h2⟩
theorem Cw.lt (h : Cw T E w B F oa c l) : B < w.heap.size := heap_lt h.hp
theorem Cq.le (h : Cq T E w B F l) : l.length ≤ 512 := by
 obtain ⟨oa, c, h⟩ := h
 exact h.le
theorem Cq.bd (h : Cq T E w B F l) : Bd F w := by
 obtain ⟨oa, c, h⟩ := h
 exact h.bd
theorem Cw.sm (h : Cw T E w B F oa c l) (s : Sm F w w') : Cw T E w' B F oa c l :=
 ⟨s.heap h.fb h.hp, own_keep h.ow fun g e => s g (h.fr g e), h.fb, h.fr, h.bd.sm s, h.le⟩
theorem Cw.below (h : Cw T E w B F oa c l) (hb : Below w.heap.size w w') : Cw T E w' B F oa c l := h.sm (Sm.below hb h.bd)
theorem Cq.below (h : Cq T E w B F l) (hb : Below w.heap.size w w') : Cq T E w' B F l := by
 obtain ⟨oa, c, h⟩ := h
 exact ⟨oa, c, h.below hb⟩
theorem Cw.set1 {g k : Nat} {x : Mb} (h : Cw T E w B F (some ⟨g, 0, none⟩) c l) (hT : T ≠ E) (hk : l[k]? = some x) (y : Int) : Cw T E (w.setCell ⟨g, k * 3 + 1, none⟩ (.int .i64 y)) B F (some ⟨g, 0, none⟩) c (l.set k ⟨x.p, y, x.s⟩) := by
 have K := (KB.refl g w).setCell (k * 3 + 1) (.int .i64 y)
 have hg : g ≠ B := by
  intro e
  obtain ⟨_, cur, q⟩ := own_blk h.ow g rfl
  rw [e, h.hp] at q
  cases q
  exact hT rfl
 refine ⟨?_, ?_, h.fb, ?_, h.bd.mono K.size, by rw [List.length_set]; exact h.le⟩
 ·rw [List.length_set]; exact K.heap h.hp (Ne.symm hg)
 ·rw [List.length_set, ← mc_set1 l k x y hk]; exact own_set h.ow _
 ·rw [List.length_set]; exact h.fr
theorem Cw.set2 {g k : Nat} {x : Mb} (h : Cw T E w B F (some ⟨g, 0, none⟩) c l) (hT : T ≠ E) (hk : l[k]? = some x) (y : Int) : Cw T E (w.setCell ⟨g, k * 3 + 2, none⟩ (.int .i64 y)) B F (some ⟨g, 0, none⟩) c (l.set k ⟨x.p, x.q, y⟩) := by
 have K := (KB.refl g w).setCell (k * 3 + 2) (.int .i64 y)
 have hg : g ≠ B := by
  intro e
  obtain ⟨_, cur, q⟩ := own_blk h.ow g rfl
  rw [e, h.hp] at q
  cases q
  exact hT rfl
 refine ⟨?_, ?_, h.fb, ?_, h.bd.mono K.size, by rw [List.length_set]; exact h.le⟩
 ·rw [List.length_set]; exact K.heap h.hp (Ne.symm hg)
 ·rw [List.length_set, ← mc_set2 l k x y hk]; exact own_set h.ow _
 ·rw [List.length_set]; exact h.fr
def Fw (F : Nat → Prop) (v : Value) : Nat → Prop := fun k => F k ∨ v.ownBlock = some k
theorem Cw.put {v0 : Value} {m : List Mb} (hG : w.heap[B]? = some (.cells #[v0] T (0, 0))) (ow : w.ownsRow 0 E 3 (.slice oa m.length c) m.length (mc m)) (hT : T ≠ E) (fb : F B) (bd : Bd F w) (le : m.length ≤ 512) : Cw T E (w.setCell ⟨B, 0, none⟩ (.slice oa m.length c)) B (Fw F (.slice oa m.length c)) oa c m := by
 have K := (KB.refl B w).setCell 0 (.slice oa m.length c)
 refine ⟨(Ba.heap_setCell_same hG _).trans rfl, own_keep ow fun g e => ?_, .inl fb, fun g e => .inr e, ?_, le⟩
 ·obtain ⟨_, cur, q⟩ := own_blk ow g e
  refine K.block g (heap_lt q) fun e2 => ?_
  rw [e2, hG] at q
  cases q
  exact hT rfl
 ·intro k hk
  refine Nat.lt_of_lt_of_le ?_ K.size
  rcases hk with q | q
  ·exact bd k q
  ·obtain ⟨_, cur, q⟩ := own_blk ow k q
   exact heap_lt q
end
def spE (l : List Mb) (p : Int) : Int := if p < 0 then 1 else if 512 ≤ l.length then 5 else 0
def spV (l : List Mb) (p : Int) : Int := if p < 0 then 0 else if 512 ≤ l.length then 0 else l.length
def spL (l : List Mb) (p : Int) : List Mb := if p < 0 then l else if 512 ≤ l.length then l else l ++ [⟨p, 0, 0⟩]
def gt (l : List Mb) (g : Int) : Option Mb := if g < 0 then none else l[g.toNat]?
def thr (l : List Mb) (g : Int) : Bool := (gt l g).isSome
def one0 (o : Option Mb) : Mb := o.getD ⟨0, 0, 0⟩
def chE (l : List Mb) (g a : Int) : Int := match gt l g with
 | none => 6
 | some x => if x.s = a then 0 else 7
def chL (l : List Mb) (g a b d : Int) : List Mb := match gt l g with
 | none => l
 | some x => if x.s = a then l.set g.toNat ⟨x.p, x.q + d, b⟩ else l
def ablF : Nat → List Mb → List Int
 | _, [] => []
 | k, x :: l => if x.s = 0 then (k : Int) :: ablF (k + 1) l else ablF (k + 1) l
def abl (l : List Mb) : List Int := ablF 0 l
def hasS (l : List Mb) (s : Int) : Bool := l.any fun x => x.s == s
def ovr (l : List Mb) : Int := if hasS l 0 then 0 else if hasS l 1 then 2 else 1
theorem gt_none {l : List Mb} {g : Int} (h : gt l g = none) : g < 0 ∨ (l.length : Int) ≤ g := by
 unfold gt at h
 split at h
 ·exact .inl ‹_›
 ·rw [List.getElem?_eq_none_iff] at h
  omega
theorem gt_some {l : List Mb} {g : Int} {x : Mb} (h : gt l g = some x) : ∃ k : Nat, g = (k : Int) ∧ k < l.length ∧ l[k]? = some x := by
 unfold gt at h
 split at h
 ·cases h
 ·exact ⟨g.toNat, by omega, (List.getElem?_eq_some_iff.1 h).1, h⟩
theorem gt_nat (l : List Mb) (k : Nat) : gt l (k : Int) = l[k]? := by
 unfold gt
 rw [if_neg (by omega), Int.toNat_natCast]
def Bn (K : Nat) (l : List Mb) : Prop := ∀ x ∈ l, (0 ≤ x.q ∧ x.q ≤ K) ∧ 0 ≤ x.s ∧ x.s ≤ 2
theorem Bn.mono {K M : Nat} {l : List Mb} (h : Bn K l) (hK : K ≤ M) : Bn M l := fun x hx => by have := h x hx; omega
theorem Bn.at {K : Nat} {l : List Mb} (h : Bn K l) {k : Nat} {x : Mb} (hx : l[k]? = some x) : (0 ≤ x.q ∧ x.q ≤ K) ∧ 0 ≤ x.s ∧ x.s ≤ 2 := h x (List.mem_of_getElem? hx)
theorem Bn.gt {K : Nat} {l : List Mb} (h : Bn K l) {g : Int} {x : Mb} (hx : gt l g = some x) : (0 ≤ x.q ∧ x.q ≤ K) ∧ 0 ≤ x.s ∧ x.s ≤ 2 := by
 obtain ⟨k, _, _, q⟩ := gt_some hx
 exact h.at q
theorem Bn.sp {K : Nat} {l : List Mb} (h : Bn K l) (p : Int) : Bn K (spL l p) := by
 unfold spL
 split
 ·exact h
 ·split
  ·exact h
  ·intro x hx
   rcases List.mem_append.1 hx with q | q
   ·exact h x q
   ·simp at q
    subst q
    exact ⟨⟨by simp, by simp⟩, by simp, by simp⟩
theorem Bn.ch {K : Nat} {l : List Mb} (h : Bn K l) (g a b d : Int) (hb : 0 ≤ b ∧ b ≤ 2) (hd : 0 ≤ d ∧ d ≤ 1) : Bn (K + 1) (chL l g a b d) := by
 unfold chL
 cases hg : Cr.gt l g with
 | none => exact h.mono (Nat.le_succ _)
 | some x =>
   have hx := h.gt hg
   simp only
   split
   ·intro y hy
    rcases List.mem_or_eq_of_mem_set hy with q | q
    ·exact (h.mono (Nat.le_succ _)) y q
    ·subst q
     simp only
     omega
   ·exact h.mono (Nat.le_succ _)
theorem ablF_app : ∀ (k : Nat) (l m : List Mb), ablF k (l ++ m) = ablF k l ++ ablF (k + l.length) m
 | k, [], m => by simp [ablF]
 | k, x :: l, m => by
   have h := ablF_app (k + 1) l m
   rw [show k + 1 + l.length = k + (x :: l).length by simp; omega] at h
   simp only [List.cons_append, ablF, h]
   split <;> simp
theorem ablF_len : ∀ (k : Nat) (l : List Mb), (ablF k l).length ≤ l.length
 | _, [] => by simp [ablF]
 | k, x :: l => by
   have h := ablF_len (k + 1) l
   simp only [ablF]
   split <;> simp <;> omega
theorem abl_len (l : List Mb) : (abl l).length ≤ l.length := ablF_len 0 l
theorem abl_take {l : List Mb} {k : Nat} {x : Mb} (h : l[k]? = some x) : abl (l.take (k + 1)) = abl (l.take k) ++ if x.s = 0 then [(k : Int)] else [] := by
 have hk := (List.getElem?_eq_some_iff.1 h).1
 unfold abl
 rw [List.take_add_one, h, ablF_app]
 congr 1
 rw [List.length_take, Nat.min_eq_left (by omega), Nat.zero_add]
 simp [ablF]
theorem hasS_take {l : List Mb} {k : Nat} {x : Mb} (h : l[k]? = some x) (s : Int) : hasS (l.take (k + 1)) s = (hasS (l.take k) s || x.s == s) := by
 unfold hasS
 rw [List.take_add_one, h, List.any_append]
 simp
end Cr
end Go.Proofs.YtblfimobiibmjaaGreat
namespace Go.Proofs.YtblfimobiibmjaaGreat
open Go.ChangeShapes Go.WideShapes Go.ChangeAt Go.RowKit
namespace Cr
open Ba
end Cr
end Go.Proofs.YtblfimobiibmjaaGreat
namespace Go.Proofs.YtblfimobiibmjaaGreat
open Go.ChangeShapes Go.WideShapes Go.ChangeAt Go.RowKit
namespace Cr
open Ba
def Po (T E : TypeId) (w w' : World) (B : Nat) (F : Nat → Prop) (l : List Mb) : Prop := ∃ F', Cq T E w' B F' l ∧ KF F w w' ∧ Nw F' F w
theorem Po.of {T E : TypeId} {w w' : World} {B : Nat} {F : Nat → Prop} {l : List Mb} (h : Cq T E w B F l) (b : Below w.heap.size w w') : Po T E w w' B F l := ⟨F, h.below b, KF.of b, Nw.refl _ _⟩
theorem Cw.both {T E : TypeId} {w : World} {B : Nat} {F : Nat → Prop} {c : Nat} {l : List Mb} {m k : Nat} {x : Mb} (h : Cw T E w B F (some ⟨m, 0, none⟩) c l) (hT : T ≠ E) (hx : l[k]? = some x) (y b : Int) : Cw T E ((w.setCell ⟨m, k * 3 + 2, none⟩ (.int .i64 b)).setCell ⟨m, k * 3 + 1, none⟩ (.int .i64 y)) B F (some ⟨m, 0, none⟩) c (l.set k ⟨x.p, y, b⟩) := by
 have h2 := (h.set2 hT hx b).set1 hT (k := k) (x := ⟨x.p, x.q, b⟩) (by rw [List.getElem?_set_self (List.getElem?_eq_some_iff.1 hx).1]) y
 rw [List.set_set] at h2
 exact h2
def tv (a b d : Int) : Value := .agg #[.int .i64 a, .int .i64 b, .int .i64 d]
end Cr
end Go.Proofs.YtblfimobiibmjaaGreat
namespace Go.Proofs.YtblfimobiibmjaaGreat
open Go.ChangeShapes Go.WideShapes Go.ChangeAt Go.RowKit
namespace Cr
open Ba
theorem Cw.grow {T E : TypeId} {w w1 w2 : World} {B : Nat} {F : Nat → Prop} {oa oa' : Option Addr} {c c' : Nat} {l : List Mb} {x : Mb} (h : Cw T E w1 B F oa c l) (b1 : Below w.heap.size w w1) (hF : Bd F w) (hT : T ≠ E)
 (ho : w2.ownsRow 0 E 3 (.slice oa' (l ++ [x]).length c') (l ++ [x]).length (mc (l ++ [x]))) (hg : w1.grownBy w2 (Value.slice oa l.length c).ownBlock)
 (hat : (Value.slice oa' (l ++ [x]).length c').ownBlock = (Value.slice oa l.length c).ownBlock ∨ (Value.slice oa' (l ++ [x]).length c').ownBlock = some w1.heap.size) (hl : l.length < 512) :
 Po T E w (w2.setCell ⟨B, 0, none⟩ (.slice oa' (l ++ [x]).length c')) B F (l ++ [x]) := by
 have hB : some B ≠ (Value.slice oa l.length c).ownBlock := own_ty h.ow h.hp hT
 have hB2 : w2.heap[B]? = some (.cells #[.slice oa l.length c] T (0, 0)) := (hg.block B h.lt hB).trans h.hp
 have kf : KF F w w2 := by
  refine ⟨hg.os.trans b1.os, hg.tape.trans b1.tape, hg.output.trans b1.output, Nat.le_trans b1.size hg.size, fun k hk hn => ?_⟩
  refine (hg.block k (Nat.lt_of_lt_of_le hk b1.size) ?_).trans (b1.block k hk)
  intro e
  exact hn (h.fr k e.symm)
 refine ⟨_, ⟨oa', c', Cw.put hB2 ho hT h.fb ((hF.mono b1.size).mono hg.size) (by simp; omega)⟩, kf.set h.fb _ _, ?_⟩
 intro k hk
 rcases hk with q | q
 ·exact .inl q
 ·rcases hat with e | e
  ·rw [e] at q
   exact .inl (h.fr k q)
  ·rw [e] at q
   cases q
   exact .inr b1.size
end Cr
end Go.Proofs.YtblfimobiibmjaaGreat
namespace Go.Proofs.YtblfimobiibmjaaGreat
open Go.ChangeShapes Go.WideShapes Go.ChangeAt Go.RowKit
namespace Cr
open Ba
def ic (l : List Int) : List Value := l.map (Value.int .i64)
theorem ic_app (l m : List Int) : ic (l ++ m) = ic l ++ ic m := by simp [ic]
theorem info_i : (Tryz.prog.info? 3).map (fun i => (i.zero, i.size, i.bytes)) = some (some (.int .i64 0), 1, 8) := by kernel_rfl
theorem own_at {w : World} {base : Nat} {v : Value} {l : List Int} (h : w.ownsRow base 3 1 v l.length (ic l)) : ∃ oa c, v = .slice oa l.length c ∧ At w oa l ∧ l.length ≤ c := by
 rcases h.2 with ⟨rfl, h0⟩ | ⟨g, cap, cur, rfl, _, hg, hc, _, hcs, htk⟩
 ·refine ⟨none, 0, by rw [h0], ?_, by omega⟩
  obtain rfl := List.eq_nil_of_length_eq_zero h0
  exact At.nil _ _
 ·refine ⟨_, cap, rfl, ?_, hc⟩
  intro k hk
  refine ⟨g, 0, rfl, ?_⟩
  have q : (ic l)[k]? = some (.int .i64 (nth l k)) := by simp [ic, nth, hk]
  rw [← htk, List.getElem?_take_of_lt (by omega)] at q
  rw [Nat.zero_add, cell_of hg]
  simpa using q
end Cr
end Go.Proofs.YtblfimobiibmjaaGreat
namespace Go.Proofs.YtblfimobiibmjaaGreat
open Go.ChangeShapes Go.WideShapes Go.ChangeAt Go.RowKit
namespace Ba
theorem info_int : (Tryz.prog.info? 3).map (fun i => (i.zero, i.size, i.bytes)) = some (some (.int .i64 0), 1, 8) := by kernel_rfl
end Ba
end Go.Proofs.YtblfimobiibmjaaGreat
namespace Go.Proofs.YtblfimobiibmjaaGreat
open Go.ChangeShapes Go.WideShapes Go.ChangeAt Go.RowKit
namespace De
open Ba Re
structure Cs where
 send : Bool
 ch : Int
 val : Int
structure OpD where
 kind : Int
 a : Int
 b : Int
 cases : List Cs
 def_ : Bool
def CAt (w : World) (oa : Option Addr) (l : List Cs) : Prop :=
 ∀ k, ∀ x, l[k]? = some x → ∃ b off, oa = some ⟨b, off, none⟩ ∧ w.cell? ⟨b, off + k * 3, none⟩ = some (.bool x.send) ∧ w.cell? ⟨b, off + k * 3 + 1, none⟩ = some (.int .i64 x.ch) ∧ w.cell? ⟨b, off + k * 3 + 2, none⟩ = some (.int .i64 x.val)
theorem CAt.below {w w' : World} {oa : Option Addr} {l : List Cs} (h : CAt w oa l) (hb : Below w.heap.size w w') : CAt w' oa l := by
 intro k x hk
 obtain ⟨b, off, he, h1, h2, h3⟩ := h k x hk
 exact ⟨b, off, he, (hb.cell (World.block_lt_of_cell? w _ h1)).trans h1, (hb.cell (World.block_lt_of_cell? w _ h2)).trans h2, (hb.cell (World.block_lt_of_cell? w _ h3)).trans h3⟩
def okP (p : Int) : Bool := decide (1 ≤ p) && decide (p ≤ 8)
def upB (n m : Int) : Bool := decide (0 ≤ n) && decide (n ≤ m)
def mA (k p : Int) : Int := if k = 1 then p - 1 else if k = 2 ∨ k = 3 ∨ k = 4 ∨ k = 5 ∨ k = 7 ∨ k = 8 then 7 else 0
def mB (k : Int) : Int := if k = 2 then 4 else if k = 3 then 99 else 0
theorem kind_cases {k : Int} (h1 : 1 ≤ k) (h2 : k ≤ 9) : k = 1 ∨ k = 2 ∨ k = 3 ∨ k = 4 ∨ k = 5 ∨ k = 6 ∨ k = 7 ∨ k = 8 ∨ k = 9 := by omega
def okC (x : Cs) : Bool := upB x.ch 7 && upB x.val (bif x.send then 99 else 0)
def chk (o : OpD) (p : Int) : Int :=
 if (okP p && (decide (1 ≤ o.kind) && decide (o.kind ≤ 9))) = false then 1
 else if 4 < o.cases.length then 2
 else if (upB o.a (mA o.kind p) && upB o.b (mB o.kind)) = false then 4
 else if o.kind ≠ 6 ∧ (o.def_ || decide (0 < o.cases.length)) = true then 4
 else if o.cases.all okC then 0 else 4
end De
end Go.Proofs.YtblfimobiibmjaaGreat
namespace Go.Proofs.YtblfimobiibmjaaGreat
open Go.ChangeShapes Go.WideShapes Go.ChangeAt Go.RowKit
namespace De
open Ba Re
theorem all_no {l : List Cs} {j : Nat} {x : Cs} (hx : l[j]? = some x) (h : okC x = false) : l.all okC = false := by
 rw [List.all_eq_false]
 exact ⟨x, List.mem_of_getElem? hx, by simp [h]⟩
theorem all_yes {l : List Cs} (h : ∀ (q : Nat) (x : Cs), l[q]? = some x → okC x = true) : l.all okC = true := by
 rw [List.all_eq_true]
 intro x hx
 obtain ⟨q, hq⟩ := List.getElem?_of_mem hx
 exact h q x hq
theorem okP_iff (p : Int) : okP p = true ↔ 1 ≤ p ∧ p ≤ 8 := by simp [okP]
end De
end Go.Proofs.YtblfimobiibmjaaGreat
namespace Go.Proofs.YtblfimobiibmjaaGreat
open Go.ChangeShapes Go.WideShapes Go.ChangeAt Go.RowKit
namespace De
open Ba Re
end De
end Go.Proofs.YtblfimobiibmjaaGreat
