import Derived.Test.YtblfimobiibmjaaGreatZjAh19
import Derived.Test.YtblfimobiibmjaaGreatAxj
import Derived.Deep.RegionHeld3
namespace Go.Proofs.YtblfimobiibmjaaGreat
open Go.ChangeShapes Go.WideShapes Go.ChangeAt Go.RowKit
namespace Ax
open En Gu Eg Ba
def rwK (l : List Ev) (k c b : Nat) : List Nat := if b = 0 then (cmpL l c true k).map (bg l) else if b = 1 then (cmpL l c false k).map (bg l) else shutL l c k
theorem shut_next {l : List Ev} {n : Nat} {e : Ev} (he : l[n]? = some e) (c : Int) : shutL l c (n + 1) = shutL l c n ++ if e.k = 5 ∧ e.c = c then [n] else [] := by
 unfold shutL
 rw [List.range_succ, List.filter_append]
 congr 1
 simp only [List.filter_cons, List.filter_nil, he]
 by_cases q : e.k = 5 ∧ e.c = c
 ·rw [if_pos q, if_pos (by simp [q])]
 ·rw [if_neg q, if_neg (by simpa using q)]
theorem rw_skip {l : List Ev} {k : Nat} {e : Ev} (he : l[k]? = some e) {y : Nat} (hc : e.c ≠ (y : Int)) (z : Nat) : rwK l (k + 1) y z = rwK l k y z := by
 have h0 : ∀ b, cmp l (y : Int) b k = false := fun b => by unfold cmp; rw [he]; simp [hc]
 unfold rwK
 rw [cmp_succ, cmp_succ, h0, h0, shut_next he, show (if e.k = 5 ∧ e.c = (y : Int) then [k] else []) = [] from if_neg (fun q => hc q.2)]
 simp
theorem rw_next {l : List Ev} (h : Tok l) {k : Nat} {e : Ev} (he : l[k]? = some e) {d : Nat} (hd : e.c = (d : Int)) (y z : Nat) (hz : z < 3) :
 rwK l (k + 1) y z = if y = d ∧ z = kd e then rwK l k y z ++ [if e.k = 7 then (latF l e.g k).getD 0 else k] else rwK l k y z := by
 have hq : (if e.k = 7 then (latF l e.g k).getD 0 else k) = bg l k := by
  by_cases h7 : e.k = 7
  ·rw [if_pos h7, lat_bg h he h7]
   rfl
  ·rw [if_neg h7]
   unfold bg
   rw [he]
   simp [h7]
 rw [hq]
 by_cases hy : y = d
 ·subst hy
  have c0 : cmp l (y : Int) true k = (decide (e.k = 3) || (decide (e.k = 7) && e.s)) := by unfold cmp; rw [he]; simp [hd]
  have c1 : cmp l (y : Int) false k = (!(decide (e.k = 3) || (decide (e.k = 7) && e.s)) && ((decide (e.k = 4) && e.o) || (decide (e.k = 7) && e.o))) := by unfold cmp; rw [he]; simp [hd]
  have b5 : e.k = 5 → bg l k = k := fun q => by unfold bg; rw [he]; simp [q]
  unfold rwK
  rw [cmp_succ, cmp_succ, c0, c1, shut_next he]
  have kk : e.k = 2 ∨ e.k = 3 ∨ e.k = 4 ∨ e.k = 5 ∨ e.k = 7 ∨ (e.k ≠ 2 ∧ e.k ≠ 3 ∧ e.k ≠ 4 ∧ e.k ≠ 5 ∧ e.k ≠ 7) := by omega
  obtain rfl | rfl | rfl : z = 0 ∨ z = 1 ∨ z = 2 := by omega
  all_goals
   rcases kk with q | q | q | q | q | ⟨q1, q2, q3, q4, q5⟩
   all_goals
    cases hs : e.s <;> cases ho : e.o <;> simp [kd, *]
 ·rw [if_neg (fun q => hy q.1)]
  exact rw_skip he (by omega) z
structure SI (w wr : World) (N A M P : Nat) (l : List Ev) (G C k : Nat) : Prop where
 le : k ≤ l.length
 bl : Below w.heap.size w wr
 sc : ∃ vs, SC wr N A M G C (fun g => (latF l (g : Int) k).getD 0) (fun g => exF l (g : Int) k) (fun c => (inn l k (c : Int)).size) (rwK l k) vs
 nn : N ≤ wr.heap.size
 b1 : w.heap.size < A
 b2 : w.heap.size < M
 b3 : w.heap.size < P
 pm : P ≠ M
 pa : P ≠ A
 s3 : wr.heap[P]? = some (.cells #[.slice (some ⟨A, 0, none⟩) G G, .slice (some ⟨M, 0, none⟩) C C] 145 (0, 0))
 s2 : wr.heap[w.heap.size]? = some (.cells #[.slice none 0 0, .slice none 0 0] 145 (0, 0))
section
variable {w wr W : World} {N A M P G C k : Nat} {l : List Ev} {e : Ev}
theorem SI.below (h : SI w wr N A M P l G C k) (b : Below wr.heap.size wr W) : SI w W N A M P l G C k := by
 obtain ⟨vs, sc⟩ := h.sc
 exact ⟨h.le, btr h.bl b, ⟨vs, sc.below b⟩, Nat.le_trans h.nn b.size, h.b1, h.b2, h.b3, h.pm, h.pa, heap_below h.s3 b, heap_below h.s2 b⟩
structure SJ (w wr : World) (N A M P : Nat) (l : List Ev) (G C k : Nat) : Prop where
 bl : Below w.heap.size w wr
 sc : ∃ vs, SC wr N A M G C (fun g => (latF l (g : Int) k).getD 0) (fun g => exF l (g : Int) k) (fun c => (inn l (k + 1) (c : Int)).size) (rwK l (k + 1)) vs
 nn : N ≤ wr.heap.size
 b1 : w.heap.size < A
 b2 : w.heap.size < M
 b3 : w.heap.size < P
 pm : P ≠ M
 pa : P ≠ A
 s3 : wr.heap[P]? = some (.cells #[.slice (some ⟨A, 0, none⟩) G G, .slice (some ⟨M, 0, none⟩) C C] 145 (0, 0))
 s2 : wr.heap[w.heap.size]? = some (.cells #[.slice none 0 0, .slice none 0 0] 145 (0, 0))
theorem SI.skip (h : SI w wr N A M P l G C k) (he : l[k]? = some e) (hc : e.c = -1) : SJ w wr N A M P l G C k := by
 obtain ⟨vs, sc⟩ := h.sc
 refine ⟨h.bl, ⟨vs, sc.congr (fun _ _ => rfl) (fun _ _ => rfl) (fun c _ => ?_) (fun c _ b _ => rw_skip he (by omega) b)⟩, h.nn, h.b1, h.b2, h.b3, h.pm, h.pa, h.s3, h.s2⟩
 rw [size_next he, if_neg (fun z => by have := z.1; omega)]
theorem SI.note (h : SI w wr N A M P l G C k) (T : Tok l) (he : l[k]? = some e) {d : Nat} (hd : e.c = (d : Int)) {q : Nat} (hq : q = if e.k = 7 then (latF l e.g k).getD 0 else k)
 (n : NoP wr W N A M G C (fun g => (latF l (g : Int) k).getD 0) (fun g => exF l (g : Int) k) (fun c => (inn l k (c : Int)).size) (rwK l k) e d q (w.heap.size + 1)) (hN : N ≤ W.heap.size) : SJ w W N A M P l G C k := by
 obtain ⟨⟨vs, sc⟩, bl, kp⟩ := n
 refine ⟨h.bl.trans (bl.mono (Nat.le_succ _)), ⟨vs, sc.congr (fun _ _ => rfl) (fun _ _ => rfl) (fun c _ => ?_) (fun c _ b hb => ?_)⟩, hN, h.b1, h.b2, h.b3, h.pm, h.pa, (kp _ _ _ _ h.s3 (by decide) h.pm).trans h.s3, (kp _ _ _ _ h.s2 (by decide) (by have := h.b2; omega)).trans h.s2⟩
 ·rw [size_next he]
  by_cases z : c = d ∧ e.k = 2
  ·rw [if_pos z, if_pos ⟨by rw [hd, z.1], z.2⟩]
  ·rw [if_neg z, if_neg (fun q => z ⟨by have := q.1; omega, q.2⟩)]
 ·rw [rw_next T he hd c b hb, hq]
theorem SJ.below (h : SJ w wr N A M P l G C k) (b : Below wr.heap.size wr W) : SJ w W N A M P l G C k := by
 obtain ⟨vs, sc⟩ := h.sc
 exact ⟨btr h.bl b, ⟨vs, sc.below b⟩, Nat.le_trans h.nn b.size, h.b1, h.b2, h.b3, h.pm, h.pa, heap_below h.s3 b, heap_below h.s2 b⟩
theorem SJ.compact (h : SJ w wr N A M P l G C k) (he : l[k]? = some e) (h13 : e.k = 13) : SI w wr N A M P l G C (k + 1) := by
 have hk := lt_get he
 obtain ⟨vs, sc⟩ := h.sc
 refine ⟨by omega, h.bl, ⟨vs, sc.congr (fun g _ => ?_) (fun g _ => ?_) (fun _ _ => rfl) (fun _ _ _ _ => rfl)⟩, h.nn, h.b1, h.b2, h.b3, h.pm, h.pa, h.s3, h.s2⟩
 ·rw [lat_succ he, if_neg (by omega)]
 ·rw [ex_succ he, if_neg (by omega)]
theorem own_cells2 {b : Nat} {X Y : World} (h : ∀ k, k ≠ A → X.heap[k]? = Y.heap[k]?) {o : Obj} (hb : b ≠ A) (hy : Y.heap[b]? = some o) : X.heap[b]? = some o := (h b hb).trans hy
theorem SJ.own (h : SJ w wr N A M P l G C k) (he : l[k]? = some e) (h13 : e.k ≠ 13) (h1 : e.k ≠ 1) {g : Nat} (hg : e.g = (g : Int)) (hgG : g < G) : SI w ((wr.setCell ⟨A, g * 2, none⟩ (.int .i64 (k : Int))).setCell ⟨A, g * 2 + 1, none⟩ (.bool (e.k == 11))) N A M P l G C (k + 1) := by
 have hk := lt_get he
 obtain ⟨vs, sc⟩ := h.sc
 have K := ((KB.refl A wr).setCell (g * 2) (.int .i64 (k : Int))).setCell (g * 2 + 1) (.bool (e.k == 11))
 refine ⟨by omega, below_kb h.bl K (Nat.le_of_lt h.b1) h.bl.size, ⟨vs, ((sc.setG hgG k).setX hgG (e.k == 11)).congr (fun y _ => ?_) (fun y _ => ?_) (fun _ _ => rfl) (fun _ _ _ _ => rfl)⟩, Nat.le_trans h.nn K.size, h.b1, h.b2, h.b3, h.pm, h.pa, KB.heap K h.s3 h.pa, KB.heap K h.s2 (by have := h.b1; omega)⟩
 ·rw [lat_succ he]
  by_cases q : y = g
  ·rw [if_pos q, if_pos (.inl ⟨h13, by rw [hg, q]⟩)]
   rfl
  ·rw [if_neg q, if_neg (by omega)]
 ·rw [ex_succ he]
  by_cases q : y = g
  ·rw [if_pos q, if_pos ⟨h13, by rw [hg, q]⟩, Bool.eq_iff_iff]
   simp
  ·rw [if_neg q, if_neg (by omega)]
theorem SJ.spawn (h : SJ w wr N A M P l G C k) (he : l[k]? = some e) (h1 : e.k = 1) {g m : Nat} (hg : e.g = (g : Int)) (hgG : g < G) (hm : e.m = (m : Int)) (hmG : m < G) :
 SI w (((wr.setCell ⟨A, m * 2, none⟩ (.int .i64 (k : Int))).setCell ⟨A, g * 2, none⟩ (.int .i64 (k : Int))).setCell ⟨A, g * 2 + 1, none⟩ (.bool (e.k == 11))) N A M P l G C (k + 1) := by
 have hk := lt_get he
 obtain ⟨vs, sc⟩ := h.sc
 have K := (((KB.refl A wr).setCell (m * 2) (.int .i64 (k : Int))).setCell (g * 2) (.int .i64 (k : Int))).setCell (g * 2 + 1) (.bool (e.k == 11))
 refine ⟨by omega, below_kb h.bl K (Nat.le_of_lt h.b1) h.bl.size, ⟨vs, (((sc.setG hmG k).setG hgG k).setX hgG (e.k == 11)).congr (fun y _ => ?_) (fun y _ => ?_) (fun _ _ => rfl) (fun _ _ _ _ => rfl)⟩, Nat.le_trans h.nn K.size, h.b1, h.b2, h.b3, h.pm, h.pa, KB.heap K h.s3 h.pa, KB.heap K h.s2 (by have := h.b1; omega)⟩
 ·rw [lat_succ he]
  by_cases q : y = g
  ·rw [if_pos q, if_pos (.inl ⟨by omega, by rw [hg, q]⟩)]
   rfl
  ·rw [if_neg q]
   by_cases q2 : y = m
   ·rw [if_pos q2, if_pos (.inr ⟨h1, by rw [hm, q2]⟩)]
    rfl
   ·rw [if_neg q2, if_neg (by omega)]
 ·rw [ex_succ he]
  by_cases q : y = g
  ·rw [if_pos q, if_pos ⟨by omega, by rw [hg, q]⟩, Bool.eq_iff_iff]
   simp
  ·rw [if_neg q, if_neg (by omega)]
end
theorem rw_len (l : List Ev) (k c b : Nat) : (rwK l k c b).length ≤ k := by
 unfold rwK
 split
 ·rw [List.length_map]
  exact Nat.le_trans (List.length_filter_le _ _) (by simp)
 ·split
  ·rw [List.length_map]
   exact Nat.le_trans (List.length_filter_le _ _) (by simp)
  ·exact Nat.le_trans (List.length_filter_le _ _) (by simp)
theorem al_at {w : World} {o : Obj} {k : Nat} (h : k = w.heap.size) : (w.alloc o).heap[k]? = some o := by
 subst h
 exact heap_new w o
theorem al_past {w : World} {o o' : Obj} {k : Nat} (h : w.heap[k]? = some o) : (w.alloc o').heap[k]? = some o := heap_below h (below_alloc w o')
theorem st_past {w : World} {o : Obj} {k b i : Nat} {v : Value} (hk : k ≠ b) (h : w.heap[k]? = some o) : (w.setCell ⟨b, i, none⟩ v).heap[k]? = some o := (Below.heap_setCell _ _ _ _ hk).trans h
theorem st_two {w : World} {b : Nat} {a c x y : Value} {t : TypeId} (h : w.heap[b]? = some (.cells #[a, c] t (0, 0))) : ((w.setCell ⟨b, 0, none⟩ x).setCell ⟨b, 1, none⟩ y).heap[b]? = some (.cells #[x, y] t (0, 0)) := Ba.heap_setCell_same (Ba.heap_setCell_same h x) y
theorem al_k {w : World} {o o' : Obj} {k : Nat} (h : k = w.heap.size) (e : o' = o) : (w.alloc o').heap[k]? = some o := e ▸ al_at h
theorem al1 (w : World) (o' o : Obj) : ((w.alloc o').alloc o).heap[w.heap.size + 1]? = some o := al_at (World.size_alloc ..).symm
theorem st_size (w : World) (a : Addr) (v : Value) : (w.setCell a v).heap.size = w.heap.size := by simp [World.setCell]
theorem st_below {B b i : Nat} {a w : World} {v : Value} (hb : B ≤ b) (h : Below B a w) : Below B a (w.setCell ⟨b, i, none⟩ v) := h.setCell hb v
theorem dr_past {w : World} {o : Obj} {k : Nat} (h : w.heap[k]? = some o) : w.drew.heap[k]? = some o := h
theorem dr_size (w : World) : w.drew.heap.size = w.heap.size := rfl
theorem zb_facts {u : World} {P : Nat} {t : TypeId} {a c : Value} (h : u.heap[P]? = some (.cells #[a, c] t (0, 0))) : u.cell? ⟨P, 0, none⟩ = some a ∧ u.cell? ⟨P, 1, none⟩ = some c ∧ u.frozen? ⟨P, 0, none⟩ = false ∧ u.frozen? ⟨P, 1, none⟩ = false ∧ P < u.heap.size := ⟨cell_of h 0, cell_of h 1, frozen_of h 0, frozen_of h 1, heap_lt h⟩
theorem zb_arm {Q : Prop} {u : World} {P : Nat} {t : TypeId} {a c : Value} (h : u.heap[P]? = some (.cells #[a, c] t (0, 0))) (k : (u.heap[P]? = some (.cells #[a, c] t (0, 0)) ∧ u.cell? ⟨P, 0, none⟩ = some a ∧ u.cell? ⟨P, 1, none⟩ = some c ∧ u.frozen? ⟨P, 0, none⟩ = false ∧ u.frozen? ⟨P, 1, none⟩ = false ∧ P < u.heap.size) → Q) : Q := k ⟨h, zb_facts h⟩
theorem size_scn : (Tryz.prog.info? 145).map (·.size) = some 2 := by kernel_rfl
theorem loadVar_scn {w : World} {b : Nat} {c : Array Value} {t : TypeId} (h : w.heap[b]? = some (.cells c t (0, 0))) (hc : c.size = 2) : (loadVar 145 ⟨b, 0, none⟩).run Tryz.prog w = .ok (.agg c) w :=
 run_loadVar_row w b t _ _ _ _ h Tryz.underlying145 rfl (by rw [size_scn, hc])
theorem SC.away {w : World} {N A M G C : Nat} {la : Nat → Nat} {ex : Nat → Bool} {sz : Nat → Int} {D : Nat → Nat → List Nat} {vs : Nat → Nat → Value} (h : SC w N A M G C la ex sz D vs) {R o : Nat} {x : Value} (h1 : R ≠ A) (h2 : R ≠ M) (h3 : R < N) : SC (w.setCell ⟨R, o, none⟩ x) N A M G C la ex sz D vs := by
 obtain ⟨cur, a, r⟩ := h.gr
 obtain ⟨cur2, a2, r2⟩ := h.ch
 exact ⟨⟨cur, (Below.heap_setCell _ _ _ _ (fun e => h1 e.symm)).trans a, r⟩, ⟨cur2, (Below.heap_setCell _ _ _ _ (fun e => h2 e.symm)).trans a2, r2⟩, fun c hc b hb => rn_other (h.rn c hc b hb) h3, h.dj, h.ha, h.hm⟩
theorem sc_zero {w : World} {A M G C : Nat} (l : List Ev) (h1 : w.heap[A]? = some (.cells (madeCells #[.int .i64 0, .bool false] (G * 2)) 148 (0, 0))) (h2 : w.heap[M]? = some (.cells (madeCells #[.int .i64 0, .slice none 0 0, .slice none 0 0, .slice none 0 0] (C * 4)) 192 (0, 0))) :
 SC w w.heap.size A M G C (fun g => (latF l (g : Int) 0).getD 0) (fun g => exF l (g : Int) 0) (fun c => (inn l 0 (c : Int)).size) (rwK l 0) (fun _ _ => .slice none 0 0) := by
 refine ⟨⟨_, h1, size_madeCells _ _, fun g hg => made_g G g hg⟩, ⟨_, h2, size_madeCells _ _, fun c hc => made_c C c hc⟩, fun c hc b hb => ?_, fun _ _ _ _ _ _ _ _ _ g hg => by simp [Value.ownBlock] at hg, heap_lt h1, heap_lt h2⟩
 have : rwK l 0 c b = [] := by
  have := rw_len l 0 c b
  exact List.length_eq_zero_iff.1 (by omega)
 rw [this]
 exact Rn.nil _ _
set_option maxRecDepth 100000 in
set_option maxHeartbeats 12800000 in
theorem scene_any (oa : Option Addr) (l : List Ev) (c : Nat) (w : World) (hA : EsAt w oa l) (h : Tok l) (hl : l.length ≤ 1000) :
 Calls Tryz.prog 92 #[.slice oa l.length c] w fun r w' => ∃ N A M, r = .returned (.agg #[.slice (some ⟨A, 0, none⟩) (there l) (there l), .slice (some ⟨M, 0, none⟩) (mkN l) (mkN l)]) ∧
  (∃ vs, SC w' N A M (there l) (mkN l) (fun g => (latF l (g : Int) l.length).getD 0) (fun g => exF l (g : Int) l.length) (fun c => (inn l l.length (c : Int)).size) (rwK l l.length) vs) ∧ w.heap.size ≤ A ∧ w.heap.size ≤ M ∧ N ≤ w'.heap.size ∧ Below w.heap.size w w' := by
 have GO := hide (fun u (b : Below w.heap.size w u) => gors_any oa l c u (hA.below b) (by omega) (hw_g h))
 rw [gor_is h (by omega)] at GO
 have CO := hide (fun u (b : Below w.heap.size w u) => chans_any oa l c u (hA.below b) (by omega) (hw_c h))
 rw [chn_is h (by omega)] at CO
 have HA := hide hA
 have H := hide h
 have GL := Eg.there_le l
 have CL := mkN_le l
 obtain ⟨L, hM⟩ : ∃ L, l.length = L := ⟨_, rfl⟩
 obtain ⟨G, hG⟩ : ∃ G, there l = G := ⟨_, rfl⟩
 obtain ⟨C, hC⟩ : ∃ C, mkN l = C := ⟨_, rfl⟩
 have HM := hide hM
 have HG := hide hG
 have HC := hide hC
 rw [hM, hG] at GL
 rw [hM, hC] at CL
 rw [hM] at GO CO hl ⊢
 rw [hG] at GO ⊢
 rw [hC] at CO ⊢
 have mkG := fun u => mk_g u G (by omega)
 have mkC := fun u => mk_c u C (by omega)
 have ZA := hide (below_alloc w (.cells #[.slice none 0 0, .slice none 0 0] 145))
 have Z0 := hide (heap_new w (.cells #[.slice none 0 0, .slice none 0 0] 145))
 have ZL : Hid (w.heap.size < (w.alloc (.cells #[.slice none 0 0, .slice none 0 0] 145)).heap.size) := by
  show _ < _
  rw [World.size_alloc]
  omega
 clear hA h hM hG hC
 go_enter Tryz.func92, Tryz.ntmps92
 go_upto_region 1 with fail
 go_cut [3, 8, 11] (fun s3 s8 s11 wc => ∃ P A M, s3 = .pointer (some ⟨P, 0, none⟩) ∧ s8 = .slice (some ⟨A, 0, none⟩) G G ∧ s11 = .slice (some ⟨M, 0, none⟩) C C ∧ wc.heap[P]? = some (.cells #[.slice (some ⟨A, 0, none⟩) G G, .slice (some ⟨M, 0, none⟩) C C] 145 (0, 0)) ∧ wc.heap[A]? = some (.cells (madeCells #[.int .i64 0, .bool false] (G * 2)) 148 (0, 0)) ∧ wc.heap[M]? = some (.cells (madeCells #[.int .i64 0, .slice none 0 0, .slice none 0 0, .slice none 0 0] (C * 4)) 192 (0, 0)) ∧ Below (w.alloc (.cells #[.slice none 0 0, .slice none 0 0] 145)).heap.size (w.alloc (.cells #[.slice none 0 0, .slice none 0 0] 145)) wc ∧ w.heap.size < A ∧ w.heap.size < M ∧ w.heap.size < P)
 case first =>
  go_region_with (first
   | (go_at_call 56; refine (GO.out _ ?_).mono ?_; (refine btr ZA.out ?_; repeat first | exact Below.refl _ _ | exact bdrew1 _ | refine btr ?_ (below_alloc _ _) | refine btr ?_ (bdrew1 _) | refine btr ?_ c1 | refine btr ?_ c2); rintro r u1 ⟨rfl, c1⟩; have su1 := c1.size; (first | (refine zb_arm (u := u1) (t := 145) (a := .slice none 0 0) (c := .slice none 0 0) (heap_below (dr_past (al1 _ _ _)) c1) ?_; rintro ⟨hq, z0, z1, z2, z3, z4⟩; have z5 := Nat.le_of_lt z4; (first | (have z6 : w.heap.size < u1.heap.size := Nat.lt_of_succ_lt z4) | (have z6 : u1.heap.size < u1.heap.size := Nat.lt_of_succ_lt z4) | skip)) | (refine zb_arm (u := u1) (t := 145) (a := .slice none 0 0) (c := .slice none 0 0) (heap_below hq c1) ?_; rintro ⟨hq, z0, z1, z2, z3, z4⟩; have z5 := Nat.le_of_lt z4; (first | (have z6 : w.heap.size < u1.heap.size := Nat.lt_of_succ_lt z4) | (have z6 : u1.heap.size < u1.heap.size := Nat.lt_of_succ_lt z4) | skip)) | (refine zb_arm (u := u1) (t := 145) (a := .slice none 0 0) (c := .slice none 0 0) (heap_below (al_past hq) c1) ?_; rintro ⟨hq, z0, z1, z2, z3, z4⟩; have z5 := Nat.le_of_lt z4; (first | (have z6 : w.heap.size < u1.heap.size := Nat.lt_of_succ_lt z4) | (have z6 : u1.heap.size < u1.heap.size := Nat.lt_of_succ_lt z4) | skip)) | (refine zb_arm (u := u1) (t := 145) (a := .slice none 0 0) (c := .slice none 0 0) (heap_below (al1 _ _ _) c1) ?_; rintro ⟨hq, z0, z1, z2, z3, z4⟩; have z5 := Nat.le_of_lt z4; (first | (have z6 : w.heap.size < u1.heap.size := Nat.lt_of_succ_lt z4) | (have z6 : u1.heap.size < u1.heap.size := Nat.lt_of_succ_lt z4) | skip)) | (refine zb_arm (u := u1) (t := 145) (a := .slice none 0 0) (c := .slice none 0 0) (heap_below (heap_new _ _) c1) ?_; rintro ⟨hq, z0, z1, z2, z3, z4⟩; have z5 := Nat.le_of_lt z4; (first | (have z6 : w.heap.size < u1.heap.size := Nat.lt_of_succ_lt z4) | (have z6 : u1.heap.size < u1.heap.size := Nat.lt_of_succ_lt z4) | skip)) | (refine zb_arm (u := u1) (t := 145) (a := .slice none 0 0) (c := .slice none 0 0) (heap_below (al_past (heap_new _ _)) c1) ?_; rintro ⟨hq, z0, z1, z2, z3, z4⟩; have z5 := Nat.le_of_lt z4; (first | (have z6 : w.heap.size < u1.heap.size := Nat.lt_of_succ_lt z4) | (have z6 : u1.heap.size < u1.heap.size := Nat.lt_of_succ_lt z4) | skip)) | skip))
   | (go_at_call 64; refine (CO.out _ ?_).mono ?_; (refine btr ZA.out ?_; repeat first | exact Below.refl _ _ | exact bdrew1 _ | refine btr ?_ (below_alloc _ _) | refine btr ?_ (bdrew1 _) | refine btr ?_ c1 | refine btr ?_ c2); rintro r u2 ⟨rfl, c2⟩; have su2 := c2.size; (first | (refine zb_arm (u := u2) (t := 145) (a := .slice none 0 0) (c := .slice none 0 0) (heap_below (dr_past (al1 _ _ _)) c2) ?_; rintro ⟨hq, z0, z1, z2, z3, z4⟩; have z5 := Nat.le_of_lt z4; (first | (have z6 : w.heap.size < u2.heap.size := Nat.lt_of_succ_lt z4) | (have z6 : u1.heap.size < u2.heap.size := Nat.lt_of_succ_lt z4) | skip)) | (refine zb_arm (u := u2) (t := 145) (a := .slice none 0 0) (c := .slice none 0 0) (heap_below hq c2) ?_; rintro ⟨hq, z0, z1, z2, z3, z4⟩; have z5 := Nat.le_of_lt z4; (first | (have z6 : w.heap.size < u2.heap.size := Nat.lt_of_succ_lt z4) | (have z6 : u1.heap.size < u2.heap.size := Nat.lt_of_succ_lt z4) | skip)) | (refine zb_arm (u := u2) (t := 145) (a := .slice none 0 0) (c := .slice none 0 0) (heap_below (al_past hq) c2) ?_; rintro ⟨hq, z0, z1, z2, z3, z4⟩; have z5 := Nat.le_of_lt z4; (first | (have z6 : w.heap.size < u2.heap.size := Nat.lt_of_succ_lt z4) | (have z6 : u1.heap.size < u2.heap.size := Nat.lt_of_succ_lt z4) | skip)) | (refine zb_arm (u := u2) (t := 145) (a := .slice none 0 0) (c := .slice none 0 0) (heap_below (al1 _ _ _) c2) ?_; rintro ⟨hq, z0, z1, z2, z3, z4⟩; have z5 := Nat.le_of_lt z4; (first | (have z6 : w.heap.size < u2.heap.size := Nat.lt_of_succ_lt z4) | (have z6 : u1.heap.size < u2.heap.size := Nat.lt_of_succ_lt z4) | skip)) | (refine zb_arm (u := u2) (t := 145) (a := .slice none 0 0) (c := .slice none 0 0) (heap_below (heap_new _ _) c2) ?_; rintro ⟨hq, z0, z1, z2, z3, z4⟩; have z5 := Nat.le_of_lt z4; (first | (have z6 : w.heap.size < u2.heap.size := Nat.lt_of_succ_lt z4) | (have z6 : u1.heap.size < u2.heap.size := Nat.lt_of_succ_lt z4) | skip)) | (refine zb_arm (u := u2) (t := 145) (a := .slice none 0 0) (c := .slice none 0 0) (heap_below (al_past (heap_new _ _)) c2) ?_; rintro ⟨hq, z0, z1, z2, z3, z4⟩; have z5 := Nat.le_of_lt z4; (first | (have z6 : w.heap.size < u2.heap.size := Nat.lt_of_succ_lt z4) | (have z6 : u1.heap.size < u2.heap.size := Nat.lt_of_succ_lt z4) | skip)) | skip)))
  all_goals
   go_wp2_with fail
   go_meet
   simp only [World.size_alloc, dr_size] at su1 su2
   refine ⟨_, _, _, rfl, rfl, rfl, ?_, ?_, ?_, ?_, ?_, ?_, ?_⟩
   ·(repeat first | (refine al_k ?_ ?_; (simp only [World.size_alloc, st_size]); exact rfl) | refine al_past ?_ | exact hq | exact st_two hq | refine heap_below ?_ c2 | refine heap_below ?_ c1 | refine st_past (by omega) ?_)
   ·(repeat first | (refine al_k ?_ ?_; (simp only [World.size_alloc, st_size]); exact rfl) | refine al_past ?_ | exact hq | exact st_two hq | refine heap_below ?_ c2 | refine heap_below ?_ c1 | refine st_past (by omega) ?_)
   ·(repeat first | (refine al_k ?_ ?_; (simp only [World.size_alloc, st_size]); exact rfl) | refine al_past ?_ | exact hq | exact st_two hq | refine heap_below ?_ c2 | refine heap_below ?_ c1 | refine st_past (by omega) ?_)
   ·(repeat first | exact bdrew1 _ | exact btr (below_alloc _ _) (bdrew1 _) | refine btr ?_ (below_alloc _ _) | refine st_below (Nat.le_trans (Nat.le_of_eq (World.size_alloc ..)) (by omega)) ?_ | refine btr ?_ c2 | refine btr ?_ c1)
   ·omega
   ·omega
   ·omega
 case rest =>
  rename World => wc
  obtain ⟨P, A, M, rfl, rfl, rfl, h1, h2, h3, hb, l1, l2, l3⟩ := hcut
  have I0 : Hid (SI w wc wc.heap.size A M P l G C 0) := by
   refine ⟨Nat.zero_le _, btr ZA.out hb, ⟨_, sc_zero l h2 h3⟩, Nat.le_refl _, l1, l2, l3, ?_, ?_, h1, heap_below Z0.out hb⟩
   ·intro q
    rw [q, h3] at h1
    simp only [Option.some.injEq, Obj.cells.injEq] at h1
    exact absurd h1.2.1 (by decide)
   ·intro q
    rw [q, h2] at h1
    simp only [Option.some.injEq, Obj.cells.injEq] at h1
    exact absurd h1.2.1 (by decide)
  generalize wc.heap.size = N at *
  clear h1 h2 h3 hb l1 l2 l3 GO CO mkG mkC ZA Z0 ZL
  go_wp2_with fail
  go_loopw [15] (fun iv wr => ∃ k : Nat, iv = .int .i64 (k : Int) ∧ SI w wr N A M P l G C k) (fun iv _ => L - (intOf iv).toNat)
  case atStart => exact ⟨0, rfl, I0.out⟩
  case round =>
   clear I0
   obtain ⟨k, rfl, I⟩ := hrel
   have hkL : k ≤ L := by rw [← HM.out]; exact I.le
   have HI := hide I
   by_cases hlt : k < L
   ·have hlt' : (k : Int) < (L : Int) := by omega
    have k0 : (0 : Int) ≤ (k : Int) := by omega
    obtain ⟨e, he⟩ : ∃ e, l[k]? = some e := ⟨_, List.getElem?_eq_getElem (by rw [HM.out]; omega)⟩
    have EA := hide (HA.out.below I.bl)
    obtain ⟨bb, oo, rfl, -⟩ := EA.out k e he
    obtain ⟨p0, p1, p2, p3, p4, p5, p6, p7⟩ := EA.out.read he
    have HE := hide he
    clear I he
    go_upto_region 5 with fail
    have X1 := hide (heap_new wr (.cells #[.int .i64 e.k, .int .i64 e.g, .int .i64 e.c, .int .i64 e.a, .int .i64 e.v, .int .i64 e.m, .bool e.s, .bool e.o] 50))
    have I1 := hide (HI.out.below (below_alloc wr (.cells #[.int .i64 e.k, .int .i64 e.g, .int .i64 e.c, .int .i64 e.a, .int .i64 e.v, .int .i64 e.m, .bool e.s, .bool e.o] 50)))
    have BA : Hid (wr.heap.size ≠ A) := by
     show _ ≠ _
     obtain ⟨vs, sc⟩ := HI.out.sc
     have := sc.lt.1
     omega
    have BM : Hid (wr.heap.size ≠ M) := by
     show _ ≠ _
     obtain ⟨vs, sc⟩ := HI.out.sc
     have := sc.lt.2
     omega
    generalize wr.alloc (.cells #[.int .i64 e.k, .int .i64 e.g, .int .i64 e.c, .int .i64 e.a, .int .i64 e.v, .int .i64 e.m, .bool e.s, .bool e.o] 50) = w1 at *
    generalize wr.heap.size = B at *
    clear p0 p1 p2 p3 p4 p5 p6 p7 HI EA
    by_cases hc1 : e.c = -1
    ·have d0 : (e.c != -1) = false := by simp [hc1]
     have x2 : w1.cell? ⟨B, 2, none⟩ = some (.int .i64 e.c) := cell_of X1.out 2
     have J0 := hide (I1.out.skip HE.out hc1)
     clear hc1
     go_upto_region 7 with fail
     generalize w1 = w9 at *
     have X9 := X1
     have J := J0
     clear x2 d0 I1 J0
     have x0 : w9.cell? ⟨B, 0, none⟩ = some (.int .i64 e.k) := cell_of X9.out 0
     have q0 : w9.cell? ⟨P, 0, none⟩ = some (.slice (some ⟨A, 0, none⟩) G G) := cell_of J.out.s3 0
     by_cases h13 : e.k = 13
     ·have d1 : (e.k == 1) = false := by simp [h13]
      have d13 : (e.k != 13) = false := by simp [h13]
      have H13 := hide h13
      clear h13
      go_wp2_with fail
      go_roundw
      case measure => simp [intOf]; omega
      case rel => exact ⟨k + 1, by simp, J.out.compact HE.out H13.out⟩
     obtain ⟨g, hg, hgG⟩ := H.out.gl HE.out h13
     rw [HG.out] at hgG
     have x1 : w9.cell? ⟨B, 1, none⟩ = some (.int .i64 (g : Int)) := by rw [← hg]; exact cell_of X9.out 1
     have d13 : (e.k != 13) = true := by simp [h13]
     have g0 : (0 : Int) ≤ (g : Int) := by omega
     have g1 : (g : Int) < (G : Int) := by omega
     have GG := hide hg
     have N13 := hide h13
     clear hg h13
     have RG := hide (J.out.sc.elim fun vs sc => And.intro (sc.readG hgG) (And.intro (sc.frA (g * 2)) (sc.frA (g * 2 + 1))))
     obtain ⟨⟨a0, a1⟩, f0, f1⟩ := RG.out
     have NE1 : P ≠ A := J.out.pa
     have NE2 : A ≠ P := Ne.symm NE1
     have NE3 : B ≠ A := BA.out
     have NE4 : A ≠ B := Ne.symm BA.out
     by_cases h1 : e.k = 1
     ·obtain ⟨m, hm, hmG⟩ := H.out.ml HE.out h1
      rw [HG.out] at hmG
      have x5 : w9.cell? ⟨B, 5, none⟩ = some (.int .i64 (m : Int)) := by rw [← hm]; exact cell_of X9.out 5
      have d1 : (e.k == 1) = true := by simp [h1]
      have m0 : (0 : Int) ≤ (m : Int) := by omega
      have m1 : (m : Int) < (G : Int) := by omega
      have RM := hide (J.out.sc.elim fun vs sc => And.intro (sc.readG hmG).1 (sc.frA (m * 2)))
      obtain ⟨b0, fb⟩ := RM.out
      have S2 := hide (J.out.sc.elim fun vs sc => And.intro ((sc.setG hmG k).readG hgG) (And.intro ((sc.setG hmG k).frA (g * 2)) ((sc.setG hmG k).frA (g * 2 + 1))))
      have S3 := hide (J.out.sc.elim fun vs sc => And.intro (((sc.setG hmG k).setG hgG k).readG hgG).2 (((sc.setG hmG k).setG hgG k).frA (g * 2 + 1)))
      obtain ⟨⟨q2, q3⟩, q4, q5⟩ := S2.out
      obtain ⟨q6, q7⟩ := S3.out
      have H1 := hide h1
      have MM := hide hm
      clear h1 hm
      go_wp2_with fail
      go_roundw
      case measure => simp [intOf]; omega
      case rel => exact ⟨k + 1, by simp, J.out.spawn HE.out H1.out GG.out hgG MM.out hmG⟩
     ·have d1 : (e.k == 1) = false := by simp [h1]
      have H1 := hide h1
      clear h1
      go_wp2_with fail
      go_roundw
      case measure => simp [intOf]; omega
      case rel => exact ⟨k + 1, by simp, J.out.own HE.out N13.out H1.out GG.out hgG⟩
    ·obtain ⟨d, hd, hdC⟩ := H.out.cl_ HE.out (by have := H.out.c1 HE.out; omega)
     rw [HC.out] at hdC
     have hdC' : (d : Int) < (C : Int) := by omega
     have hd0 : (0 : Int) ≤ (d : Int) := by omega
     have d0 : (e.c != -1) = true := by simp [hc1]
     have HD := hide hd
     obtain ⟨Q, hQ⟩ : ∃ Q, (if e.k = 7 then (latF l e.g k).getD 0 else k) = Q := ⟨_, rfl⟩
     have HQ := hide hQ
     have BE := hide (fun u (b : Below w1.heap.size w1 u) => (I1.out.below b).sc.elim fun vs sc => begins_any e k sc (fun h7 => by
      obtain ⟨g, hg, hgG⟩ := H.out.gl HE.out (by omega)
      exact ⟨g, hg, by rw [← HG.out]; exact hgG⟩))
     have QQ : Hid ((if e.k = 7 then (latF l ((e.g.toNat : Nat) : Int) k).getD 0 else k) = Q) := by
      show _ = _
      rw [← hQ]
      by_cases h7 : e.k = 7
      ·obtain ⟨g, hg, -⟩ := H.out.gl HE.out (by omega)
       rw [if_pos h7, if_pos h7, hg, Int.toNat_natCast]
      ·rw [if_neg h7, if_neg h7]
     rw [QQ.out] at BE
     have NT := hide (fun u (b : Below w1.heap.size w1 u) => (show Calls Tryz.prog 138 #[.pointer (some ⟨M, d * 4, none⟩), evv e, .int .i64 (Q : Int)] u fun r w' => r = .returned (.tuple #[]) ∧ SJ w w' N A M P l G C k ∧ w'.heap[B]? = some (.cells #[.int .i64 e.k, .int .i64 e.g, .int .i64 e.c, .int .i64 e.a, .int .i64 e.v, .int .i64 e.m, .bool e.s, .bool e.o] 50 (0, 0)) by
      have I2 := I1.out.below b
      obtain ⟨vs, sc⟩ := I2.sc
      refine (note_any e d Q (w.heap.size + 1) sc hdC (fun b _ => Nat.le_trans (rw_len l k d b) (by omega)) I2.nn I2.b2).mono ?_
      rintro r w' ⟨rfl, np⟩
      exact ⟨rfl, I2.note H.out HE.out hd hQ.symm np (Nat.le_trans I2.nn np.2.1.size), (np.2.2 _ _ _ _ (heap_below X1.out b) (by decide) BM.out).trans (heap_below X1.out b)⟩))
     unfold evv evc at BE NT
     rw [hd] at BE NT
     have x0 : w1.cell? ⟨B, 0, none⟩ = some (.int .i64 e.k) := cell_of X1.out 0
     have x1 : w1.cell? ⟨B, 1, none⟩ = some (.int .i64 e.g) := cell_of X1.out 1
     have x2 : w1.cell? ⟨B, 2, none⟩ = some (.int .i64 (d : Int)) := by rw [← hd]; exact cell_of X1.out 2
     have x3 : w1.cell? ⟨B, 3, none⟩ = some (.int .i64 e.a) := cell_of X1.out 3
     have x4 : w1.cell? ⟨B, 4, none⟩ = some (.int .i64 e.v) := cell_of X1.out 4
     have x5 : w1.cell? ⟨B, 5, none⟩ = some (.int .i64 e.m) := cell_of X1.out 5
     have x6 : w1.cell? ⟨B, 6, none⟩ = some (.bool e.s) := cell_of X1.out 6
     have x7 : w1.cell? ⟨B, 7, none⟩ = some (.bool e.o) := cell_of X1.out 7
     have q0 : w1.cell? ⟨P, 0, none⟩ = some (.slice (some ⟨A, 0, none⟩) G G) := cell_of I1.out.s3 0
     have q1 : w1.cell? ⟨P, 1, none⟩ = some (.slice (some ⟨M, 0, none⟩) C C) := cell_of I1.out.s3 1
     have d2 : ((d : Int) != -1) = true := by rw [← hd]; exact d0
     clear hd hQ hc1 QQ d0
     go_upto_region 6 with fail
     go_region_held3 (fun w' => w'.cell? ⟨P, 0, none⟩ = some (.slice (some ⟨A, 0, none⟩) G G) ∧ w'.cell? ⟨P, 1, none⟩ = some (.slice (some ⟨M, 0, none⟩) C C) ∧ w'.cell? ⟨B, 0, none⟩ = some (.int .i64 e.k) ∧ w'.cell? ⟨B, 1, none⟩ = some (.int .i64 e.g) ∧ w'.cell? ⟨B, 2, none⟩ = some (.int .i64 (d : Int)) ∧ w'.cell? ⟨B, 3, none⟩ = some (.int .i64 e.a) ∧ w'.cell? ⟨B, 4, none⟩ = some (.int .i64 e.v) ∧ w'.cell? ⟨B, 5, none⟩ = some (.int .i64 e.m) ∧ w'.cell? ⟨B, 6, none⟩ = some (.bool e.s) ∧ w'.cell? ⟨B, 7, none⟩ = some (.bool e.o))
      (first | (go_keep; done) | exact ⟨q0, q1, x0, x1, x2, x3, x4, x5, x6, x7⟩ | exact ⟨Mx.cellB (w := w1.drew) q0 b8, Mx.cellB (w := w1.drew) q1 b8, Mx.cellB (w := w1.drew) x0 b8, Mx.cellB (w := w1.drew) x1 b8, Mx.cellB (w := w1.drew) x2 b8, Mx.cellB (w := w1.drew) x3 b8, Mx.cellB (w := w1.drew) x4 b8, Mx.cellB (w := w1.drew) x5 b8, Mx.cellB (w := w1.drew) x6 b8, Mx.cellB (w := w1.drew) x7 b8⟩ | exact ⟨cell_of j9.s3 0, cell_of j9.s3 1, cell_of x9 0, cell_of x9 1, cell_of x9 2, cell_of x9 3, cell_of x9 4, cell_of x9 5, cell_of x9 6, cell_of x9 7⟩)
      (first | (go_at_call 139; refine (BE.out _ (bdrew1 _)).mono ?_; rintro r w8 ⟨rfl, b8⟩) | (go_at_call 138; refine (NT.out _ (btr (bdrew1 _) b8)).mono ?_; rintro r w9 ⟨rfl, j9, x9⟩))
     all_goals
      rename_i hh
      clear hh
      have J := hide j9
      have X9 := hide x9
      clear j9 x9 x0 x1 x2 x3 x4 x5 x6 x7 q0 q1 BE NT I1
      have x0 : w9.cell? ⟨B, 0, none⟩ = some (.int .i64 e.k) := cell_of X9.out 0
      have q0 : w9.cell? ⟨P, 0, none⟩ = some (.slice (some ⟨A, 0, none⟩) G G) := cell_of J.out.s3 0
      by_cases h13 : e.k = 13
      ·have d1 : (e.k == 1) = false := by simp [h13]
       have d13 : (e.k != 13) = false := by simp [h13]
       have H13 := hide h13
       clear h13
       go_wp2_with fail
       go_roundw
       case measure => simp [intOf]; omega
       case rel => exact ⟨k + 1, by simp, J.out.compact HE.out H13.out⟩
      obtain ⟨g, hg, hgG⟩ := H.out.gl HE.out h13
      rw [HG.out] at hgG
      have x1 : w9.cell? ⟨B, 1, none⟩ = some (.int .i64 (g : Int)) := by rw [← hg]; exact cell_of X9.out 1
      have d13 : (e.k != 13) = true := by simp [h13]
      have g0 : (0 : Int) ≤ (g : Int) := by omega
      have g1 : (g : Int) < (G : Int) := by omega
      have GG := hide hg
      have N13 := hide h13
      clear hg h13
      have RG := hide (J.out.sc.elim fun vs sc => And.intro (sc.readG hgG) (And.intro (sc.frA (g * 2)) (sc.frA (g * 2 + 1))))
      obtain ⟨⟨a0, a1⟩, f0, f1⟩ := RG.out
      have NE1 : P ≠ A := J.out.pa
      have NE2 : A ≠ P := Ne.symm NE1
      have NE3 : B ≠ A := BA.out
      have NE4 : A ≠ B := Ne.symm BA.out
      by_cases h1 : e.k = 1
      ·obtain ⟨m, hm, hmG⟩ := H.out.ml HE.out h1
       rw [HG.out] at hmG
       have x5 : w9.cell? ⟨B, 5, none⟩ = some (.int .i64 (m : Int)) := by rw [← hm]; exact cell_of X9.out 5
       have d1 : (e.k == 1) = true := by simp [h1]
       have m0 : (0 : Int) ≤ (m : Int) := by omega
       have m1 : (m : Int) < (G : Int) := by omega
       have RM := hide (J.out.sc.elim fun vs sc => And.intro (sc.readG hmG).1 (sc.frA (m * 2)))
       obtain ⟨b0, fb⟩ := RM.out
       have S2 := hide (J.out.sc.elim fun vs sc => And.intro ((sc.setG hmG k).readG hgG) (And.intro ((sc.setG hmG k).frA (g * 2)) ((sc.setG hmG k).frA (g * 2 + 1))))
       have S3 := hide (J.out.sc.elim fun vs sc => And.intro (((sc.setG hmG k).setG hgG k).readG hgG).2 (((sc.setG hmG k).setG hgG k).frA (g * 2 + 1)))
       obtain ⟨⟨q2, q3⟩, q4, q5⟩ := S2.out
       obtain ⟨q6, q7⟩ := S3.out
       have H1 := hide h1
       have MM := hide hm
       clear h1 hm
       go_wp2_with fail
       go_roundw
       case measure => simp [intOf]; omega
       case rel => exact ⟨k + 1, by simp, J.out.spawn HE.out H1.out GG.out hgG MM.out hmG⟩
      ·have d1 : (e.k == 1) = false := by simp [h1]
       have H1 := hide h1
       clear h1
       go_wp2_with fail
       go_roundw
       case measure => simp [intOf]; omega
       case rel => exact ⟨k + 1, by simp, J.out.own HE.out N13.out H1.out GG.out hgG⟩
   ·have hk : k = L := by omega
    subst hk
    have r0 : wr.cell? ⟨w.heap.size, 0, none⟩ = some (.slice none 0 0) := cell_of I.s2 0
    have r1 : wr.cell? ⟨w.heap.size, 1, none⟩ = some (.slice none 0 0) := cell_of I.s2 1
    have f0 := frozen_of I.s2 0
    have f1 := frozen_of I.s2 1
    have q0 : wr.cell? ⟨P, 0, none⟩ = some (.slice (some ⟨A, 0, none⟩) G G) := cell_of I.s3 0
    have q1 : wr.cell? ⟨P, 1, none⟩ = some (.slice (some ⟨M, 0, none⟩) C C) := cell_of I.s3 1
    clear I
    go_wp2_with fail
    have K := ((KB.refl w.heap.size wr).setCell 0 (.slice (some ⟨A, 0, none⟩) G G)).setCell 1 (.slice (some ⟨M, 0, none⟩) C C)
    obtain ⟨vs, sc⟩ := HI.out.sc
    have lA := HI.out.b1
    have lM := HI.out.b2
    have lN := sc.ha
    exact bodyPost_ret (En.results_row1 Tryz.results92 _ _ _ _ rfl (loadVar_scn (Ba.heap_setCell_same (Ba.heap_setCell_same HI.out.s2 (i := 0) (.slice (some ⟨A, 0, none⟩) G G)) (i := 1) (.slice (some ⟨M, 0, none⟩) C C)) rfl)) rfl ⟨N, A, M, rfl, ⟨vs, (sc.away (by omega) (by omega) (by omega)).away (by omega) (by omega) (by omega)⟩, by omega, by omega, Nat.le_trans HI.out.nn K.size, below_kb HI.out.bl K (Nat.le_refl _) HI.out.bl.size⟩
end Ax
end Go.Proofs.YtblfimobiibmjaaGreat
