import Derived.Test.YtblfimobiibmjaaGreatZjAh7
import Derived.Deep.Cut
import Derived.Lib.AppendZeros
import Derived.Deep.RegionLaw
import Derived.Deep.RegionHeld3
namespace Go.Proofs.YtblfimobiibmjaaGreat
open Go.ChangeShapes Go.WideShapes Go.ChangeAt Go.RowKit
namespace Eg
open En Gu Ba
def af : Option (Nat × Nat) → Nat
 | none => 0
 | some p => p.1
def ar : Option (Nat × Nat) → Nat
 | none => 0
 | some p => p.2
def AR (w : World) (A G : Nat) (f : Nat → Option (Nat × Nat)) : Prop :=
 ∃ cur, w.heap[A]? = some (.cells cur 70 (0, 0)) ∧ cur.size = G * 3 ∧ ∀ g, g < G → cur[g * 3]? = some (.int .i64 (af (f g) : Int)) ∧ cur[g * 3 + 1]? = some (.int .i64 0) ∧ cur[g * 3 + 2]? = some (.int .i64 (ar (f g) : Int))
theorem AR.keep {w w' : World} {A G : Nat} {f : Nat → Option (Nat × Nat)} (h : AR w A G f) (hk : w'.heap[A]? = w.heap[A]?) : AR w' A G f := by
 obtain ⟨cur, a, b⟩ := h
 exact ⟨cur, hk.trans a, b⟩
theorem AR.lt {w : World} {A G : Nat} {f : Nat → Option (Nat × Nat)} (h : AR w A G f) : A < w.heap.size := by
 obtain ⟨cur, a, b⟩ := h
 exact heap_lt a
theorem AR.read {w : World} {A G : Nat} {f : Nat → Option (Nat × Nat)} (h : AR w A G f) {g : Nat} (hg : g < G) : w.cell? ⟨A, g * 3, none⟩ = some (.int .i64 (af (f g) : Int)) ∧ w.cell? ⟨A, g * 3 + 1, none⟩ = some (.int .i64 0) ∧ w.cell? ⟨A, g * 3 + 2, none⟩ = some (.int .i64 (ar (f g) : Int)) ∧ w.frozen? ⟨A, g * 3, none⟩ = false ∧ w.frozen? ⟨A, g * 3 + 1, none⟩ = false ∧ w.frozen? ⟨A, g * 3 + 2, none⟩ = false := by
 obtain ⟨cur, a, b, c⟩ := h
 obtain ⟨c0, c1, c2⟩ := c g hg
 exact ⟨(cell_of a _).trans c0, (cell_of a _).trans c1, (cell_of a _).trans c2, frozen_of a _, frozen_of a _, frozen_of a _⟩
theorem AR.put {w : World} {A G : Nat} {f : Nat → Option (Nat × Nat)} (h : AR w A G f) {g : Nat} (hg : g < G) (i r : Nat) : AR (put3 w A (g * 3) (.int .i64 (i : Int)) (.int .i64 0) (.int .i64 (r : Int))) A G (fun x => if x = g then some (i, r) else f x) := by
 obtain ⟨cur, a, b, c⟩ := h
 refine ⟨_, Ba.heap_setCell_same (Ba.heap_setCell_same (Ba.heap_setCell_same a _) _) _, by simp [b], fun x hx => ?_⟩
 obtain ⟨c0, c1, c2⟩ := c x hx
 by_cases e : x = g
 ·subst e
  simp only [if_true]
  refine ⟨?_, ?_, ?_⟩
  ·show (((cur.setIfInBounds _ _).setIfInBounds _ _).setIfInBounds _ _)[x * 3]? = _
   rw [Array.getElem?_setIfInBounds_ne (by omega), Array.getElem?_setIfInBounds_ne (by omega), Array.getElem?_setIfInBounds_self_of_lt (by omega)]
   rfl
  ·show (((cur.setIfInBounds _ _).setIfInBounds _ _).setIfInBounds _ _)[x * 3 + 1]? = _
   rw [Array.getElem?_setIfInBounds_ne (by omega), Array.getElem?_setIfInBounds_self_of_lt (by simp; omega)]
  ·show (((cur.setIfInBounds _ _).setIfInBounds _ _).setIfInBounds _ _)[x * 3 + 2]? = _
   rw [Array.getElem?_setIfInBounds_self_of_lt (by simp; omega)]
   rfl
 ·simp only [if_neg e]
  refine ⟨?_, ?_, ?_⟩ <;> show (((cur.setIfInBounds _ _).setIfInBounds _ _).setIfInBounds _ _)[_]? = _
  ·rw [Array.getElem?_setIfInBounds_ne (by omega), Array.getElem?_setIfInBounds_ne (by omega), Array.getElem?_setIfInBounds_ne (by omega)]
   exact c0
  ·rw [Array.getElem?_setIfInBounds_ne (by omega), Array.getElem?_setIfInBounds_ne (by omega), Array.getElem?_setIfInBounds_ne (by omega)]
   exact c1
  ·rw [Array.getElem?_setIfInBounds_ne (by omega), Array.getElem?_setIfInBounds_ne (by omega), Array.getElem?_setIfInBounds_ne (by omega)]
   exact c2
theorem AR.congr {w : World} {A G : Nat} {f f' : Nat → Option (Nat × Nat)} (h : AR w A G f) (hf : ∀ x, f' x = f x) : AR w A G f' := by
 have : f' = f := funext hf
 rw [this]
 exact h
theorem ah_r (l : List Ev) : ∀ (k : Nat) (g : Int) (p : Nat × Nat), ahF l k g = some p → p.2 = 1 ∨ p.2 = 2
 | 0, g, p, h => by cases h
 | k + 1, g, p, h => by
   cases he : l[k]? with
   | none =>
     have : ahF l (k + 1) = ahF l k := by
      show (match l[k]? with | none => ahF l k | some e => pst k (ahF l k) e) = _
      rw [he]
     rw [this] at h
     exact ah_r l k g p h
   | some e =>
     rw [ah_succ he] at h
     unfold pst at h
     split at h
     ·exact ah_r l k g p h
     ·simp only at h
      split at h
      ·cases h; exact .inr rfl
      ·split at h
       ·cases h; exact .inl rfl
       ·exact ah_r l k g p h
theorem own_lt {w : World} {base : Nat} {e : TypeId} {size : Nat} {v : Value} {n : Nat} {xs : List Value} (h : w.ownsRow base e size v n xs) : ∀ g, v.ownBlock = some g → g < w.heap.size := by
 intro g hg
 rcases h.2 with ⟨rfl, _⟩ | ⟨b, cap, cur, rfl, q, q2, _⟩
 ·simp [Value.ownBlock] at hg
 ·simp [Value.ownBlock] at hg
  have := heap_lt q2
  omega
structure PgI (w : World) (A G : Nat) (l : List Ev) (ed iv : Value) (wr : World) (k : Nat) : Prop where
 le : k ≤ l.length
 iv : iv = .int .i64 (k : Int)
 bl : Below w.heap.size w wr
 own : wr.ownsRow (A + 1) 70 3 ed (progE l k).length (edc (progE l k))
 ar : AR wr A G (fun g => ahF l k (g : Int))
theorem own_mono {w : World} {base b' : Nat} {e : TypeId} {size : Nat} {v : Value} {n : Nat} {xs : List Value} (h : w.ownsRow base e size v n xs) (hb : b' ≤ base) : w.ownsRow b' e size v n xs := by
 refine ⟨h.1, ?_⟩
 rcases h.2 with q | ⟨g, cap, cur, q1, q2, q3⟩
 ·exact .inl q
 ·exact .inr ⟨g, cap, cur, q1, by omega, q3⟩
theorem out_none {l : List Ev} {k : Nat} {e : Ev} (he : l[k]? = some e) {g : Nat} (hg : e.g = (g : Int)) (ho : ahF l k (g : Int) = none) : progE l (k + 1) = progE l k := by
 rw [prog_succ]
 unfold outP
 rw [he]
 simp only
 rw [hg, ho]
 simp
theorem out_some {l : List Ev} {k : Nat} {e : Ev} (he : l[k]? = some e) (h13 : e.k ≠ 13) {g : Nat} (hg : e.g = (g : Int)) {p : Nat × Nat} (ho : ahF l k (g : Int) = some p) : progE l (k + 1) = progE l k ++ [⟨p.1, k, p.2⟩] := by
 rw [prog_succ]
 unfold outP
 rw [he]
 simp only
 rw [if_neg h13, hg, ho]
theorem out_13 {l : List Ev} {k : Nat} {e : Ev} (he : l[k]? = some e) (h13 : e.k = 13) : progE l (k + 1) = progE l k := by
 rw [prog_succ]
 unfold outP
 rw [he]
 simp [h13]
theorem PgI.skip {w : World} {A G : Nat} {l : List Ev} {ed iv : Value} {wr : World} {k : Nat} (h : PgI w A G l ed iv wr k) {e : Ev} (he : l[k]? = some e) (h13 : e.k = 13) {W : World} (b : Below wr.heap.size wr W) : PgI w A G l ed (.int .i64 ((k : Int) + 1)) W (k + 1) := by
 have hk := (List.getElem?_eq_some_iff.1 he).1
 refine ⟨by omega, by simp, btr h.bl b, ?_, ?_⟩
 ·rw [out_13 he h13]
  exact own_below h.own b
 ·rw [ah_succ he]
  unfold pst
  rw [if_pos h13]
  exact h.ar.keep (b.block A h.ar.lt)
theorem PgI.fin1 {w : World} {A G : Nat} {l : List Ev} {k : Nat} {e : Ev} (he : l[k]? = some e) (h13 : e.k ≠ 13) (h1 : e.k ≠ 1) {g : Nat} (hg : e.g = (g : Int)) (hgG : g < G) {w6 : World} {ed : Value} (hA : w.heap.size ≤ A) (own : w6.ownsRow (A + 1) 70 3 ed (progE l (k + 1)).length (edc (progE l (k + 1)))) (bl : Below w.heap.size w w6) (ar : AR w6 A G fun g => ahF l k (g : Int)) {W : World} (b : Below (put3 w6 A (g * 3) (.int .i64 (k : Int)) (.int .i64 0) (.int .i64 1)).heap.size (put3 w6 A (g * 3) (.int .i64 (k : Int)) (.int .i64 0) (.int .i64 1)) W) : PgI w A G l ed (.int .i64 ((k : Int) + 1)) W (k + 1) := by
 have hk := (List.getElem?_eq_some_iff.1 he).1
 have a1 := ar.put hgG k 1
 refine ⟨by omega, by simp, (bl.trans (put3_below _ _ _ _ _ _ hA)).trans (b.mono (by have := bl.size; simp [put3, World.setCell]; omega)), ?_, ?_⟩
 ·exact own_below (own_keep own fun x hx _ => put3_other _ _ _ _ _ _ x (by omega)) b
 ·rw [ah_succ he]
  unfold pst
  rw [if_neg h13]
  refine (a1.keep (b.block A a1.lt)).congr fun x => ?_
  rw [if_neg (fun q => h1 q.1), hg]
  by_cases q : x = g
  ·rw [if_pos q, if_pos (by omega)]
  ·rw [if_neg q, if_neg (by omega)]
theorem PgI.fin2 {w : World} {A G : Nat} {l : List Ev} {k : Nat} {e : Ev} (he : l[k]? = some e) (h1 : e.k = 1) {g m : Nat} (hg : e.g = (g : Int)) (hgG : g < G) (hm : e.m = (m : Int)) (hmG : m < G) {w6 : World} {ed : Value} (hA : w.heap.size ≤ A) (own : w6.ownsRow (A + 1) 70 3 ed (progE l (k + 1)).length (edc (progE l (k + 1)))) (bl : Below w.heap.size w w6) (ar : AR w6 A G fun g => ahF l k (g : Int)) {W : World} (b : Below (put3 (put3 w6 A (g * 3) (.int .i64 (k : Int)) (.int .i64 0) (.int .i64 1)) A (m * 3) (.int .i64 (k : Int)) (.int .i64 0) (.int .i64 2)).heap.size (put3 (put3 w6 A (g * 3) (.int .i64 (k : Int)) (.int .i64 0) (.int .i64 1)) A (m * 3) (.int .i64 (k : Int)) (.int .i64 0) (.int .i64 2)) W) : PgI w A G l ed (.int .i64 ((k : Int) + 1)) W (k + 1) := by
 have hk := (List.getElem?_eq_some_iff.1 he).1
 have a1 := (ar.put hgG k 1).put hmG k 2
 refine ⟨by omega, by simp, ((bl.trans (put3_below _ _ _ _ _ _ hA)).trans (put3_below _ _ _ _ _ _ hA)).trans (b.mono (by have := bl.size; simp [put3, World.setCell]; omega)), ?_, ?_⟩
 ·exact own_below (own_keep (own_keep own fun x hx _ => put3_other _ _ _ _ _ _ x (by omega)) fun x hx _ => put3_other _ _ _ _ _ _ x (by omega)) b
 ·rw [ah_succ he]
  unfold pst
  rw [if_neg (by omega)]
  refine (a1.keep (b.block A a1.lt)).congr fun x => ?_
  rw [hg, hm]
  by_cases q : x = m
  ·rw [if_pos q, if_pos ⟨h1, by omega⟩]
  ·rw [if_neg q, if_neg (by intro z; omega)]
   by_cases q2 : x = g
   ·rw [if_pos q2, if_pos (by omega)]
   ·rw [if_neg q2, if_neg (by omega)]
theorem prog_len (l : List Ev) : ∀ n, (progE l n).length ≤ n
 | 0 => by simp [progE]
 | n + 1 => by
   have := prog_len l n
   rw [prog_succ, List.length_append]
   have : (outP l n).length ≤ 1 := by
    unfold outP
    split
    ·simp
    ·split
     ·simp
     ·split <;> simp
   omega
set_option maxRecDepth 100000 in
set_option maxHeartbeats 3200000 in
theorem programs_any (oa : Option Addr) (l : List Ev) (c : Nat) (w : World) (hA : EsAt w oa l) (h : Tok l) (hl : l.length ≤ 2000) :
 Calls Tryz.prog 35 #[.slice oa l.length c] w fun r w' => ∃ ea cp, r = .returned (.slice ea (progE l l.length).length cp) ∧ w'.ownsRow w.heap.size 70 3 (.slice ea (progE l l.length).length cp) (progE l l.length).length (edc (progE l l.length)) ∧ Below w.heap.size w w' := by
 have GO := hide (gors_any oa l c w hA (by omega) (hw_g h))
 rw [gor_is h hl] at GO
 have HA := hide hA
 have H := hide h
 have TL := there_le l
 obtain ⟨M, hM⟩ : ∃ M, l.length = M := ⟨_, rfl⟩
 obtain ⟨G, hG⟩ : ∃ G, there l = G := ⟨_, rfl⟩
 have HM := hide hM
 have HG := hide hG
 rw [hM, hG] at GO
 rw [hM, hG] at TL
 rw [hM] at hl ⊢
 clear hA h hM hG
 go_enter Tryz.func35, Tryz.ntmps35
 go_wp2_with fail
 refine GO.out.mono ?_
 rintro r w1 ⟨rfl, b1⟩
 have B1 := hide b1
 have mk := mk_ed w1 G (by omega)
 obtain ⟨W2, hW2⟩ : ∃ W2, w1.alloc (.cells (madeCells #[.int .i64 0, .int .i64 0, .int .i64 0] (G * 3)) 70) = W2 := ⟨_, rfl⟩
 rw [hW2] at mk
 have I0 : Hid (PgI w w1.heap.size G l (.slice none 0 0) (.int .i64 0) W2 0) := by
  refine ⟨Nat.zero_le _, rfl, ?_, ⟨rfl, .inl ⟨rfl, rfl⟩⟩, ⟨_, ?_, size_madeCells _ _, fun g hg => made3 G g hg⟩⟩
  ·rw [← hW2]
   exact btr b1 (below_alloc _ _)
  ·rw [← hW2]
   exact heap_new _ _
 have S1 : Hid (w.heap.size ≤ w1.heap.size) := b1.size
 generalize w1.heap.size = A at *
 clear hW2 b1
 go_wp2_with fail
 go_loopw [3, 13] (fun ed iv wr => ∃ k : Nat, PgI w A G l ed iv wr k) (fun _ iv _ => M - (intOf iv).toNat)
 case atStart => exact ⟨0, I0.out⟩
 case round =>
  obtain ⟨k, I⟩ := hrel
  have hkM : k ≤ M := by rw [← HM.out]; exact I.le
  obtain rfl := I.iv
  obtain ⟨ea, cp, rfl⟩ := own_sl I.own
  have HI := hide I
  have PL := prog_len l k
  obtain ⟨n, hn⟩ : ∃ n, (progE l k).length = n := ⟨_, rfl⟩
  have HN := hide hn
  rw [hn] at HI PL ⊢
  have HS := hide S1.out
  by_cases hlt : k < M
  ·obtain ⟨e, he⟩ : ∃ e, l[k]? = some e := ⟨_, List.getElem?_eq_getElem (by rw [HM.out]; omega)⟩
   have EA := hide (HA.out.below I.bl)
   obtain ⟨b2, o2, rfl, -⟩ := EA.out k e he
   obtain ⟨p0, p1, p2, p3, p4, p5, p6, p7⟩ := EA.out.read he
   have hlt' : (k : Int) < (M : Int) := by omega
   have hAlt := I.ar.lt
   have HE := hide he
   by_cases h13 : e.k = 13
   ·have d1 : (e.k == 13) = true := by simp [h13]
    have H13 := hide h13
    clear I hn he h13
    go_wp2_with fail
    go_roundw
    case measure => simp [intOf]; omega
    case rel => exact ⟨k + 1, HI.out.skip HE.out H13.out (below_alloc _ _)⟩
   ·obtain ⟨g, hg, hgG⟩ := H.out.gl he h13
    rw [HG.out] at hgG
    obtain ⟨z0, z1, z2, f0, f1, f2⟩ := I.ar.read hgG
    rw [hg] at p1
    have d1 : (e.k == 13) = false := by simp [h13]
    have hg0 : (0 : Int) ≤ (g : Int) := by omega
    have hg1 : (g : Int) < (G : Int) := by omega
    have HGG := hide hg
    have H13 := hide h13
    have HGGG := hide hgG
    clear I hn he h13 hg
    have hgG' := HGGG.out
    cases hx : ahF l k (g : Int) with
    | none =>
      have HX := hide hx
      rw [hx] at z0 z2
      clear hx
      change wr.cell? _ = some (.int .i64 0) at z0 z2
      have OW0 : Hid (wr.ownsRow (A + 1) 70 3 (.slice ea n cp) (progE l (k + 1)).length (edc (progE l (k + 1)))) := by
       rw [show Hid _ = _ from rfl, out_none HE.out HGG.out HX.out, HN.out]
       have := HI.out.own
       rw [HN.out] at this
       exact this
      go_upto_region 11 with fail
      have EB0 := hide ((below_alloc (wr.alloc (.cells #[.int .i64 e.k, .int .i64 e.g, .int .i64 e.c, .int .i64 e.a, .int .i64 e.v, .int .i64 e.m, .bool e.s, .bool e.o] 50)) (.cells #[.int .i64 0, .int .i64 0, .int .i64 0] 70)).block _ (by simp) |>.trans (heap_new wr (.cells #[.int .i64 e.k, .int .i64 e.g, .int .i64 e.c, .int .i64 e.a, .int .i64 e.v, .int .i64 e.m, .bool e.s, .bool e.o] 50)))
      have BX := hide (btr (below_alloc wr (.cells #[.int .i64 e.k, .int .i64 e.g, .int .i64 e.c, .int .i64 e.a, .int .i64 e.v, .int .i64 e.m, .bool e.s, .bool e.o] 50)) (below_alloc (wr.alloc (.cells #[.int .i64 e.k, .int .i64 e.g, .int .i64 e.c, .int .i64 e.a, .int .i64 e.v, .int .i64 e.m, .bool e.s, .bool e.o] 50)) (.cells #[.int .i64 0, .int .i64 0, .int .i64 0] 70)))
      rw [HGG.out] at EB0 BX
      obtain ⟨w6, hw6⟩ : ∃ x, (wr.alloc (.cells #[.int .i64 e.k, .int .i64 (g : Int), .int .i64 e.c, .int .i64 e.a, .int .i64 e.v, .int .i64 e.m, .bool e.s, .bool e.o] 50)).alloc (.cells #[.int .i64 0, .int .i64 0, .int .i64 0] 70) = x := ⟨_, rfl⟩
      rw [hw6] at EB0 BX ⊢
      have EB := EB0
      have OW := hide (own_below OW0.out BX.out)
      have A6 := hide (HI.out.ar.keep (BX.out.block A HI.out.ar.lt))
      have BL := hide (btr HI.out.bl BX.out)
      clear hw6 z0 z1 z2 f0 f1 f2 p0 p1 p2 p3 p4 p5 p6 p7 EB0
      have E0 : w6.cell? ⟨wr.heap.size, 0, none⟩ = some (.int .i64 e.k) := cell_of EB.out 0
      have E1 : w6.cell? ⟨wr.heap.size, 1, none⟩ = some (.int .i64 (g : Int)) := cell_of EB.out 1
      have hne : A ≠ wr.heap.size := by have := HI.out.ar.lt; omega
      obtain ⟨z0, z1, z2, f0, f1, f2⟩ := A6.out.read hgG'
      go_upto_region 12 with fail
      obtain ⟨w7, hw7⟩ : ∃ x, ((w6.setCell ⟨A, g * 3, none⟩ (.int .i64 (k : Int))).setCell ⟨A, g * 3 + 1, none⟩ (.int .i64 0)).setCell ⟨A, g * 3 + 2, none⟩ (.int .i64 1) = x := ⟨_, rfl⟩
      rw [hw7]
      have A7 : Hid (AR w7 A G (fun x => if x = g then some (k, 1) else ahF l k (x : Int))) := by rw [← hw7]; exact A6.out.put hgG' k 1
      have EB7 := hide ((show w7.heap[wr.heap.size]? = w6.heap[wr.heap.size]? by rw [← hw7]; exact put3_other _ _ _ _ _ _ _ (Ne.symm hne)).trans EB.out)
      have HW7 := hide hw7
      clear E0 E1 z0 z1 z2 f0 f1 f2 hw7
      have E0 : w7.cell? ⟨wr.heap.size, 0, none⟩ = some (.int .i64 e.k) := cell_of EB7.out 0
      have E5 : w7.cell? ⟨wr.heap.size, 5, none⟩ = some (.int .i64 e.m) := cell_of EB7.out 5
      by_cases hk1 : e.k = 1
      ·have d2 : (e.k == 1) = true := by simp [hk1]
       obtain ⟨m, hm, hmG⟩ := H.out.ml HE.out hk1
       rw [HG.out] at hmG
       have hm0 : (0 : Int) ≤ (m : Int) := by omega
       have hm1 : (m : Int) < (G : Int) := by omega
       rw [hm] at E5
       have HK := hide hk1
       have HMM := hide hm
       obtain ⟨y0, y1, y2, q0, q1, q2⟩ := A7.out.read hmG
       clear hk1 hm
       go_wp2_with fail
       go_roundw
       case measure => simp [intOf]; omega
       case rel => exact ⟨k + 1, PgI.fin2 (w6 := w6) HE.out HK.out HGG.out HGGG.out HMM.out hmG HS.out OW.out BL.out A6.out (by rw [show put3 w6 A (g * 3) (.int .i64 (k : Int)) (.int .i64 0) (.int .i64 1) = w7 from HW7.out]; exact Below.refl _ _)⟩
      ·have d2 : (e.k == 1) = false := by simp [hk1]
       have HK := hide hk1
       clear hk1
       go_wp2_with fail
       go_roundw
       case measure => simp [intOf]; omega
       case rel => exact ⟨k + 1, PgI.fin1 (w6 := w6) HE.out H13.out HK.out HGG.out HGGG.out HS.out OW.out BL.out A6.out (by rw [show put3 w6 A (g * 3) (.int .i64 (k : Int)) (.int .i64 0) (.int .i64 1) = w7 from HW7.out]; exact Below.refl _ _)⟩
    | some p =>
      have HX := hide hx
      have hr2 := ah_r l k _ p hx
      obtain ⟨f, r⟩ := p
      rw [hx] at z0 z2
      clear hx
      change wr.cell? _ = some (.int .i64 (f : Int)) at z0
      change wr.cell? _ = some (.int .i64 (r : Int)) at z2
      have d3 : ((r : Int) != 0) = true := by simp at hr2 ⊢; omega
      clear hr2
      go_upto_region 10 with fail
      have EB0 := hide ((below_alloc (wr.alloc (.cells #[.int .i64 e.k, .int .i64 e.g, .int .i64 e.c, .int .i64 e.a, .int .i64 e.v, .int .i64 e.m, .bool e.s, .bool e.o] 50)) (.cells #[.int .i64 (f : Int), .int .i64 (k : Int), .int .i64 (r : Int)] 70)).block _ (by simp) |>.trans (heap_new wr (.cells #[.int .i64 e.k, .int .i64 e.g, .int .i64 e.c, .int .i64 e.a, .int .i64 e.v, .int .i64 e.m, .bool e.s, .bool e.o] 50)))
      have XB0 := hide (heap_new (wr.alloc (.cells #[.int .i64 e.k, .int .i64 e.g, .int .i64 e.c, .int .i64 e.a, .int .i64 e.v, .int .i64 e.m, .bool e.s, .bool e.o] 50)) (.cells #[.int .i64 (f : Int), .int .i64 (k : Int), .int .i64 (r : Int)] 70))
      have BX := hide (btr (below_alloc wr (.cells #[.int .i64 e.k, .int .i64 e.g, .int .i64 e.c, .int .i64 e.a, .int .i64 e.v, .int .i64 e.m, .bool e.s, .bool e.o] 50)) (below_alloc (wr.alloc (.cells #[.int .i64 e.k, .int .i64 e.g, .int .i64 e.c, .int .i64 e.a, .int .i64 e.v, .int .i64 e.m, .bool e.s, .bool e.o] 50)) (.cells #[.int .i64 (f : Int), .int .i64 (k : Int), .int .i64 (r : Int)] 70)))
      rw [HGG.out] at EB0 BX XB0
      obtain ⟨w5, hw5⟩ : ∃ x, (wr.alloc (.cells #[.int .i64 e.k, .int .i64 (g : Int), .int .i64 e.c, .int .i64 e.a, .int .i64 e.v, .int .i64 e.m, .bool e.s, .bool e.o] 50)).alloc (.cells #[.int .i64 (f : Int), .int .i64 (k : Int), .int .i64 (r : Int)] 70) = x := ⟨_, rfl⟩
      rw [World.size_alloc] at XB0
      rw [hw5] at EB0 BX XB0 ⊢
      have X0 : w5.cell? ⟨wr.heap.size + 1, 0, none⟩ = some (.int .i64 (f : Int)) := cell_of XB0.out 0
      have X1 : w5.cell? ⟨wr.heap.size + 1, 1, none⟩ = some (.int .i64 (k : Int)) := cell_of XB0.out 1
      have X2 : w5.cell? ⟨wr.heap.size + 1, 2, none⟩ = some (.int .i64 (r : Int)) := cell_of XB0.out 2
      have BY := hide (btr BX.out (below_alloc w5 (.cells #[.int .i64 (f : Int), .int .i64 (k : Int), .int .i64 (r : Int)] 70)))
      have OWN := HI.out.own
      rw [HN.out] at OWN
      obtain ⟨ea', c', w6, hap, own6, gr6, bl6⟩ := app_ed (w5.alloc (.cells #[.int .i64 (f : Int), .int .i64 (k : Int), .int .i64 (r : Int)] 70)) (A + 1) (.slice ea n cp) (progE l k) [⟨f, k, r⟩] n HN.out.symm (own_below OWN BY.out) ⟨w5.heap.size, 0, none⟩ 1 1 rfl (fun j u hj => by rw [Addr.add_lit, Nat.zero_add, cell_of (heap_new w5 _)]; simpa [edc] using hj) (by omega) (by have := HI.out.ar.lt; have := BY.out.size; omega)
      have EB := hide ((gr6.block _ (by have := BX.out.size; have := heap_lt EB0.out; rw [World.size_alloc]; omega) (fun q => by have := own_lt OWN _ q.symm; omega)).trans ((below_alloc w5 _).block _ (heap_lt EB0.out) |>.trans EB0.out))
      have OW : Hid (w6.ownsRow (A + 1) 70 3 (.slice ea' (n + 1) c') (progE l (k + 1)).length (edc (progE l (k + 1)))) := by
       rw [show Hid _ = _ from rfl, out_some HE.out H13.out HGG.out HX.out, List.length_append, HN.out]
       exact own6
      have A6 := hide (HI.out.ar.keep ((bl6.block A (by omega)).trans (BY.out.block A HI.out.ar.lt)))
      have BL := hide ((btr HI.out.bl BY.out).trans (bl6.mono (by have := HS.out; omega)))
      clear hw5 z0 z1 z2 f0 f1 f2 p0 p1 p2 p3 p4 p5 p6 p7 EB0 own6 gr6 bl6
      go_upto_region 11 with (at_builtin; refine Lib.wpList_append_run _ (by rfl) _ _ _ _ (by rfl) _ _ (by rfl) (by rfl) _ _ hap ?_)
      clear hap X0 X1 X2 XB0 OWN
      have E0 : w6.cell? ⟨wr.heap.size, 0, none⟩ = some (.int .i64 e.k) := cell_of EB.out 0
      have E1 : w6.cell? ⟨wr.heap.size, 1, none⟩ = some (.int .i64 (g : Int)) := cell_of EB.out 1
      have hne : A ≠ wr.heap.size := by have := HI.out.ar.lt; omega
      obtain ⟨z0, z1, z2, f0, f1, f2⟩ := A6.out.read hgG'
      go_upto_region 12 with fail
      obtain ⟨w7, hw7⟩ : ∃ x, ((w6.setCell ⟨A, g * 3, none⟩ (.int .i64 (k : Int))).setCell ⟨A, g * 3 + 1, none⟩ (.int .i64 0)).setCell ⟨A, g * 3 + 2, none⟩ (.int .i64 1) = x := ⟨_, rfl⟩
      rw [hw7]
      have A7 : Hid (AR w7 A G (fun x => if x = g then some (k, 1) else ahF l k (x : Int))) := by rw [← hw7]; exact A6.out.put hgG' k 1
      have EB7 := hide ((show w7.heap[wr.heap.size]? = w6.heap[wr.heap.size]? by rw [← hw7]; exact put3_other _ _ _ _ _ _ _ (Ne.symm hne)).trans EB.out)
      have HW7 := hide hw7
      clear E0 E1 z0 z1 z2 f0 f1 f2 hw7
      have E0 : w7.cell? ⟨wr.heap.size, 0, none⟩ = some (.int .i64 e.k) := cell_of EB7.out 0
      have E5 : w7.cell? ⟨wr.heap.size, 5, none⟩ = some (.int .i64 e.m) := cell_of EB7.out 5
      by_cases hk1 : e.k = 1
      ·have d2 : (e.k == 1) = true := by simp [hk1]
       obtain ⟨m, hm, hmG⟩ := H.out.ml HE.out hk1
       rw [HG.out] at hmG
       have hm0 : (0 : Int) ≤ (m : Int) := by omega
       have hm1 : (m : Int) < (G : Int) := by omega
       rw [hm] at E5
       have HK := hide hk1
       have HMM := hide hm
       obtain ⟨y0, y1, y2, q0, q1, q2⟩ := A7.out.read hmG
       clear hk1 hm
       go_wp2_with fail
       go_roundw
       case measure => simp [intOf]; omega
       case rel => exact ⟨k + 1, PgI.fin2 (w6 := w6) HE.out HK.out HGG.out HGGG.out HMM.out hmG HS.out OW.out BL.out A6.out (by rw [show put3 w6 A (g * 3) (.int .i64 (k : Int)) (.int .i64 0) (.int .i64 1) = w7 from HW7.out]; exact Below.refl _ _)⟩
      ·have d2 : (e.k == 1) = false := by simp [hk1]
       have HK := hide hk1
       clear hk1
       go_wp2_with fail
       go_roundw
       case measure => simp [intOf]; omega
       case rel => exact ⟨k + 1, PgI.fin1 (w6 := w6) HE.out H13.out HK.out HGG.out HGGG.out HS.out OW.out BL.out A6.out (by rw [show put3 w6 A (g * 3) (.int .i64 (k : Int)) (.int .i64 0) (.int .i64 1) = w7 from HW7.out]; exact Below.refl _ _)⟩
  ·have dl : decide ((k : Int) < (M : Int)) = false := by simp; omega
   have hk : k = M := by omega
   subst hk
   clear I hlt hn
   go_wp2_with fail
   go_ret
   refine ⟨ea, cp, by rw [HN.out]; rfl, ?_, HI.out.bl⟩
   have := HI.out.own
   rw [← HN.out] at this
   exact own_mono this (by have := HS.out; omega)
end Eg
end Go.Proofs.YtblfimobiibmjaaGreat
namespace Go.Proofs.YtblfimobiibmjaaGreat
open Go.ChangeShapes Go.WideShapes Go.ChangeAt Go.RowKit
namespace Eg
open En Gu Ba
theorem run_app_none {w : World} (base : Nat) (t ty e : TypeId) (i : TypeInfo) (size : Nat) (ht : Tryz.prog.underlying t = some (.slice e)) (hi : Tryz.prog.info? e = some i) (oa : Option Addr) (n c c2 : Nat) (xs : List Value) (ow : w.ownsRow base e size (.slice oa n c) n xs) :
 (Builtin.append_ #[t, t] ty #[.slice oa n c, .slice none 0 c2]).run Tryz.prog w = .ok (.slice oa n c) w := by
 rcases ow.2 with ⟨q, rfl⟩ | ⟨g, cap, cur, q, _, _, h1, _⟩
 ·cases q
  simp [Builtin.append_, run_underlying ht, sizeOf, typeInfo, hi, Builtin.lenOf, Builtin.firstCells]
 ·cases q
  simp [Builtin.append_, run_underlying ht, sizeOf, typeInfo, hi, Builtin.lenOf, Builtin.firstCells, h1, storeCells]
theorem app_ow {w : World} {B B2 : Nat} {v v2 : Value} {l l2 : List Ed} (ho : Ow w B v l) (h2 : Ow w B2 v2 l2) (hl : l.length + l2.length ≤ 100000000) (hb : B ≤ w.heap.size) :
 ∃ ea' c' w', (Builtin.append_ #[24, 24] 24 #[v, v2]).run Tryz.prog w = .ok (.slice ea' (l.length + l2.length) c') w' ∧ Ow w' B (.slice ea' (l.length + l2.length) c') (l ++ l2) ∧ w.grownBy w' v.ownBlock := by
 obtain ⟨i0, hi, hz, hs, hby⟩ := info_ex info_ed0
 obtain ⟨oa, c, rfl, -, -⟩ := h2.sl
 rcases oa with _ | ⟨g, o, x⟩
 ·have h0 : l2.length = 0 := by
   rcases h2.2 with ⟨-, q⟩ | ⟨g, cap, cur, q, -⟩
   ·exact q
   ·cases q
  have hl0 : l2 = [] := List.length_eq_zero_iff.1 h0
  subst hl0
  obtain ⟨ob, cb, rfl, -, -⟩ := ho.sl
  refine ⟨ob, cb, w, ?_, by simpa using ho, grown_refl _ _⟩
  exact run_app_none B 24 24 70 i0 3 Tryz.underlying24 hi ob l.length cb c _ ho
 ·obtain ⟨rfl, rfl⟩ : o = 0 ∧ x = none := by
   rcases h2.2 with ⟨q, -⟩ | ⟨g, cap, cur, q, -⟩
   ·cases q
   ·cases q; exact ⟨rfl, rfl⟩
  obtain ⟨cur, hg, -, hsz, hlc, -, hcell⟩ := own_cur h2
  obtain ⟨ea', c', w', h3, h4, h5, -⟩ := app_ed w B v l l2 l.length rfl ho ⟨g, 0, none⟩ l2.length c rfl (fun j u hj => by
   have hj2 := (List.getElem?_eq_some_iff.1 hj).1
   rw [edc_len] at hj2
   rw [Addr.add_lit, Nat.zero_add, cell_of hg, hcell j hj2, hj]) hl hb
  refine ⟨ea', c', w', h3, ?_, h5⟩
  unfold Ow
  rw [List.length_append]
  exact h4
theorem mod_ed (c g : Nat) (W : World) (z : Array Value) (h : W.heap[g]? = some (.cells z 70 (0, 0))) (hs : z.size = c * 3) (hc : c ≤ maxLen) {B : Nat} (hB : B ≤ g) : Ow W B (.slice (some ⟨g, 0, none⟩) 0 c) [] :=
 own_mk (m := []) hB h hs (Nat.zero_le _) hc (fun k hk => by simp at hk)
set_option maxRecDepth 100000 in
set_option maxHeartbeats 1600000 in
theorem grow_any (n : Nat) (w : World) (hn : n ≤ 100000000) : Calls Tryz.prog 63 #[.slice none 0 0, .int .i64 (n : Int)] w fun r w' => ∃ v, r = .returned v ∧ Ow w' w.heap.size v [] ∧ w.grownBy w' none := by
 have w0 : IntKind.i64.wrap ((n : Int) - 0) = n := by rw [IntKind.wrap_i64]; omega
 have w1 : IntKind.i64.wrap (n : Int) = n := by rw [IntKind.wrap_i64]; omega
 have n0 : decide ((n : Int) < 0) = false := by simp
 by_cases h0 : n = 0
 ·have d : decide ((n : Int) > 0) = false := by simp; omega
  subst h0
  go_enter Tryz.func63, Tryz.ntmps63
  go_wp2_with fail
  go_ret
  exact ⟨_, rfl, Ow.nil _ _, grown_refl _ _⟩
 ·have d : decide ((n : Int) > 0) = true := by simp; omega
  obtain ⟨i0, hi, hz, hs, hby⟩ := info_ex info_ed0
  have hap := Lib.run_append_nil_zeros (P := Tryz.prog) w 24 3 24 70 i0 _ .i64 .i64 Tryz.underlying24 Tryz.underlying3 hi hz n (by omega) (by rw [hs]; omega) (by omega) (by rw [hby]; omega)
  have hle := grownCap_le_maxLen w n 0 70 (by unfold maxLen; omega)
  have hge := grownCap_ge w n 0 70
  generalize grownCap w n 0 70 = c at *
  have OW : Hid (Ow (w.drew.alloc (.cells (Builtin.zeroCells (Value.agg #[.int .i64 0, .int .i64 0, .int .i64 0]).cells n ++ Builtin.zeroCells (Value.agg #[.int .i64 0, .int .i64 0, .int .i64 0]).cells (c - n)) 70)) w.heap.size (.slice (some ⟨w.heap.size, 0, none⟩) 0 c) []) := by
   refine mod_ed c w.heap.size _ _ (heap_new w.drew _) ?_ hle (Nat.le_refl _)
   have e1 := zc_len n
   have e2 := zc_len (c - n)
   simp only [Array.length_toList] at e1 e2
   rw [Array.size_append, e1, e2]
   omega
  have GB : Hid (w.grownBy (w.drew.alloc (.cells (Builtin.zeroCells (Value.agg #[.int .i64 0, .int .i64 0, .int .i64 0]).cells n ++ Builtin.zeroCells (Value.agg #[.int .i64 0, .int .i64 0, .int .i64 0]).cells (c - n)) 70)) none) := grown_of (btr (bdrew1 _) (below_alloc _ _))
  generalize w.drew.alloc (.cells (Builtin.zeroCells (Value.agg #[.int .i64 0, .int .i64 0, .int .i64 0]).cells n ++ Builtin.zeroCells (Value.agg #[.int .i64 0, .int .i64 0, .int .i64 0]).cells (c - n)) 70) = W at *
  have c0 : c ≤ 9223372036854775807 := by unfold maxLen at hle; omega
  have hn0 : 0 < n := by omega
  clear hi hz hs hby hle h0 d
  go_enter Tryz.func63, Tryz.ntmps63
  go_wp2_with (at_builtin; refine Lib.wpList_append_run _ (by rfl) _ _ _ _ (by rfl) _ _ (by rfl) (by rfl) _ _ hap ?_)
  go_ret
  exact ⟨_, rfl, OW.out, GB.out⟩
set_option maxRecDepth 100000 in
set_option maxHeartbeats 3200000 in
theorem concat_any (b B C : Nat) (va vb : Value) (la lb : List Ed) (w : World) (h0 : w.cell? ⟨b, 0, none⟩ = some va) (h1 : w.cell? ⟨b, 1, none⟩ = some vb) (ha : Ow w B va la) (hb : Ow w C vb lb) (hl : la.length + lb.length ≤ 100000000) :
 Calls Tryz.prog 34 #[.slice (some ⟨b, 0, none⟩) 2 2] w fun r w' => ∃ v, r = .returned v ∧ Ow w' w.heap.size v (la ++ lb) ∧ Below w.heap.size w w' := by
 obtain ⟨oa, ca, rfl, -, -⟩ := ha.sl
 obtain ⟨ob, cb, rfl, -, -⟩ := hb.sl
 have HA := hide ha
 have HB := hide hb
 have hbl := World.block_lt_of_cell? w ⟨b, 0, none⟩ h0
 obtain ⟨na, hna⟩ : ∃ n, la.length = n := ⟨_, rfl⟩
 obtain ⟨nb, hnb⟩ : ∃ n, lb.length = n := ⟨_, rfl⟩
 have NA := hide hna
 have NB := hide hnb
 rw [hna, hnb] at hl
 rw [hna] at h0
 rw [hnb] at h1
 have H0 := hide h0
 have H1 := hide h1
 have GR := hide (grow_any (na + nb) w hl)
 rw [show ((na + nb : Nat) : Int) = (na : Int) + (nb : Int) by omega] at GR
 clear ha hb hna hnb
 go_enter Tryz.func34, Tryz.ntmps34
 go_wp2_with fail
 go_loopw [3, 11] (fun sv iv wr => ∃ k : Nat, k ≤ 2 ∧ iv = .int .i64 k ∧ sv = .int .i64 (if k = 0 then 0 else if k = 1 then (na : Int) else (na : Int) + nb) ∧ wr = w) (fun _ iv _ => 2 - (intOf iv).toNat)
 case atStart => exact ⟨0, by omega, rfl, rfl, rfl⟩
 case round =>
  obtain ⟨k, hk, rfl, rfl, rfl⟩ := hrel
  obtain rfl | rfl | rfl : k = 0 ∨ k = 1 ∨ k = 2 := by omega
  ·have n0 : decide ((na : Int) < 0) = false := by simp
   simp only [if_true]
   go_wp2_with fail
   go_roundw
   case rel => exact ⟨1, by omega, by simp⟩
   case measure => simp [intOf]
  ·have n0 : decide ((na : Int) + (nb : Int) < 0) = false := by simp; omega
   simp only [if_true, if_false, Nat.one_ne_zero]
   go_wp2_with fail
   go_roundw
   case rel => exact ⟨2, by omega, by simp⟩
   case measure => simp [intOf]
  ·simp only [if_false, show (2 : Nat) ≠ 0 by omega, show (2 : Nat) ≠ 1 by omega]
   clear h0 h1
   go_wp2_with fail
   refine GR.out.mono ?_
   rintro r w2 ⟨v, rfl, ov, gv⟩
   have OV := hide ov
   have BV := hide (below_of gv)
   obtain ⟨ov_, cv, rfl, -, -⟩ := ov.sl
   clear GR ov gv
   go_wp2_with fail
   go_loopw [6, 27] (fun sv iv w3 => ∃ k : Nat, k ≤ 2 ∧ iv = .int .i64 k ∧ Ow w3 wr.heap.size sv (if k = 0 then [] else if k = 1 then la else la ++ lb) ∧ Below wr.heap.size wr w3) (fun _ iv _ => 2 - (intOf iv).toNat)
   case atStart => exact ⟨0, by omega, rfl, OV.out, BV.out⟩
   case round =>
    rename World => w3
    clear OV BV
    obtain ⟨k, hk, rfl, ow, hbw⟩ := hrel
    obtain rfl | rfl | rfl : k = 0 ∨ k = 1 ∨ k = 2 := by omega
    ·have BW := hide hbw
     have O1 := hide ow
     have c0 : w3.cell? ⟨b, 0, none⟩ = some (.slice oa na ca) := (BW.out.cell (p := ⟨b, 0, none⟩) hbl).trans H0.out
     obtain ⟨ox, cx, rfl, -, -⟩ := ow.sl
     obtain ⟨ea, ce, w4, hap, o4, g4⟩ := app_ow (l := []) (l2 := la) ow (HA.out.below BW.out) (by first | (rw [NA.out]; simp; omega) | (rw [NA.out, NB.out]; omega)) BW.out.size
     rw [NA.out] at o4
     simp only [List.length_nil, Nat.zero_add, List.nil_append] at o4
     have O4 := hide o4
     have B4 := hide (BW.out.trans (grown_below g4 (own_base ow) BW.out.size))
     rw [NA.out] at hap
     clear ow hbw g4 o4
     simp only [List.length_nil] at hap
     go_wp2_with (at_builtin; refine Lib.wpList_append_run _ (by rfl) _ _ _ _ (by rfl) _ _ (by rfl) (by rfl) _ _ hap ?_)
     go_roundw
     case rel => exact ⟨1, by omega, by simp, O4.out, B4.out⟩
     case measure => simp [intOf]
    ·have BW := hide hbw
     have O1 := hide ow
     have c0 : w3.cell? ⟨b, 1, none⟩ = some (.slice ob nb cb) := (BW.out.cell (p := ⟨b, 1, none⟩) hbl).trans H1.out
     obtain ⟨ox, cx, rfl, -, -⟩ := ow.sl
     obtain ⟨ea, ce, w4, hap, o4, g4⟩ := app_ow (l := la) (l2 := lb) ow (HB.out.below BW.out) (by first | (rw [NA.out]; simp; omega) | (rw [NA.out, NB.out]; omega)) BW.out.size
     rw [NA.out, NB.out] at o4
     have O4 := hide o4
     have B4 := hide (BW.out.trans (grown_below g4 (own_base ow) BW.out.size))
     rw [NA.out, NB.out] at hap
     clear ow hbw g4 o4
     go_wp2_with (at_builtin; refine Lib.wpList_append_run _ (by rfl) _ _ _ _ (by rfl) _ _ (by rfl) (by rfl) _ _ hap ?_)
     go_roundw
     case rel => exact ⟨2, by omega, by simp, O4.out, B4.out⟩
     case measure => simp [intOf]
    ·have BW := hide hbw
     obtain ⟨ox, cx, rfl, -, -⟩ := ow.sl
     have O1 := hide ow
     clear ow hbw
     go_wp2_with fail
     go_ret
     exact ⟨_, rfl, O1.out, BW.out⟩
end Eg
end Go.Proofs.YtblfimobiibmjaaGreat
namespace Go.Proofs.YtblfimobiibmjaaGreat
open Go.ChangeShapes Go.WideShapes Go.ChangeAt Go.RowKit
namespace Eg
open En Gu Ba
theorem step_append_run {ops : Array Oper} (w : World) {o : Oper} {a : Act} {K : Act → World → Prop} {Q : Exit → Act → World → Prop} {E : Prop} (hgd : o.guard = none) (s x : Operand) (t tn : TypeId)
 (ho : o.op = .call { callee := .builtin .append, args := #[s, x], argTypes := #[t, tn] }) (vs vx : Value) (hs : a.eval s = vs) (hx : a.eval x = vx)
 (v' : Value) (w' : World) (hr : (Builtin.append_ #[t, tn] o.type #[vs, vx]).run Tryz.prog w = .ok v' w') (h : K (a.put o.dst v') w') :
 if Region.wanted o (yielded ops a.tmps) = true then Oper.wp Tryz.prog o a w K Q else E := by
 have hw : Region.wanted o (yielded ops a.tmps) = true := by simp [Region.wanted, hgd]
 rw [if_pos hw]
 exact Lib.wp_append_run w s x t tn ho vs vx hs hx v' w' hr h
def Od (w : World) (B : Nat) (v : Value) (l : List (Nat × Nat)) : Prop := w.ownsRow B 125 2 v l.length (dlc l)
theorem Od.sl {w : World} {B : Nat} {v : Value} {l : List (Nat × Nat)} (h : Od w B v l) : ∃ oa c, v = .slice oa l.length c ∧ l.length ≤ c ∧ c ≤ maxLen := by
 rcases h.2 with ⟨rfl, h0⟩ | ⟨g, cap, cur, rfl, -, -, h1, h2, -⟩
 ·exact ⟨none, 0, by rw [h0], by omega, Nat.zero_le _⟩
 ·exact ⟨_, _, rfl, h1, h2⟩
theorem Od.cell {w : World} {B : Nat} {oa : Option Addr} {c k : Nat} {l : List (Nat × Nat)} {x : Nat × Nat} (h : Od w B (.slice oa l.length c) l) (hk : l[k]? = some x) :
 ∃ g, oa = some ⟨g, 0, none⟩ ∧ w.cell? ⟨g, k * 2, none⟩ = some (.int .i64 (x.1 : Int)) ∧ w.cell? ⟨g, k * 2 + 1, none⟩ = some (.int .i64 (x.2 : Int)) := by
 have hl := (List.getElem?_eq_some_iff.1 hk).1
 obtain ⟨g, rfl, -, -, hc⟩ := own_cells h (by omega)
 obtain ⟨a, b⟩ := dlc_at l k x hk
 exact ⟨g, rfl, hc _ _ a, hc _ _ b⟩
theorem Od.below {w w' : World} {B : Nat} {v : Value} {l : List (Nat × Nat)} (h : Od w B v l) (hb : Below w.heap.size w w') : Od w' B v l := own_below h hb
theorem own_lt2 {w : World} {B : Nat} {v : Value} {l : List Ed} (h : Ow w B v l) : ∀ g, v.ownBlock = some g → g < w.heap.size := by
 intro g hg
 rcases h.2 with ⟨rfl, _⟩ | ⟨b, cap, cur, rfl, q, q2, _⟩
 ·simp [Value.ownBlock] at hg
 ·simp [Value.ownBlock] at hg
  have := heap_lt q2
  omega
def eC (sz bk : Nat) (S R : List (Nat × Nat)) (k : Nat) : List Ed := match R[k]? with
 | none => []
 | some q => (match S[k]? with
    | none => []
    | some p => [⟨p.1, q.2, 3⟩]) ++ (match S[k + sz]? with
    | none => []
    | some p => [⟨q.1, p.2, bk⟩])
def eX (sz bk : Nat) (S R : List (Nat × Nat)) (n : Nat) : List Ed := (List.range n).flatMap (eC sz bk S R)
theorem eX_succ (sz bk : Nat) (S R : List (Nat × Nat)) (n : Nat) : eX sz bk S R (n + 1) = eX sz bk S R n ++ eC sz bk S R n := by
 unfold eX
 rw [List.range_succ, List.flatMap_append]
 simp
theorem eX_len (sz bk : Nat) (S R : List (Nat × Nat)) : ∀ n, (eX sz bk S R n).length ≤ 2 * n
 | 0 => by simp [eX]
 | n + 1 => by
   have := eX_len sz bk S R n
   rw [eX_succ, List.length_append]
   have : (eC sz bk S R n).length ≤ 2 := by
    unfold eC
    split
    ·simp
    ·split <;> split <;> simp
   omega
theorem eC_is {sz bk : Nat} {S R : List (Nat × Nat)} {k : Nat} {q : Nat × Nat} (hq : R[k]? = some q) : eC sz bk S R k = (match S[k]? with
 | none => []
 | some p => [⟨p.1, q.2, 3⟩]) ++ (match S[k + sz]? with
 | none => []
 | some p => [⟨q.1, p.2, bk⟩]) := by
 unfold eC
 rw [hq]
theorem x_app {w : World} {B : Nat} {v : Value} {l : List Ed} (W : World) (ho : Ow w B v l) (hb : Below w.heap.size w W) (e : Ed) (hl : l.length ≤ 90000) (hB : B ≤ w.heap.size) :
 ∃ ea' c' w', (Builtin.append_ #[24, 24] 24 #[v, .slice (some ⟨W.heap.size, 0, none⟩) 1 1]).run Tryz.prog (W.alloc (.cells #[.int .i64 (e.f : Int), .int .i64 (e.t : Int), .int .i64 (e.r : Int)] 70)).drew = .ok (.slice ea' (l.length + 1) c') w' ∧ Ow w' B (.slice ea' (l.length + 1) c') (l ++ [e]) ∧ W.grownBy w' v.ownBlock := by
 have bW := btr (below_alloc W (.cells #[.int .i64 (e.f : Int), .int .i64 (e.t : Int), .int .i64 (e.r : Int)] 70)) (bdrew1 _)
 have hc : (W.alloc (.cells #[.int .i64 (e.f : Int), .int .i64 (e.t : Int), .int .i64 (e.r : Int)] 70)).drew.heap[W.heap.size]? = some (.cells #[.int .i64 (e.f : Int), .int .i64 (e.t : Int), .int .i64 (e.r : Int)] 70) := heap_new W _
 obtain ⟨ea', c', w', h1, h2, h3, -⟩ := app_ed (W.alloc (.cells #[.int .i64 (e.f : Int), .int .i64 (e.t : Int), .int .i64 (e.r : Int)] 70)).drew B v l [e] l.length rfl (own_below ho (btr hb bW)) ⟨W.heap.size, 0, none⟩ 1 1 rfl (fun j u hj => by rw [Addr.add_lit, Nat.zero_add, cell_of hc]; simpa [edc] using hj) (by omega) (by have := hb.size; have := bW.size; omega)
 refine ⟨ea', c', w', h1, ?_, ?_⟩
 ·unfold Ow
  rw [List.length_append]
  exact h2
 ·have g := grown_more (o := v.ownBlock) (grown_of bW)
  exact g.trans h3
end Eg
end Go.Proofs.YtblfimobiibmjaaGreat
namespace Go.Proofs.YtblfimobiibmjaaGreat
open Go.ChangeShapes Go.WideShapes Go.ChangeAt Go.RowKit
namespace Eg
open En Gu Ba
def dl (l : List Ev) (c : Int) (b : Bool) (k : Nat) : List (Nat × Nat) := (done l c b k).map fun i => (bg l i, i)
theorem dl_succ (l : List Ev) (c : Int) (b : Bool) (k : Nat) : dl l c b (k + 1) = dl l c b k ++ (one l c b k).map fun i => (bg l i, i) := by
 unfold dl
 rw [done_succ, List.map_append]
theorem dl_len (l : List Ev) (c : Int) (b : Bool) : ∀ k, (dl l c b k).length ≤ k
 | 0 => by simp [dl, done]
 | k + 1 => by
   have := dl_len l c b k
   rw [dl_succ, List.length_append, List.length_map]
   have : (one l c b k).length ≤ 1 := by
    unfold one
    split
    ·simp
    ·split
     ·simp
     ·split
      ·simp
      ·split <;> simp
   omega
theorem eX_is (l : List Ev) (c : Int) : eX (szF l c) (if szF l c = 0 then 5 else 6) (dl l c true l.length) (dl l c false l.length) (dl l c false l.length).length = chE l c := by
 unfold eX chE
 rw [show (dl l c false l.length).length = (done l c false l.length).length by unfold dl; rw [List.length_map]]
 congr 1
 funext k
 unfold eC outC dl
 rw [List.getElem?_map, List.getElem?_map, List.getElem?_map]
 cases (done l c false l.length)[k]? with
 | none => rfl
 | some q =>
   simp only [Option.map_some]
   cases (done l c true l.length)[k]? <;> cases (done l c true l.length)[k + szF l c]? <;> rfl
structure CM (w : World) (M C : Nat) (sz : Nat → Int) (cl : Nat → Nat) (D : Nat → Bool → List (Nat × Nat)) (vs : Nat → Bool → Value) : Prop where
 row : ∃ cur, w.heap[M]? = some (.cells cur 123 (0, 0)) ∧ cur.size = C * 4 ∧ ∀ c, c < C → cur[c * 4]? = some (.int .i64 (sz c)) ∧ cur[c * 4 + 1]? = some (.int .i64 (cl c : Int)) ∧ cur[c * 4 + 2]? = some (vs c true) ∧ cur[c * 4 + 3]? = some (vs c false)
 od : ∀ c, c < C → ∀ b, Od w (M + 1) (vs c b) (D c b)
 dj : ∀ c b c' b', c < C → c' < C → (c ≠ c' ∨ b ≠ b') → ∀ g, (vs c b).ownBlock = some g → (vs c' b').ownBlock ≠ some g
section
variable {w w' : World} {M C : Nat} {sz : Nat → Int} {cl : Nat → Nat} {D : Nat → Bool → List (Nat × Nat)} {vs : Nat → Bool → Value}
theorem CM.lt (h : CM w M C sz cl D vs) : M < w.heap.size := by
 obtain ⟨cur, a, -⟩ := h.row
 exact heap_lt a
theorem CM.below (h : CM w M C sz cl D vs) (b : Below w.heap.size w w') : CM w' M C sz cl D vs := by
 obtain ⟨cur, a, r⟩ := h.row
 exact ⟨⟨cur, heap_below a b, r⟩, fun c hc x => (h.od c hc x).below b, h.dj⟩
theorem CM.read (h : CM w M C sz cl D vs) {c : Nat} (hc : c < C) : w.cell? ⟨M, c * 4, none⟩ = some (.int .i64 (sz c)) ∧ w.cell? ⟨M, c * 4 + 1, none⟩ = some (.int .i64 (cl c : Int)) ∧ w.cell? ⟨M, c * 4 + 2, none⟩ = some (vs c true) ∧ w.cell? ⟨M, c * 4 + 3, none⟩ = some (vs c false) := by
 obtain ⟨cur, a, -, r⟩ := h.row
 obtain ⟨r0, r1, r2, r3⟩ := r c hc
 exact ⟨(cell_of a _).trans r0, (cell_of a _).trans r1, (cell_of a _).trans r2, (cell_of a _).trans r3⟩
theorem CM.fr (h : CM w M C sz cl D vs) (o : Nat) : w.frozen? ⟨M, o, none⟩ = false := by
 obtain ⟨cur, a, -⟩ := h.row
 exact frozen_of a _
theorem CM.congr {sz' : Nat → Int} {cl' : Nat → Nat} {D' : Nat → Bool → List (Nat × Nat)} {vs' : Nat → Bool → Value} (h : CM w M C sz cl D vs) (e1 : ∀ c, c < C → sz' c = sz c) (e2 : ∀ c, c < C → cl' c = cl c) (e3 : ∀ c, c < C → ∀ b, D' c b = D c b) (e4 : ∀ c, c < C → ∀ b, vs' c b = vs c b) : CM w M C sz' cl' D' vs' := by
 obtain ⟨cur, a, s, r⟩ := h.row
 refine ⟨⟨cur, a, s, fun c hc => ?_⟩, fun c hc b => ?_, fun c b c' b' hc hc' hne g => ?_⟩
 ·rw [e1 c hc, e2 c hc, e4 c hc, e4 c hc]
  exact r c hc
 ·rw [e3 c hc, e4 c hc]
  exact h.od c hc b
 ·rw [e4 c hc, e4 c' hc']
  exact h.dj c b c' b' hc hc' hne g
theorem od_other {B : Nat} {v : Value} {l : List (Nat × Nat)} {k : Nat} {x : Value} {o : Nat} (h : Od w B v l) (hk : k < B) : Od (w.setCell ⟨k, o, none⟩ x) B v l := by
 refine own_keep h fun g hg hl => ?_
 rw [Below.heap_setCell _ _ _ _ (fun e => by have e' : g = k := e; omega)]
theorem CM.size (h : CM w M C sz cl D vs) {c : Nat} (hc : c < C) (x : Int) : CM (w.setCell ⟨M, c * 4, none⟩ (.int .i64 x)) M C (fun y => if y = c then x else sz y) cl D vs := by
 obtain ⟨cur, a, s, r⟩ := h.row
 refine ⟨⟨_, Ba.heap_setCell_same a _, by simpa using s, fun y hy => ?_⟩, fun y hy b => od_other (h.od y hy b) (Nat.lt_succ_self _), h.dj⟩
 obtain ⟨r0, r1, r2, r3⟩ := r y hy
 refine ⟨?_, ?_, ?_, ?_⟩
 ·by_cases e : y = c
  ·subst e
   rw [if_pos rfl]
   exact Array.getElem?_setIfInBounds_self_of_lt (by omega)
  ·rw [if_neg e]
   exact (Array.getElem?_setIfInBounds_ne (by omega)).trans r0
 all_goals exact (Array.getElem?_setIfInBounds_ne (by omega)).trans (by assumption)
theorem CM.close (h : CM w M C sz cl D vs) {c : Nat} (hc : c < C) (x : Nat) : CM (w.setCell ⟨M, c * 4 + 1, none⟩ (.int .i64 (x : Int))) M C sz (fun y => if y = c then x else cl y) D vs := by
 obtain ⟨cur, a, s, r⟩ := h.row
 refine ⟨⟨_, Ba.heap_setCell_same a _, by simpa using s, fun y hy => ?_⟩, fun y hy b => od_other (h.od y hy b) (Nat.lt_succ_self _), h.dj⟩
 obtain ⟨r0, r1, r2, r3⟩ := r y hy
 refine ⟨(Array.getElem?_setIfInBounds_ne (by omega)).trans r0, ?_, (Array.getElem?_setIfInBounds_ne (by omega)).trans r2, (Array.getElem?_setIfInBounds_ne (by omega)).trans r3⟩
 by_cases e : y = c
 ·subst e
  rw [if_pos rfl]
  exact Array.getElem?_setIfInBounds_self_of_lt (by omega)
 ·rw [if_neg e]
  exact (Array.getElem?_setIfInBounds_ne (by omega)).trans r1
theorem CM.put (h : CM w M C sz cl D vs) {c : Nat} (hc : c < C) (b : Bool) {v' : Value} {l' : List (Nat × Nat)} (o' : Od w' (M + 1) v' l') (g : w.grownBy w' (vs c b).ownBlock) (hn : v'.ownBlock = (vs c b).ownBlock ∨ ∀ n, v'.ownBlock = some n → w.heap.size ≤ n) :
 CM (w'.setCell ⟨M, c * 4 + (if b then 2 else 3), none⟩ v') M C sz cl (fun y z => if y = c ∧ z = b then l' else D y z) (fun y z => if y = c ∧ z = b then v' else vs y z) := by
 obtain ⟨cur, a, s, r⟩ := h.row
 have hM : some M ≠ (vs c b).ownBlock := fun e => by have := own_base (h.od c hc b) M e.symm; omega
 have a' : w'.heap[M]? = some (.cells cur 123 (0, 0)) := (g.block M (heap_lt a) hM).trans a
 refine ⟨⟨_, Ba.heap_setCell_same a' _, by simpa using s, fun y hy => ?_⟩, fun y hy z => ?_, fun y z y' z' hy hy' hne q hq => ?_⟩
 ·obtain ⟨r0, r1, r2, r3⟩ := r y hy
  by_cases e : y = c
  ·subst e
   cases b
   ·simp only [if_false, Bool.false_eq_true, true_and, if_true, Bool.true_eq_false]
    refine ⟨?_, ?_, ?_, Array.getElem?_setIfInBounds_self_of_lt (by omega)⟩
    ·exact (Array.getElem?_setIfInBounds_ne (by omega)).trans r0
    ·exact (Array.getElem?_setIfInBounds_ne (by omega)).trans r1
    ·exact (Array.getElem?_setIfInBounds_ne (by omega)).trans r2
   ·simp only [if_false, Bool.false_eq_true, true_and, if_true]
    refine ⟨?_, ?_, Array.getElem?_setIfInBounds_self_of_lt (by omega), ?_⟩
    ·exact (Array.getElem?_setIfInBounds_ne (by omega)).trans r0
    ·exact (Array.getElem?_setIfInBounds_ne (by omega)).trans r1
    ·exact (Array.getElem?_setIfInBounds_ne (by omega)).trans r3
  ·have hx : c * 4 + (if b then 2 else 3) < c * 4 + 4 := by cases b <;> simp
   simp only [e, false_and, if_false]
   refine ⟨?_, ?_, ?_, ?_⟩
   ·exact (Array.getElem?_setIfInBounds_ne (by omega)).trans r0
   ·exact (Array.getElem?_setIfInBounds_ne (by omega)).trans r1
   ·exact (Array.getElem?_setIfInBounds_ne (by omega)).trans r2
   ·exact (Array.getElem?_setIfInBounds_ne (by omega)).trans r3
 ·by_cases e : y = c ∧ z = b
  ·simp only [e, and_self, if_true]
   exact od_other o' (Nat.lt_succ_self _)
  ·simp only [e, if_false]
   refine od_other ?_ (Nat.lt_succ_self _)
   rcases (h.od y hy z).2 with ⟨q1, q2⟩ | ⟨q, cap, cr, q1, q2, q3, q4⟩
   ·exact ⟨(h.od y hy z).1, .inl ⟨q1, q2⟩⟩
   ·refine ⟨(h.od y hy z).1, .inr ⟨q, cap, cr, q1, q2, (g.block q (heap_lt q3) fun e2 => ?_).trans q3, q4⟩⟩
    refine h.dj y z c b hy hc ?_ q (by rw [q1]; rfl) e2.symm
    rcases Classical.em (y = c) with ey | ey
    ·exact .inr fun ez => e ⟨ey, ez⟩
    ·exact .inl ey
 ·have old : ∀ y z, y < C → ¬ (y = c ∧ z = b) → ∀ n, v'.ownBlock = some n → (vs y z).ownBlock ≠ some n := by
   intro y z hy e n hn1 hn2
   rcases hn with q | q
   ·rw [q] at hn1
    refine h.dj y z c b hy hc ?_ n hn2 hn1
    rcases Classical.em (y = c) with ey | ey
    ·exact .inr fun ez => e ⟨ey, ez⟩
    ·exact .inl ey
   ·have q1 := q n hn1
    have q2 := own_lt (h.od y hy z) n hn2
    omega
  by_cases e : y = c ∧ z = b <;> by_cases e' : y' = c ∧ z' = b
  ·obtain ⟨rfl, rfl⟩ := e
   obtain ⟨rfl, rfl⟩ := e'
   simp at hne
  ·simp only [e, e', if_false, and_self, if_true] at hq ⊢
   exact old y' z' hy' e' q hq
  ·simp only [e, e', if_false, and_self, if_true] at hq ⊢
   exact fun q2 => old y z hy e q q2 hq
  ·simp only [e, e', if_false] at hq ⊢
   exact h.dj y z y' z' hy hy' hne q hq
end
end Eg
end Go.Proofs.YtblfimobiibmjaaGreat
namespace Go.Proofs.YtblfimobiibmjaaGreat
open Go.ChangeShapes Go.WideShapes Go.ChangeAt Go.RowKit
namespace Eg
open En Gu Ba
theorem Tok.chk {l : List Ev} (h : Tok l) {i : Nat} {e : Ev} (he : l[i]? = some e) : chk e = 0 := by
 have q := h i e he
 unfold ruleD at q
 split at q
 ·omega
 ·rename_i z
  simp only [not_or, Decidable.not_not] at z
  exact z.2
theorem Tok.c1 {l : List Ev} (h : Tok l) {i : Nat} {e : Ev} (he : l[i]? = some e) : -1 ≤ e.c := (chk_c (h.chk he)).1
theorem chk_v {e : Ev} (h : chk e = 0) (h2 : e.k = 2) : e.v ≤ 4 := by
 have hk : ¬ (e.k < 1 ∨ 13 < e.k) := fun q => by simp [chk, q] at h
 have hb : (ff e && okF e) = true := by
  apply Classical.byContradiction
  intro q
  simp [chk, hk, q] at h
 have hf : ff e = true := by revert hb; cases ff e <;> simp
 have ho : okF e = true := by revert hb; rw [hf]; simp
 have o3 := okF_at ho 3 (by decide)
 obtain ⟨k, g, c, a, v, m, s, o⟩ := e
 simp only at h2
 subst h2
 simp [okA, spn, En.fl, Ba.nth, inS] at o3
 show v ≤ 4
 omega
def svL (l : List Ev) (i : Nat) (e : Ev) : List (Nat × Nat) := if e.m = -1 ∨ i + 1 = l.length then [] else [(bg l (i + 1), i + 1)]
theorem service_any (oa : Option Addr) (l : List Ev) (c i : Nat) (e : Ev) (w : World) (hA : EsAt w oa l) (h : Tok l) (he : l[i]? = some e) (hl : l.length ≤ 2000) :
 Calls Tryz.prog 66 #[.slice oa l.length c, .int .i64 (i : Int)] w fun r w' => (∃ v, r = .returned v ∧ Od w' w.heap.size v (svL l i e)) ∧ Below w.heap.size w w' := by
 have hi := (List.getElem?_eq_some_iff.1 he).1
 by_cases hs : e.m = -1 ∨ i + 1 = l.length
 ·refine (service_none oa l c i e w hA he hl hs).mono ?_
  rintro r w' ⟨rfl, b⟩
  unfold svL
  rw [if_pos hs]
  exact ⟨⟨_, rfl, ⟨rfl, .inl ⟨rfl, rfl⟩⟩⟩, b⟩
 ·refine (service_one oa l c i e w hA h he hl (fun q => hs (.inl q)) (by have : i + 1 ≠ l.length := fun q => hs (.inr q); omega)).mono ?_
  rintro r w' ⟨⟨g, rfl, hg, hc⟩, b⟩
  unfold svL
  rw [if_neg hs]
  refine ⟨⟨_, rfl, ⟨rfl, .inr ⟨g, 1, _, rfl, hg, hc, Nat.le_refl _, by decide, rfl, rfl⟩⟩⟩, b⟩
theorem od_one {W : World} {g : Nat} {x : Nat × Nat} (hc : W.heap[g]? = some (.cells #[.int .i64 (x.1 : Int), .int .i64 (x.2 : Int)] 125)) : Od W g (.slice (some ⟨g, 0, none⟩) 1 1) [x] :=
 ⟨rfl, .inr ⟨g, 1, _, rfl, Nat.le_refl _, hc, Nat.le_refl _, by decide, rfl, rfl⟩⟩
theorem app_od {w : World} {B B2 : Nat} {v v2 : Value} {l l2 : List (Nat × Nat)} (ho : Od w B v l) (h2 : Od w B2 v2 l2) (hl : l.length + l2.length ≤ 100000) (hb : B ≤ w.heap.size) :
 ∃ v' w', (Builtin.append_ #[121, 121] 121 #[v, v2]).run Tryz.prog w = .ok v' w' ∧ Od w' B v' (l ++ l2) ∧ w.grownBy w' v.ownBlock ∧ (v'.ownBlock = v.ownBlock ∨ v'.ownBlock = some w.heap.size) := by
 obtain ⟨i0, hi, hz, hs, hby⟩ := info_ex info_dt0
 obtain ⟨oa, c, rfl, -, -⟩ := h2.sl
 rcases oa with _ | ⟨g, o, x⟩
 ·have h0 : l2.length = 0 := by
   rcases h2.2 with ⟨-, q⟩ | ⟨g, cap, cur, q, -⟩
   ·exact q
   ·cases q
  have hl0 : l2 = [] := List.length_eq_zero_iff.1 h0
  subst hl0
  obtain ⟨ob, cb, rfl, -, -⟩ := ho.sl
  refine ⟨_, w, run_app_none B 121 121 125 i0 2 Tryz.underlying121 hi ob l.length cb c _ ho, by simpa using ho, grown_refl _ _, .inl rfl⟩
 ·obtain ⟨rfl, rfl⟩ : o = 0 ∧ x = none := by
   rcases h2.2 with ⟨q, -⟩ | ⟨g, cap, cur, q, -⟩
   ·cases q
   ·cases q; exact ⟨rfl, rfl⟩
  obtain ⟨cur, hg, hcell⟩ : ∃ cur, w.heap[g]? = some (.cells cur 125 (0, 0)) ∧ ∀ k, k < l2.length * 2 → cur[k]? = (dlc l2)[k]? := by
   rcases h2.2 with ⟨q, -⟩ | ⟨g', cap', cur, q, q1, q2, q3, q4, q5, q6⟩
   ·cases q
   ·simp only [Value.slice.injEq, Option.some.injEq, Addr.mk.injEq, and_true, true_and] at q
    obtain ⟨rfl, rfl⟩ := q
    refine ⟨cur, q2, fun k hk => ?_⟩
    rw [← q6, List.getElem?_take, if_pos (by omega)]
    simp
  obtain ⟨ea', c', w', h3, h4, h5, -, h6⟩ := app_dl w B v l l2 l.length rfl ho ⟨g, 0, none⟩ l2.length c rfl (fun j u hj => by
   have hj2 := (List.getElem?_eq_some_iff.1 hj).1
   rw [dlc_len] at hj2
   rw [Addr.add_lit, Nat.zero_add, cell_of hg, hcell j hj2, hj]) hl hb
  refine ⟨_, w', h3, ?_, h5, h6⟩
  unfold Od
  rw [List.length_append]
  exact h4
theorem dl_same {l : List Ev} {c : Int} {b : Bool} {k : Nat} (h : one l c b k = []) : dl l c b (k + 1) = dl l c b k := by
 rw [dl_succ, h]
 simp
theorem one_not {l : List Ev} {k : Nat} {e : Ev} (he : l[k]? = some e) {c : Int} (b : Bool) (h : e.c ≠ c ∨ moves e = false) : one l c b k = [] := by
 unfold one
 rw [he]
 simp only
 rw [if_pos h]
theorem dl_own {l : List Ev} {k : Nat} {e : Ev} (he : l[k]? = some e) (hm : moves e = true) : dl l e.c e.s (k + 1) = dl l e.c e.s k ++ [(bg l k, k)] := by
 rw [dl_succ]
 unfold one
 rw [he]
 simp [hm]
theorem dl_svc {l : List Ev} {k : Nat} {e : Ev} (he : l[k]? = some e) (hm : moves e = true) (h1 : -1 ≤ e.m) : dl l e.c (!e.s) (k + 1) = dl l e.c (!e.s) k ++ svL l k e := by
 rw [dl_succ]
 unfold one svL
 have hk := (List.getElem?_eq_some_iff.1 he).1
 rw [he]
 simp only [ne_eq, not_true_eq_false, hm, Bool.true_eq_false, or_self, if_false]
 rw [if_neg (by cases e.s <;> simp)]
 by_cases h : 0 ≤ e.m ∧ k + 1 < l.length
 ·rw [if_pos h, if_neg (by omega)]
  rfl
 ·rw [if_neg h, if_pos (by omega)]
  rfl
theorem size_next {l : List Ev} {k : Nat} {e : Ev} (he : l[k]? = some e) (c : Int) : (inn l (k + 1) c).size = if e.c = c ∧ e.k = 2 then e.v else (inn l k c).size := by
 rw [inn_succ he]
 unfold ins
 by_cases h : e.c ≠ c
 ·rw [if_pos h, if_neg (fun q => h q.1)]
 ·rw [if_neg h]
  have hc : e.c = c := Classical.not_not.1 h
  by_cases hm : moves e = true
  ·rw [if_pos hm, mov_size, if_neg]
   intro q
   unfold moves at hm
   simp [q.2] at hm
  ·rw [if_neg hm]
   show (if e.k = 2 then e.v else (inn l k c).size) = if e.c = c ∧ e.k = 2 then e.v else (inn l k c).size
   simp [hc]
theorem cl_next {l : List Ev} {k : Nat} {e : Ev} (he : l[k]? = some e) (c : Int) : clF l c (k + 1) = if e.k = 5 ∧ e.c = c then k else clF l c k := by
 show (match l[k]? with | some e => if e.k = 5 ∧ e.c = c then k else clF l c k | none => clF l c k) = _
 rw [he]
theorem ce_next (l : List Ev) (k : Nat) : clE l (k + 1) = clE l k ++ out4 l k := by
 unfold clE
 rw [List.range_succ, List.flatMap_append]
 simp
theorem ce_len (l : List Ev) : ∀ k, (clE l k).length ≤ k
 | 0 => by simp [clE]
 | k + 1 => by
   have := ce_len l k
   rw [ce_next, List.length_append]
   have : (out4 l k).length ≤ 1 := by
    unfold out4
    split
    ·simp
    ·split <;> simp
   omega
theorem ce_same {l : List Ev} {k : Nat} {e : Ev} (he : l[k]? = some e) (h : ¬ (e.c ≠ -1 ∧ (e.k = 4 ∨ e.k = 7) ∧ e.o = false)) : clE l (k + 1) = clE l k := by
 rw [ce_next]
 unfold out4
 rw [he]
 simp only
 rw [if_neg h, List.append_nil]
theorem ce_more {l : List Ev} {k : Nat} {e : Ev} (he : l[k]? = some e) (h : e.c ≠ -1 ∧ (e.k = 4 ∨ e.k = 7) ∧ e.o = false) : clE l (k + 1) = clE l k ++ [⟨clF l e.c k, k, 4⟩] := by
 rw [ce_next]
 unfold out4
 rw [he]
 simp only
 rw [if_pos h]
end Eg
end Go.Proofs.YtblfimobiibmjaaGreat
namespace Go.Proofs.YtblfimobiibmjaaGreat
open Go.ChangeShapes Go.WideShapes Go.ChangeAt Go.RowKit
namespace Eg
open En Gu Ba
theorem info_ch0 : (Tryz.prog.info? 123).map (fun i => (i.zero, i.size, i.bytes)) = some (some (.agg #[.int .i64 0, .int .i64 0, .slice none 0 0, .slice none 0 0]), 4, 64) := by kernel_rfl
theorem mk_ch (w : World) (n : Nat) (hn : n ≤ 100000) : (Instr.makeSlice 119 (.int .i64 (n : Int)) (.int .i64 (n : Int))).run Tryz.prog w = .ok (.slice (some ⟨w.heap.size, 0, none⟩) n n) (w.alloc (.cells (madeCells #[.int .i64 0, .int .i64 0, .slice none 0 0, .slice none 0 0] (n * 4)) 123)) := by
 obtain ⟨i0, hi, hz, hs, hby⟩ := info_ex info_ch0
 have := run_mkG (Tryz.underlying119) hi hz w n (by rw [hby]; omega) (by omega)
 rw [hs] at this
 exact this
theorem made4 (n g : Nat) (h : g < n) : (madeCells #[Value.int .i64 0, .int .i64 0, .slice none 0 0, .slice none 0 0] (n * 4))[g * 4]? = some (.int .i64 0) ∧ (madeCells #[Value.int .i64 0, .int .i64 0, .slice none 0 0, .slice none 0 0] (n * 4))[g * 4 + 1]? = some (.int .i64 0) ∧ (madeCells #[Value.int .i64 0, .int .i64 0, .slice none 0 0, .slice none 0 0] (n * 4))[g * 4 + 2]? = some (.slice none 0 0) ∧ (madeCells #[Value.int .i64 0, .int .i64 0, .slice none 0 0, .slice none 0 0] (n * 4))[g * 4 + 3]? = some (.slice none 0 0) := by
 unfold madeCells
 have e0 : (g * 4) % 4 = 0 := by omega
 have e1 : (g * 4 + 1) % 4 = 1 := by omega
 have e2 : (g * 4 + 2) % 4 = 2 := by omega
 have e3 : (g * 4 + 3) % 4 = 3 := by omega
 have h0 : g * 4 < n * 4 := by omega
 have h1 : g * 4 + 1 < n * 4 := by omega
 have h2 : g * 4 + 2 < n * 4 := by omega
 have h3 : g * 4 + 3 < n * 4 := by omega
 simp [e0, e1, e2, e3, h0, h1, h2, h3]
def szK (l : List Ev) (k c : Nat) : Int := (inn l k (c : Int)).size
def clK (l : List Ev) (k c : Nat) : Nat := clF l (c : Int) k
def dlK (l : List Ev) (k c : Nat) (b : Bool) : List (Nat × Nat) := dl l (c : Int) b k
structure ChI (w : World) (M C : Nat) (l : List Ev) (ed : Value) (wr : World) (k : Nat) : Prop where
 le : k ≤ l.length
 bl : Below w.heap.size w wr
 cm : ∃ vs, CM wr M C (szK l k) (clK l k) (dlK l k) vs
 ed : Ow wr (M + 1) ed (clE l k)
section
variable {w wr W : World} {M C : Nat} {l : List Ev} {ed : Value} {k : Nat} {e : Ev}
theorem ChI.below (h : ChI w M C l ed wr k) (b : Below wr.heap.size wr W) : ChI w M C l ed W k := by
 obtain ⟨vs, cm⟩ := h.cm
 exact ⟨h.le, btr h.bl b, ⟨vs, cm.below b⟩, h.ed.below b⟩
theorem ChI.skip (h : ChI w M C l ed wr k) (he : l[k]? = some e) (h1 : e.c = -1 ∨ (e.k ≠ 2 ∧ e.k ≠ 5 ∧ moves e = false ∧ ¬ ((e.k = 4 ∨ e.k = 7) ∧ e.o = false))) : ChI w M C l ed wr (k + 1) := by
 have hk := (List.getElem?_eq_some_iff.1 he).1
 obtain ⟨vs, cm⟩ := h.cm
 refine ⟨by omega, h.bl, ⟨vs, cm.congr (fun c _ => ?_) (fun c _ => ?_) (fun c _ b => ?_) (fun _ _ _ => rfl)⟩, ?_⟩
 ·unfold szK
  rw [size_next he, if_neg]
  rcases h1 with q | q
  ·omega
  ·exact fun z => q.1 z.2
 ·unfold clK
  rw [cl_next he, if_neg]
  rcases h1 with q | q
  ·omega
  ·exact fun z => q.2.1 z.1
 ·unfold dlK
  refine dl_same (one_not he b ?_)
  rcases h1 with q | q
  ·exact .inl (by omega)
  ·exact .inr q.2.2.1
 ·rw [ce_same he]
  ·exact h.ed
  ·rcases h1 with q | q
   ·exact fun z => z.1 q
   ·exact fun z => q.2.2.2 z.2
theorem ChI.make (h : ChI w M C l ed wr k) (hM : w.heap.size ≤ M) (he : l[k]? = some e) {d : Nat} (hd : e.c = (d : Int)) (hdC : d < C) (h2 : e.k = 2) : ChI w M C l ed (wr.setCell ⟨M, d * 4, none⟩ (.int .i64 e.v)) (k + 1) := by
 have hk := (List.getElem?_eq_some_iff.1 he).1
 obtain ⟨vs, cm⟩ := h.cm
 have mv : moves e = false := by unfold moves; simp [h2]
 refine ⟨by omega, h.bl.setCell hM _, ⟨vs, (cm.size hdC e.v).congr (fun c _ => ?_) (fun c _ => ?_) (fun c _ b => ?_) (fun _ _ _ => rfl)⟩, ?_⟩
 ·unfold szK
  rw [size_next he]
  by_cases q : c = d
  ·rw [if_pos q, if_pos ⟨by rw [hd, q], h2⟩]
  ·rw [if_neg q, if_neg (fun z => q (by have := z.1; omega))]
 ·unfold clK
  rw [cl_next he, if_neg (fun z => by have := z.1; omega)]
 ·unfold dlK
  exact dl_same (one_not he b (.inr mv))
 ·rw [ce_same he (fun z => by rcases z.2.1 with q | q <;> omega)]
  exact own_keep h.ed fun g hg hl => Below.heap_setCell _ _ _ _ (fun q => by have q' : g = M := q; omega)
theorem ChI.shut (h : ChI w M C l ed wr k) (hM : w.heap.size ≤ M) (he : l[k]? = some e) {d : Nat} (hd : e.c = (d : Int)) (hdC : d < C) (h5 : e.k = 5) : ChI w M C l ed (wr.setCell ⟨M, d * 4 + 1, none⟩ (.int .i64 (k : Int))) (k + 1) := by
 have hk := (List.getElem?_eq_some_iff.1 he).1
 obtain ⟨vs, cm⟩ := h.cm
 have mv : moves e = false := by unfold moves; simp [h5]
 refine ⟨by omega, h.bl.setCell hM _, ⟨vs, (cm.close hdC k).congr (fun c _ => ?_) (fun c _ => ?_) (fun c _ b => ?_) (fun _ _ _ => rfl)⟩, ?_⟩
 ·unfold szK
  rw [size_next he, if_neg (fun z => by have := z.2; omega)]
 ·unfold clK
  rw [cl_next he]
  by_cases q : c = d
  ·rw [if_pos q, if_pos ⟨h5, by rw [hd, q]⟩]
  ·rw [if_neg q, if_neg (fun z => q (by have := z.2; omega))]
 ·unfold dlK
  exact dl_same (one_not he b (.inr mv))
 ·rw [ce_same he (fun z => by rcases z.2.1 with q | q <;> omega)]
  exact own_keep h.ed fun g hg hl => Below.heap_setCell _ _ _ _ (fun q => by have q' : g = M := q; omega)
theorem ChI.none (h : ChI w M C l ed wr k) (he : l[k]? = some e) {d : Nat} (hd : e.c = (d : Int)) (hn : (e.k = 4 ∨ e.k = 7) ∧ e.o = false) {ed' : Value} {w6 : World} (g : wr.grownBy w6 ed.ownBlock) (o : Ow w6 (M + 1) ed' (clE l k ++ [⟨clK l k d, k, 4⟩])) (hM : w.heap.size ≤ M) : ChI w M C l ed' w6 (k + 1) := by
 have hk := (List.getElem?_eq_some_iff.1 he).1
 obtain ⟨vs, cm⟩ := h.cm
 have mv : moves e = false := by unfold moves; rcases hn with ⟨q | q, z⟩ <;> simp [q, z]
 obtain ⟨cur, hc, hr⟩ := cm.row
 have eb := own_base h.ed
 have et : ∀ q cc tt fr, wr.heap[q]? = some (.cells cc tt fr) → tt ≠ 70 → some q ≠ ed.ownBlock := by
  intro q cc tt fr hq ht e2
  rcases h.ed.2 with ⟨r1, _⟩ | ⟨b', cap, cr, r1, r2, r3, _⟩
  ·rw [r1] at e2; simp [Value.ownBlock] at e2
  ·rw [r1] at e2
   simp [Value.ownBlock] at e2
   rw [e2, r3] at hq
   cases hq
   exact ht rfl
 have cm6 : CM w6 M C (szK l k) (clK l k) (dlK l k) vs := by
  refine ⟨⟨cur, (g.block M (heap_lt hc) (et M _ _ _ hc (by decide))).trans hc, hr⟩, fun c hc b => ⟨(cm.od c hc b).1, ?_⟩, cm.dj⟩
  rcases (cm.od c hc b).2 with q | ⟨q, cap, cr, q1, q2, q3, q4⟩
  ·exact .inl q
  ·exact .inr ⟨q, cap, cr, q1, q2, (g.block q (heap_lt q3) (et q _ _ _ q3 (by decide))).trans q3, q4⟩
 refine ⟨by omega, h.bl.trans ((grown_below g eb (by have := cm.lt; omega)).mono (by omega)), ⟨vs, cm6.congr (fun c _ => ?_) (fun c _ => ?_) (fun c _ b => ?_) (fun _ _ _ => rfl)⟩, ?_⟩
 ·unfold szK
  rw [size_next he, if_neg (fun z => by have := z.2; rcases hn.1 with q | q <;> omega)]
 ·unfold clK
  rw [cl_next he, if_neg (fun z => by have := z.1; rcases hn.1 with q | q <;> omega)]
 ·unfold dlK
  exact dl_same (one_not he b (.inr mv))
 ·rw [ce_more he ⟨by omega, hn.1, hn.2⟩, hd]
  exact o
theorem CM.edg {sz : Nat → Int} {cl : Nat → Nat} {D : Nat → Bool → List (Nat × Nat)} {vs : Nat → Bool → Value} (cm : CM wr M C sz cl D vs) {B : Nat} {le : List Ed} {w6 : World} (o : Ow wr B ed le) (g : wr.grownBy w6 ed.ownBlock) : CM w6 M C sz cl D vs := by
 obtain ⟨cur, hc, hr⟩ := cm.row
 have et : ∀ q cc tt fr, wr.heap[q]? = some (.cells cc tt fr) → tt ≠ 70 → some q ≠ ed.ownBlock := by
  intro q cc tt fr hq ht e2
  rcases o.2 with ⟨r1, _⟩ | ⟨b', cap, cr, r1, r2, r3, _⟩
  ·rw [r1] at e2; simp [Value.ownBlock] at e2
  ·rw [r1] at e2
   simp [Value.ownBlock] at e2
   rw [e2, r3] at hq
   cases hq
   exact ht rfl
 refine ⟨⟨cur, (g.block M (heap_lt hc) (et M _ _ _ hc (by decide))).trans hc, hr⟩, fun c hc b => ⟨(cm.od c hc b).1, ?_⟩, cm.dj⟩
 rcases (cm.od c hc b).2 with q | ⟨q, cap, cr, q1, q2, q3, q4⟩
 ·exact .inl q
 ·exact .inr ⟨q, cap, cr, q1, q2, (g.block q (heap_lt q3) (et q _ _ _ q3 (by decide))).trans q3, q4⟩
theorem sz_bound (h : Tok l) (c : Int) : ∀ n, n ≤ l.length → 0 ≤ (inn l n c).size ∧ (inn l n c).size ≤ 4
 | 0, _ => by
   show 0 ≤ (0 : Int) ∧ (0 : Int) ≤ 4
   decide
 | n + 1, hn => by
   obtain ⟨e, he⟩ : ∃ e, l[n]? = some e := ⟨_, List.getElem?_eq_getElem (by omega)⟩
   have ih := sz_bound h c n (by omega)
   rw [size_next he]
   split
   ·rename_i q
    exact ⟨(h.at he).fit.v q.2, chk_v (h.chk he) q.2⟩
   ·exact ih
theorem sz_is (h : Tok l) (c : Nat) : szK l l.length c = (szF l (c : Int) : Int) ∧ szF l (c : Int) ≤ 4 := by
 have := sz_bound h (c : Int) l.length (Nat.le_refl _)
 unfold szK szF
 omega
theorem chE_len (l : List Ev) (c : Int) : (chE l c).length ≤ 2 * l.length := by
 rw [← eX_is]
 have h1 := eX_len (szF l c) (if szF l c = 0 then 5 else 6) (dl l c true l.length) (dl l c false l.length) (dl l c false l.length).length
 have h2 := dl_len l c false l.length
 omega
def chs (l : List Ev) (j : Nat) : List Ed := (List.range j).flatMap fun (c : Nat) => chE l (c : Int)
theorem chs_succ (l : List Ev) (j : Nat) : chs l (j + 1) = chs l j ++ chE l (j : Int) := by
 unfold chs
 rw [List.range_succ, List.flatMap_append]
 simp
theorem chs_len (l : List Ev) : ∀ j, (chs l j).length ≤ j * (2 * l.length)
 | 0 => by simp [chs]
 | j + 1 => by
   have := chs_len l j
   have := chE_len l (j : Int)
   rw [chs_succ, List.length_append, Nat.add_mul]
   omega
theorem put_app {sz : Nat → Int} {cl : Nat → Nat} {D : Nat → Bool → List (Nat × Nat)} {vs : Nat → Bool → Value} (cm : CM wr M C sz cl D vs) {d : Nat} (hd : d < C) (b : Bool) {W : World} (hb : Below wr.heap.size wr W) {B2 : Nat} {v2 : Value} {l2 : List (Nat × Nat)} (h2 : Od W B2 v2 l2) (hl : (D d b).length + l2.length ≤ 100000) :
 ∃ oa n c w6, (Builtin.append_ #[121, 121] 121 #[vs d b, v2]).run Tryz.prog W = .ok (.slice oa n c) w6 ∧ (∃ u, w6.cell? ⟨M, d * 4 + (if b then 2 else 3), none⟩ = some u) ∧ w6.frozen? ⟨M, d * 4 + (if b then 2 else 3), none⟩ = false ∧ CM (w6.setCell ⟨M, d * 4 + (if b then 2 else 3), none⟩ (.slice oa n c)) M C sz cl (fun y z => if y = d ∧ z = b then D d b ++ l2 else D y z) (fun y z => if y = d ∧ z = b then .slice oa n c else vs y z) ∧ Below M wr (w6.setCell ⟨M, d * 4 + (if b then 2 else 3), none⟩ (.slice oa n c)) ∧ ∀ ed le, Ow wr (M + 1) ed le → Ow (w6.setCell ⟨M, d * 4 + (if b then 2 else 3), none⟩ (.slice oa n c)) (M + 1) ed le := by
 have cmW := cm.below hb
 obtain ⟨v', w6, h1, h3, h4, h5⟩ := app_od (cmW.od d hd b) h2 hl (by have := cmW.lt; omega)
 obtain ⟨oa, c, rfl, -, -⟩ := h3.sl
 obtain ⟨cur, hc, hs, -⟩ := cmW.row
 have hM : some M ≠ (vs d b).ownBlock := fun e => by have := own_base (cmW.od d hd b) M e.symm; omega
 have c6 : w6.heap[M]? = some (.cells cur 123 (0, 0)) := (h4.block M (heap_lt hc) hM).trans hc
 refine ⟨oa, _, c, w6, h1, ?_, frozen_of c6 _, cmW.put hd b h3 h4 ?_, ?_, fun ed le ho => ?_⟩
 ·rw [cell_of c6]
  exact ⟨_, Array.getElem?_eq_getElem (by cases b <;> simp <;> omega)⟩
 ·rcases h5 with q | q
  ·exact .inl q
  ·exact .inr fun n hn => by rw [q] at hn; cases hn; exact Nat.le_refl _
 ·have b1 := hb.mono (Nat.le_of_lt cm.lt)
  have b2 := (grown_below h4 (own_base (cmW.od d hd b)) (by have := cmW.lt; omega)).mono (Nat.le_succ M)
  exact (b1.trans b2).setCell (Nat.le_refl _) _
 ·have hoW := ho.below hb
  refine own_keep (w := w6) ⟨hoW.1, ?_⟩ fun g hg hl => Below.heap_setCell _ _ _ _ (fun q => by have q' : g = M := q; omega)
  rcases hoW.2 with q | ⟨q, cap, cr, q1, q2, q3, q4⟩
  ·exact .inl q
  ·refine .inr ⟨q, cap, cr, q1, q2, (h4.block q (heap_lt q3) fun e2 => ?_).trans q3, q4⟩
   rcases (cmW.od d hd b).2 with ⟨r1, _⟩ | ⟨b', cap', cr', r1, r2, r3, _⟩
   ·rw [r1] at e2; simp [Value.ownBlock] at e2
   ·rw [r1] at e2
    simp [Value.ownBlock] at e2
    rw [← e2, q3] at r3
    have : 70 = 125 := by cases r3
    revert this
    decide
theorem ChI.deal {vs : Nat → Bool → Value} {W : World} (hk : k < l.length) (he : l[k]? = some e) (h : Tok l) {d : Nat} (hd : e.c = (d : Int)) (mv : moves e = true) (bl : Below w.heap.size w W) (ed_ : Ow W (M + 1) ed (clE l k))
 (cm : CM W M C (szK l k) (clK l k) (fun y z => if y = d ∧ z = !e.s then (if d = d ∧ (!e.s) = e.s then dlK l k d e.s ++ [(bg l k, k)] else dlK l k d (!e.s)) ++ svL l k e else if y = d ∧ z = e.s then dlK l k d e.s ++ [(bg l k, k)] else dlK l k y z) vs) : ChI w M C l ed W (k + 1) := by
 have hk45 : e.k ≠ 2 ∧ e.k ≠ 5 ∧ ¬ ((e.k = 4 ∨ e.k = 7) ∧ e.o = false) := by
  unfold moves at mv
  simp at mv
  rcases mv with q | q
  ·exact ⟨by omega, by omega, fun z => by rcases z.1 with r | r <;> omega⟩
  ·exact ⟨by omega, by omega, fun z => by rw [q.2] at z; exact absurd z.2 (by decide)⟩
 refine ⟨by omega, bl, ⟨vs, cm.congr (fun c _ => ?_) (fun c _ => ?_) (fun c _ b => ?_) (fun _ _ _ => rfl)⟩, ?_⟩
 ·unfold szK
  rw [size_next he, if_neg (fun z => hk45.1 z.2)]
 ·unfold clK
  rw [cl_next he, if_neg (fun z => hk45.2.1 z.1)]
 ·have m1 := (h.at he).fit.m
  by_cases q : c = d
  ·subst q
   have e1 := dl_own he mv
   have e2 := dl_svc he mv m1
   rw [hd] at e1 e2
   by_cases qb : b = e.s
   ·subst qb
    rw [if_neg (fun z => by have := z.2; revert this; cases e.s <;> simp), if_pos ⟨rfl, rfl⟩]
    exact e1
   ·have qb2 : b = !e.s := by revert qb; cases b <;> cases e.s <;> simp
    subst qb2
    rw [if_pos ⟨rfl, rfl⟩, if_neg (fun z => by have := z.2; revert this; cases e.s <;> simp)]
    exact e2
  ·rw [if_neg (fun z => q z.1), if_neg (fun z => q z.1)]
   unfold dlK
   exact dl_same (one_not he b (.inl (by omega)))
 ·rw [ce_same he (fun z => hk45.2.2 z.2)]
  exact ed_
end
end Eg
end Go.Proofs.YtblfimobiibmjaaGreat
namespace Go.Proofs.YtblfimobiibmjaaGreat
open Go.ChangeShapes Go.WideShapes Go.ChangeAt Go.RowKit
namespace Eg
open En Gu Ba
set_option maxRecDepth 100000 in
set_option maxHeartbeats 6400000 in
theorem edges_any (sz : Nat) (cl : Int) (sv rv : Value) (S R : List (Nat × Nat)) (B1 B2 : Nat) (w : World) (hs : Od w B1 sv S) (hr : Od w B2 rv R) (hsz : sz ≤ 1000000000) (hR : R.length ≤ 4000) (hS : S.length ≤ 4000) (bk : Nat) (hbk : bk = if sz = 0 then 5 else 6) :
 Calls Tryz.prog 67 #[.agg #[.int .i64 (sz : Int), .int .i64 cl, sv, rv]] w fun r w' => ∃ v, r = .returned v ∧ Ow w' w.heap.size v (eX sz bk S R R.length) ∧ Below w.heap.size w w' := by
 obtain ⟨sa, sc, rfl, -, -⟩ := hs.sl
 obtain ⟨ra, rc, rfl, -, -⟩ := hr.sl
 obtain ⟨nS, hnS⟩ : ∃ n, S.length = n := ⟨_, rfl⟩
 obtain ⟨nR, hnR⟩ : ∃ n, R.length = n := ⟨_, rfl⟩
 have NS := hide hnS
 have NR := hide hnR
 have HS := hide hs
 have HRR := hide hr
 rw [hnS] at hS ⊢
 rw [hnR] at hR ⊢
 have BX := hide (heap_new w (.cells #[.int .i64 (sz : Int), .int .i64 cl, .slice sa nS sc, .slice ra nR rc] 123))
 have BB := hide (below_alloc w (.cells #[.int .i64 (sz : Int), .int .i64 cl, .slice sa nS sc, .slice ra nR rc] 123))
 clear hs hr hnS hnR
 go_enter Tryz.func67, Tryz.ntmps67
 go_upto_region 2 with fail
 generalize w.alloc (.cells #[.int .i64 (sz : Int), .int .i64 cl, .slice sa nS sc, .slice ra nR rc] 123) = wb at *
 have y0 : wb.cell? ⟨w.heap.size, 0, none⟩ = some (.int .i64 (sz : Int)) := cell_of BX.out 0
 have y2 : wb.cell? ⟨w.heap.size, 2, none⟩ = some (.slice sa nS sc) := cell_of BX.out 2
 have y3 : wb.cell? ⟨w.heap.size, 3, none⟩ = some (.slice ra nR rc) := cell_of BX.out 3
 have B0 := hide BB.out
 by_cases h0 : sz = 0
 ·have d0 : ((sz : Int) == 0) = true := by simp [h0]
  obtain rfl : bk = 5 := by rw [hbk, if_pos h0]
  clear h0 hbk
  go_wp2_with fail
  go_loopw [4, 13] (fun ev iv wr => ∃ k : Nat, k ≤ nR ∧ iv = .int .i64 k ∧ Ow wr wb.heap.size ev (eX sz 5 S R k) ∧ Below wb.heap.size wb wr) (fun _ iv _ => nR - (intOf iv).toNat)
  case atStart => exact ⟨0, Nat.zero_le _, rfl, Ow.nil _ _, Below.refl _ _⟩
  case round =>
   obtain ⟨k, hk, rfl, ow, hb⟩ := hrel
   have HB := hide hb
   have BXr := hide (heap_below BX.out hb)
   clear y0 y2 y3
   have y0 : wr.cell? ⟨w.heap.size, 0, none⟩ = some (.int .i64 (sz : Int)) := cell_of BXr.out 0
   have y2 : wr.cell? ⟨w.heap.size, 2, none⟩ = some (.slice sa nS sc) := cell_of BXr.out 2
   obtain ⟨ea, cp, rfl, -, -⟩ := ow.sl
   have XL := eX_len sz 5 S R k
   obtain ⟨n, hn⟩ : ∃ n, (eX sz 5 S R k).length = n := ⟨_, rfl⟩
   have HN := hide hn
   have OWo := hide ow
   rw [hn] at XL ⊢
   clear ow hb
   by_cases hlt : k < nR
   ·have hlt' : (k : Int) < (nR : Int) := by omega
    have k0 : (0 : Int) ≤ (k : Int) := by omega
    obtain ⟨q, hq⟩ : ∃ q, R[k]? = some q := ⟨_, List.getElem?_eq_getElem (by rw [NR.out]; omega)⟩
    have BW := hide (btr B0.out HB.out)
    obtain ⟨gr, rfl, r0, r1⟩ := (HRR.out.below BW.out).cell hq
    have HQ := hide hq
    clear hq hn
    go_upto_region 8 with fail
    have QB0 := hide (heap_new wr (.cells #[.int .i64 (q.1 : Int), .int .i64 (q.2 : Int)] 125))
    have BD := hide (below_alloc wr (.cells #[.int .i64 (q.1 : Int), .int .i64 (q.2 : Int)] 125))
    generalize wr.alloc (.cells #[.int .i64 (q.1 : Int), .int .i64 (q.2 : Int)] 125) = wd at *
    have OWd := hide (OWo.out.below BD.out)
    have OWn : Hid (Ow wd wb.heap.size (.slice ea n cp) (eX sz 5 S R k)) := by have O := OWd.out; rw [HN.out] at O; exact O
    have BXd := hide (heap_below BXr.out BD.out)
    clear y0 y2 r0 r1
    have y0 : wd.cell? ⟨w.heap.size, 0, none⟩ = some (.int .i64 (sz : Int)) := cell_of BXd.out 0
    have y2 : wd.cell? ⟨w.heap.size, 2, none⟩ = some (.slice sa nS sc) := cell_of BXd.out 2
    have q0 : wd.cell? ⟨wr.heap.size, 0, none⟩ = some (.int .i64 (q.1 : Int)) := cell_of QB0.out 0
    have q1 : wd.cell? ⟨wr.heap.size, 1, none⟩ = some (.int .i64 (q.2 : Int)) := cell_of QB0.out 1
    have WLT : Hid (w.heap.size < wr.heap.size) := heap_lt BXr.out
    have BWd := hide (btr BW.out BD.out)
    have BWb := hide (btr HB.out BD.out)
    have WBS : Hid (w.heap.size < wb.heap.size) := heap_lt BX.out
    cases hp : S[k]? with
    | none =>
      have hkS : nS ≤ k := by have := List.getElem?_eq_none_iff.1 hp; rw [NS.out] at this; exact this
      have d1 : decide ((k : Int) < (nS : Int)) = false := by simp; omega
      have hp2 : S[k + sz]? = none := List.getElem?_eq_none_iff.2 (by rw [NS.out]; omega)
      have d2 : decide ((k : Int) + (sz : Int) < (nS : Int)) = false := by simp; omega
      have E : Hid (eX sz 5 S R (k + 1) = eX sz 5 S R k) := by
       show _ = _
       rw [eX_succ, eC_is HQ.out, hp, hp2]
       simp
      clear hp hp2
      go_wp2_with fail
      go_roundw
      case measure => simp [intOf]; omega
      case rel => exact ⟨k + 1, by omega, by simp, by rw [E.out]; exact OWn.out, btr HB.out BD.out⟩
    | some p =>
      have HP := hide hp
      have hkS : k < nS := by have := (List.getElem?_eq_some_iff.1 hp).1; rw [NS.out] at this; exact this
      have d1 : decide ((k : Int) < (nS : Int)) = true := by simp; omega
      have hkS' : (k : Int) < (nS : Int) := by omega
      obtain ⟨gs, rfl, s0, s1⟩ := (HS.out.below BWd.out).cell hp
      obtain ⟨ea', c', w6, hap, o6, g6⟩ := x_app wd OWd.out (Below.refl _ _) ⟨p.1, q.2, 3⟩ (by rw [HN.out]; omega) BWb.out.size
      rw [HN.out] at hap o6
      have O6 := hide o6
      have BG6 := hide (grown_below g6 (own_base OWd.out) BWb.out.size)
      have gn : ∀ x, x < wd.heap.size → some x ≠ (Value.slice ea (eX sz 5 S R k).length cp).ownBlock → w6.heap[x]? = wd.heap[x]? := fun x hx hne => g6.block x hx hne
      have EN : ∀ g, (Value.slice ea (eX sz 5 S R k).length cp).ownBlock = some g → g < wr.heap.size := fun g hg => own_lt2 OWo.out g hg
      have BX6 := hide ((BG6.out.block _ WBS.out).trans BXd.out)
      have QB6 := hide ((gn _ (heap_lt QB0.out) (fun e => by have := EN _ e.symm; omega)).trans QB0.out)
      clear hp o6 g6 gn EN
      go_upto_region 9 with fail
      go_region_law (refine step_append_run _ (by rfl) _ _ _ _ (by rfl) _ _ (by rfl) (by rfl) _ _ hap ?_)
      all_goals
       clear hap s0 s1 q0 q1 y0 y2
       have y0 : w6.cell? ⟨w.heap.size, 0, none⟩ = some (.int .i64 (sz : Int)) := cell_of BX6.out 0
       have y2 : w6.cell? ⟨w.heap.size, 2, none⟩ = some (.slice (some ⟨gs, 0, none⟩) nS sc) := cell_of BX6.out 2
       have q0 : w6.cell? ⟨wr.heap.size, 0, none⟩ = some (.int .i64 (q.1 : Int)) := cell_of QB6.out 0
       have BW6 := hide (BWd.out.trans (BG6.out.mono (by have := WBS.out; omega)))
       have BB6 := hide (BWb.out.trans BG6.out)
       obtain ⟨j, hj⟩ : ∃ j, k + sz = j := ⟨_, rfl⟩
       have HJ := hide hj
       have hj' : (k : Int) + (sz : Int) = (j : Int) := by omega
       have hjb : j ≤ 2000000000 := by omega
       have hjw : IntKind.i64.wrap (j : Int) = (j : Int) := by rw [IntKind.wrap_i64]; omega
       clear hj
       cases hp2 : S[j]? with
       | none =>
         have hkS2 : nS ≤ j := by have := List.getElem?_eq_none_iff.1 hp2; rw [NS.out] at this; exact this
         have d2 : decide ((j : Int) < (nS : Int)) = false := by simp; omega
         have E : Hid (eX sz 5 S R (k + 1) = eX sz 5 S R k ++ [⟨p.1, q.2, 3⟩]) := by
          show _ = _
          rw [eX_succ, eC_is HQ.out, HP.out, HJ.out, hp2]
          simp
         clear hp2
         go_wp2_with fail
         go_roundw
         case measure => simp [intOf]; omega
         case rel => exact ⟨k + 1, by omega, by simp, by rw [E.out]; exact O6.out, BB6.out⟩
       | some p2 =>
         have hkS2 : j < nS := by have := (List.getElem?_eq_some_iff.1 hp2).1; rw [NS.out] at this; exact this
         have d2 : decide ((j : Int) < (nS : Int)) = true := by simp; omega
         have ks0 : (0 : Int) ≤ (j : Int) := by omega
         have ks1 : (j : Int) < (nS : Int) := by omega
         obtain ⟨gs2, e2, s2, s3⟩ := (HS.out.below BW6.out).cell hp2
         obtain rfl : gs2 = gs := by cases e2; rfl
         have O6' : Ow w6 wb.heap.size (.slice ea' (eX sz 5 S R k ++ ([⟨p.1, q.2, 3⟩] : List Ed)).length c') (eX sz 5 S R k ++ ([⟨p.1, q.2, 3⟩] : List Ed)) := by
          have o := O6.out
          rw [show n + 1 = (eX sz 5 S R k ++ ([⟨p.1, q.2, 3⟩] : List Ed)).length by simp [HN.out]] at o
          exact o
         obtain ⟨ea2, c2, w8, hap2, o8, g8⟩ := x_app w6 O6' (Below.refl _ _) (⟨q.1, p2.2, 5⟩ : Ed) (by rw [List.length_append, HN.out]; simp; omega) BB6.out.size
         rw [show (eX sz 5 S R k ++ ([⟨p.1, q.2, 3⟩] : List Ed)).length = n + 1 by simp [HN.out]] at hap2 o8
         have E : Hid (eX sz 5 S R (k + 1) = (eX sz 5 S R k ++ [⟨p.1, q.2, 3⟩]) ++ [⟨q.1, p2.2, 5⟩]) := by
          show _ = _
          rw [eX_succ, eC_is HQ.out, HP.out, HJ.out, hp2]
          simp
         have O8 := hide o8
         have B8 := hide (BB6.out.trans (grown_below g8 (own_base O6') BB6.out.size))
         clear hp2 o8 g8 e2 O6'
         go_upto_region 11 with fail
         go_region_law (refine step_append_run _ (by rfl) _ _ _ _ (by rfl) _ _ (by rfl) (by rfl) _ _ hap2 ?_)
         all_goals
          clear hap2 s2 s3 q0 y0 y2
          go_wp2_with fail
          go_roundw
          case measure => simp [intOf]; omega
          case rel => exact ⟨k + 1, by omega, by simp, by rw [E.out]; exact O8.out, B8.out⟩
   ·have d : decide ((k : Int) < (nR : Int)) = false := by simp; omega
    have hk2 : k = nR := by omega
    subst hk2
    have O1 := hide OWo.out
    have BW := hide (btr B0.out HB.out)
    rw [HN.out] at O1
    clear hn y0 y2
    go_wp2_with fail
    go_ret
    exact ⟨_, rfl, O1.out.mono (by have := B0.out.size; omega), BW.out⟩
 ·have d0 : ((sz : Int) == 0) = false := by simp; omega
  obtain rfl : bk = 6 := by rw [hbk, if_neg h0]
  clear h0 hbk
  go_wp2_with fail
  go_loopw [4, 13] (fun ev iv wr => ∃ k : Nat, k ≤ nR ∧ iv = .int .i64 k ∧ Ow wr wb.heap.size ev (eX sz 6 S R k) ∧ Below wb.heap.size wb wr) (fun _ iv _ => nR - (intOf iv).toNat)
  case atStart => exact ⟨0, Nat.zero_le _, rfl, Ow.nil _ _, Below.refl _ _⟩
  case round =>
   obtain ⟨k, hk, rfl, ow, hb⟩ := hrel
   have HB := hide hb
   have BXr := hide (heap_below BX.out hb)
   clear y0 y2 y3
   have y0 : wr.cell? ⟨w.heap.size, 0, none⟩ = some (.int .i64 (sz : Int)) := cell_of BXr.out 0
   have y2 : wr.cell? ⟨w.heap.size, 2, none⟩ = some (.slice sa nS sc) := cell_of BXr.out 2
   obtain ⟨ea, cp, rfl, -, -⟩ := ow.sl
   have XL := eX_len sz 6 S R k
   obtain ⟨n, hn⟩ : ∃ n, (eX sz 6 S R k).length = n := ⟨_, rfl⟩
   have HN := hide hn
   have OWo := hide ow
   rw [hn] at XL ⊢
   clear ow hb
   by_cases hlt : k < nR
   ·have hlt' : (k : Int) < (nR : Int) := by omega
    have k0 : (0 : Int) ≤ (k : Int) := by omega
    obtain ⟨q, hq⟩ : ∃ q, R[k]? = some q := ⟨_, List.getElem?_eq_getElem (by rw [NR.out]; omega)⟩
    have BW := hide (btr B0.out HB.out)
    obtain ⟨gr, rfl, r0, r1⟩ := (HRR.out.below BW.out).cell hq
    have HQ := hide hq
    clear hq hn
    go_upto_region 8 with fail
    have QB0 := hide (heap_new wr (.cells #[.int .i64 (q.1 : Int), .int .i64 (q.2 : Int)] 125))
    have BD := hide (below_alloc wr (.cells #[.int .i64 (q.1 : Int), .int .i64 (q.2 : Int)] 125))
    generalize wr.alloc (.cells #[.int .i64 (q.1 : Int), .int .i64 (q.2 : Int)] 125) = wd at *
    have OWd := hide (OWo.out.below BD.out)
    have OWn : Hid (Ow wd wb.heap.size (.slice ea n cp) (eX sz 6 S R k)) := by have O := OWd.out; rw [HN.out] at O; exact O
    have BXd := hide (heap_below BXr.out BD.out)
    clear y0 y2 r0 r1
    have y0 : wd.cell? ⟨w.heap.size, 0, none⟩ = some (.int .i64 (sz : Int)) := cell_of BXd.out 0
    have y2 : wd.cell? ⟨w.heap.size, 2, none⟩ = some (.slice sa nS sc) := cell_of BXd.out 2
    have q0 : wd.cell? ⟨wr.heap.size, 0, none⟩ = some (.int .i64 (q.1 : Int)) := cell_of QB0.out 0
    have q1 : wd.cell? ⟨wr.heap.size, 1, none⟩ = some (.int .i64 (q.2 : Int)) := cell_of QB0.out 1
    have WLT : Hid (w.heap.size < wr.heap.size) := heap_lt BXr.out
    have BWd := hide (btr BW.out BD.out)
    have BWb := hide (btr HB.out BD.out)
    have WBS : Hid (w.heap.size < wb.heap.size) := heap_lt BX.out
    cases hp : S[k]? with
    | none =>
      have hkS : nS ≤ k := by have := List.getElem?_eq_none_iff.1 hp; rw [NS.out] at this; exact this
      have d1 : decide ((k : Int) < (nS : Int)) = false := by simp; omega
      have hp2 : S[k + sz]? = none := List.getElem?_eq_none_iff.2 (by rw [NS.out]; omega)
      have d2 : decide ((k : Int) + (sz : Int) < (nS : Int)) = false := by simp; omega
      have E : Hid (eX sz 6 S R (k + 1) = eX sz 6 S R k) := by
       show _ = _
       rw [eX_succ, eC_is HQ.out, hp, hp2]
       simp
      clear hp hp2
      go_wp2_with fail
      go_roundw
      case measure => simp [intOf]; omega
      case rel => exact ⟨k + 1, by omega, by simp, by rw [E.out]; exact OWn.out, btr HB.out BD.out⟩
    | some p =>
      have HP := hide hp
      have hkS : k < nS := by have := (List.getElem?_eq_some_iff.1 hp).1; rw [NS.out] at this; exact this
      have d1 : decide ((k : Int) < (nS : Int)) = true := by simp; omega
      have hkS' : (k : Int) < (nS : Int) := by omega
      obtain ⟨gs, rfl, s0, s1⟩ := (HS.out.below BWd.out).cell hp
      obtain ⟨ea', c', w6, hap, o6, g6⟩ := x_app wd OWd.out (Below.refl _ _) ⟨p.1, q.2, 3⟩ (by rw [HN.out]; omega) BWb.out.size
      rw [HN.out] at hap o6
      have O6 := hide o6
      have BG6 := hide (grown_below g6 (own_base OWd.out) BWb.out.size)
      have gn : ∀ x, x < wd.heap.size → some x ≠ (Value.slice ea (eX sz 6 S R k).length cp).ownBlock → w6.heap[x]? = wd.heap[x]? := fun x hx hne => g6.block x hx hne
      have EN : ∀ g, (Value.slice ea (eX sz 6 S R k).length cp).ownBlock = some g → g < wr.heap.size := fun g hg => own_lt2 OWo.out g hg
      have BX6 := hide ((BG6.out.block _ WBS.out).trans BXd.out)
      have QB6 := hide ((gn _ (heap_lt QB0.out) (fun e => by have := EN _ e.symm; omega)).trans QB0.out)
      clear hp o6 g6 gn EN
      go_upto_region 9 with fail
      go_region_law (refine step_append_run _ (by rfl) _ _ _ _ (by rfl) _ _ (by rfl) (by rfl) _ _ hap ?_)
      all_goals
       clear hap s0 s1 q0 q1 y0 y2
       have y0 : w6.cell? ⟨w.heap.size, 0, none⟩ = some (.int .i64 (sz : Int)) := cell_of BX6.out 0
       have y2 : w6.cell? ⟨w.heap.size, 2, none⟩ = some (.slice (some ⟨gs, 0, none⟩) nS sc) := cell_of BX6.out 2
       have q0 : w6.cell? ⟨wr.heap.size, 0, none⟩ = some (.int .i64 (q.1 : Int)) := cell_of QB6.out 0
       have BW6 := hide (BWd.out.trans (BG6.out.mono (by have := WBS.out; omega)))
       have BB6 := hide (BWb.out.trans BG6.out)
       obtain ⟨j, hj⟩ : ∃ j, k + sz = j := ⟨_, rfl⟩
       have HJ := hide hj
       have hj' : (k : Int) + (sz : Int) = (j : Int) := by omega
       have hjb : j ≤ 2000000000 := by omega
       have hjw : IntKind.i64.wrap (j : Int) = (j : Int) := by rw [IntKind.wrap_i64]; omega
       clear hj
       cases hp2 : S[j]? with
       | none =>
         have hkS2 : nS ≤ j := by have := List.getElem?_eq_none_iff.1 hp2; rw [NS.out] at this; exact this
         have d2 : decide ((j : Int) < (nS : Int)) = false := by simp; omega
         have E : Hid (eX sz 6 S R (k + 1) = eX sz 6 S R k ++ [⟨p.1, q.2, 3⟩]) := by
          show _ = _
          rw [eX_succ, eC_is HQ.out, HP.out, HJ.out, hp2]
          simp
         clear hp2
         go_wp2_with fail
         go_roundw
         case measure => simp [intOf]; omega
         case rel => exact ⟨k + 1, by omega, by simp, by rw [E.out]; exact O6.out, BB6.out⟩
       | some p2 =>
         have hkS2 : j < nS := by have := (List.getElem?_eq_some_iff.1 hp2).1; rw [NS.out] at this; exact this
         have d2 : decide ((j : Int) < (nS : Int)) = true := by simp; omega
         have ks0 : (0 : Int) ≤ (j : Int) := by omega
         have ks1 : (j : Int) < (nS : Int) := by omega
         obtain ⟨gs2, e2, s2, s3⟩ := (HS.out.below BW6.out).cell hp2
         obtain rfl : gs2 = gs := by cases e2; rfl
         have O6' : Ow w6 wb.heap.size (.slice ea' (eX sz 6 S R k ++ ([⟨p.1, q.2, 3⟩] : List Ed)).length c') (eX sz 6 S R k ++ ([⟨p.1, q.2, 3⟩] : List Ed)) := by
          have o := O6.out
          rw [show n + 1 = (eX sz 6 S R k ++ ([⟨p.1, q.2, 3⟩] : List Ed)).length by simp [HN.out]] at o
          exact o
         obtain ⟨ea2, c2, w8, hap2, o8, g8⟩ := x_app w6 O6' (Below.refl _ _) (⟨q.1, p2.2, 6⟩ : Ed) (by rw [List.length_append, HN.out]; simp; omega) BB6.out.size
         rw [show (eX sz 6 S R k ++ ([⟨p.1, q.2, 3⟩] : List Ed)).length = n + 1 by simp [HN.out]] at hap2 o8
         have E : Hid (eX sz 6 S R (k + 1) = (eX sz 6 S R k ++ [⟨p.1, q.2, 3⟩]) ++ [⟨q.1, p2.2, 6⟩]) := by
          show _ = _
          rw [eX_succ, eC_is HQ.out, HP.out, HJ.out, hp2]
          simp
         have O8 := hide o8
         have B8 := hide (BB6.out.trans (grown_below g8 (own_base O6') BB6.out.size))
         clear hp2 o8 g8 e2 O6'
         go_upto_region 11 with fail
         go_region_law (refine step_append_run _ (by rfl) _ _ _ _ (by rfl) _ _ (by rfl) (by rfl) _ _ hap2 ?_)
         all_goals
          clear hap2 s2 s3 q0 y0 y2
          go_wp2_with fail
          go_roundw
          case measure => simp [intOf]; omega
          case rel => exact ⟨k + 1, by omega, by simp, by rw [E.out]; exact O8.out, B8.out⟩
   ·have d : decide ((k : Int) < (nR : Int)) = false := by simp; omega
    have hk2 : k = nR := by omega
    subst hk2
    have O1 := hide OWo.out
    have BW := hide (btr B0.out HB.out)
    rw [HN.out] at O1
    clear hn y0 y2
    go_wp2_with fail
    go_ret
    exact ⟨_, rfl, O1.out.mono (by have := B0.out.size; omega), BW.out⟩
end Eg
end Go.Proofs.YtblfimobiibmjaaGreat
namespace Go.Proofs.YtblfimobiibmjaaGreat
open Go.ChangeShapes Go.WideShapes Go.ChangeAt Go.RowKit
namespace Eg
open En Gu Ba
set_option maxRecDepth 100000 in
set_option maxHeartbeats 12800000 in
theorem channels_any (oa : Option Addr) (l : List Ev) (c : Nat) (w : World) (hA : EsAt w oa l) (h : Tok l) (hl : l.length ≤ 2000) :
 Calls Tryz.prog 36 #[.slice oa l.length c] w fun r w' => ∃ v, r = .returned v ∧ Ow w' w.heap.size v (clE l l.length ++ (List.range (mkN l)).flatMap fun (c : Nat) => chE l (c : Int)) ∧ Below w.heap.size w w' := by
 have GO := hide (chans_any oa l c w hA (by omega) (hw_c h))
 rw [chn_is h hl] at GO
 have HA := hide hA
 have H := hide h
 have TL := mkN_le l
 obtain ⟨L, hM⟩ : ∃ L, l.length = L := ⟨_, rfl⟩
 obtain ⟨C, hG⟩ : ∃ C, mkN l = C := ⟨_, rfl⟩
 have HM := hide hM
 have HG := hide hG
 rw [hM, hG] at GO
 rw [hM, hG] at TL
 rw [hM] at hl
 rw [hM, hG]
 clear hA h hM hG
 go_enter Tryz.func36, Tryz.ntmps36
 go_wp2_with fail
 refine GO.out.mono ?_
 rintro r w1 ⟨rfl, b1⟩
 have mk := mk_ch w1 C (by omega)
 obtain ⟨W2, hW2⟩ : ∃ W2, w1.alloc (.cells (madeCells #[.int .i64 0, .int .i64 0, .slice none 0 0, .slice none 0 0] (C * 4)) 123) = W2 := ⟨_, rfl⟩
 rw [hW2] at mk
 have I0 : Hid (ChI w w1.heap.size C l (.slice none 0 0) W2 0) := by
  refine ⟨Nat.zero_le _, ?_, ⟨fun _ _ => .slice none 0 0, ⟨⟨_, by rw [← hW2]; exact heap_new _ _, size_madeCells _ _, fun g hg => made4 C g hg⟩, fun c hc b => ⟨rfl, .inl ⟨rfl, rfl⟩⟩, fun _ _ _ _ _ _ _ g hg => by simp [Value.ownBlock] at hg⟩⟩, Ow.nil _ _⟩
  rw [← hW2]
  exact btr b1 (below_alloc _ _)
 have S1 : Hid (w.heap.size ≤ w1.heap.size) := b1.size
 generalize w1.heap.size = M at *
 clear hW2 b1 GO
 go_wp2_with fail
 go_loopw [3, 15] (fun ed iv wr => ∃ k : Nat, iv = .int .i64 k ∧ ChI w M C l ed wr k) (fun _ iv _ => L - (intOf iv).toNat)
 case atStart => exact ⟨0, rfl, I0.out⟩
 case round =>
  obtain ⟨k, rfl, I⟩ := hrel
  have hkM : k ≤ L := by rw [← HM.out]; exact I.le
  have CEL := ce_len l k
  obtain ⟨ea, cp, rfl, -, -⟩ := I.ed.sl
  have HI := hide I
  obtain ⟨n, hn⟩ : ∃ n, (clE l k).length = n := ⟨_, rfl⟩
  have HN := hide hn
  rw [hn] at HI CEL ⊢
  by_cases hlt : k < L
  ·obtain ⟨e, he⟩ : ∃ e, l[k]? = some e := ⟨_, List.getElem?_eq_getElem (by rw [HM.out]; omega)⟩
   have EA := hide (HA.out.below I.bl)
   obtain ⟨bb, oo, rfl, -⟩ := EA.out k e he
   obtain ⟨p0, p1, p2, p3, p4, p5, p6, p7⟩ := EA.out.read he
   have hlt' : (k : Int) < (L : Int) := by omega
   have k0 : (0 : Int) ≤ (k : Int) := by omega
   have HE := hide he
   by_cases hc1 : e.c = -1
   ·have d1 : (e.c == -1) = true := by simp [hc1]
    have HC1 := hide hc1
    clear I hn he hc1
    go_wp2_with fail
    go_roundw
    case measure => simp [intOf]; omega
    case rel => exact ⟨k + 1, by simp, (HI.out.below (below_alloc _ _)).skip HE.out (.inl HC1.out)⟩
   ·obtain ⟨d, hd, hdC⟩ := H.out.cl_ he (by have := H.out.c1 he; omega)
    rw [HG.out] at hdC
    have hdC' : (d : Int) < (C : Int) := by omega
    have d0 : (0 : Int) ≤ (d : Int) := by omega
    have d1 : ((d : Int) == -1) = false := by simp
    have HD := hide hd
    rw [hd] at p2
    have EB0 := hide (heap_new wr ((.cells #[.int .i64 e.k, .int .i64 e.g, .int .i64 e.c, .int .i64 e.a, .int .i64 e.v, .int .i64 e.m, .bool e.s, .bool e.o] 50)))
    have I1 := hide (HI.out.below (below_alloc wr ((.cells #[.int .i64 e.k, .int .i64 e.g, .int .i64 e.c, .int .i64 e.a, .int .i64 e.v, .int .i64 e.m, .bool e.s, .bool e.o] 50))))
    have EB1 := hide (EA.out.below (below_alloc wr ((.cells #[.int .i64 e.k, .int .i64 e.g, .int .i64 e.c, .int .i64 e.a, .int .i64 e.v, .int .i64 e.m, .bool e.s, .bool e.o] 50))))
    have BA := hide (below_alloc wr ((.cells #[.int .i64 e.k, .int .i64 e.g, .int .i64 e.c, .int .i64 e.a, .int .i64 e.v, .int .i64 e.m, .bool e.s, .bool e.o] 50)))
    rw [hd] at EB0 I1 EB1 BA
    clear I hn he hc1 hd
    go_upto_region 8 with fail
    generalize wr.alloc ((.cells #[.int .i64 e.k, .int .i64 e.g, .int .i64 (d : Int), .int .i64 e.a, .int .i64 e.v, .int .i64 e.m, .bool e.s, .bool e.o] 50)) = w1 at *
    clear p0 p1 p2 p3 p4 p5 p6 p7
    have p0 : w1.cell? ⟨wr.heap.size, 0, none⟩ = some (.int .i64 e.k) := cell_of EB0.out 0
    have p4 : w1.cell? ⟨wr.heap.size, 4, none⟩ = some (.int .i64 e.v) := cell_of EB0.out 4
    have p7 : w1.cell? ⟨wr.heap.size, 7, none⟩ = some (.bool e.o) := cell_of EB0.out 7
    obtain ⟨vs, cm⟩ := I1.out.cm
    have CMH := hide cm
    obtain ⟨y0, y1, y2, y3⟩ := cm.read hdC
    have f0 := cm.fr (d * 4)
    have f1 := cm.fr (d * 4 + 1)
    have f2 := cm.fr (d * 4 + 2)
    have f3 := cm.fr (d * 4 + 3)
    clear cm
    by_cases h2 : e.k = 2
    ·have b2 : (e.k == 2) = true := by simp [h2]
     have H2 := hide h2
     clear h2
     go_wp2_with fail
     go_roundw
     case measure => simp [intOf]; omega
     case rel => exact ⟨k + 1, by simp, I1.out.make S1.out HE.out HD.out hdC H2.out⟩
    have b2 : (e.k == 2) = false := by simp [h2]
    by_cases h5 : e.k = 5
    ·have b5 : (e.k == 5) = true := by simp [h5]
     have H5 := hide h5
     clear h2 h5
     go_wp2_with fail
     go_roundw
     case measure => simp [intOf]; omega
     case rel => exact ⟨k + 1, by simp, I1.out.shut S1.out HE.out HD.out hdC H5.out⟩
    have b5 : (e.k == 5) = false := by simp [h5]
    by_cases h3 : e.k = 3
    ·have mv : moves e = true := by unfold moves; simp [h3]
     have es : e.s = true := (H.out.at HE.out).fit.s3 h3
     have b3 : (e.k == 3) = true := by simp [h3]
     have MV := hide mv
     have ES := hide es
     clear h2 h5 h3 mv es
     have bgL : bg l k ≤ k := bg_le k
     have DL1 := dl_len l (d : Int) true k
     have DL2 := dl_len l (d : Int) false k
     have SVL : (svL l k e).length ≤ 1 := by unfold svL; split <;> simp
     obtain ⟨oa1, cp1, hv1, -, -⟩ := (CMH.out.od d hdC true).sl
     obtain ⟨oa3, cp3, hv3, -, -⟩ := (CMH.out.od d hdC false).sl
     have DA := hide (fun u (b : Below w1.heap.size w1 u) => dealAt_any _ l c k u (EB1.out.below b) H.out (by rw [HM.out]; exact hlt) (by rw [HM.out]; exact hl))
     have AP := hide (fun w4 (b4 : Below w1.heap.size w1 w4) => put_app CMH.out hdC true (btr b4 (below_alloc w4 (.cells #[.int .i64 ((bg l k : Nat) : Int), .int .i64 ((k : Nat) : Int)] 125))) (od_one (x := (bg l k, k)) (heap_new w4 _)) (by unfold dlK; simp only [List.length_cons, List.length_nil]; omega))
     simp only [hv1, if_true] at AP
     rw [hv1] at y2
     rw [HM.out] at DA
     obtain ⟨m1, hm1⟩ : ∃ m, (dlK l k d true).length = m := ⟨_, rfl⟩
     rw [hm1] at y2
     simp only [hm1] at AP
     obtain ⟨B, hB⟩ : ∃ B, ((bg l k : Nat) : Int) = B := ⟨_, rfl⟩
     rw [hB] at DA
     simp only [hB] at AP
     have YO := hide y2
     clear hm1 hB
     go_upto_region 13 with fail
     go_region_law (first
      | (refine step_append_run _ (by rfl) _ _ _ _ (by rfl) _ _ (by rfl) (by rfl) _ _ hap ?_)
      | (go_simp; go_wp2_with (go_at_call 65; refine (DA.out _ (bdrew1 _)).mono ?_; rintro r w4 ⟨rfl, b4⟩; obtain ⟨oa2, n2, c2, w6, hap, ⟨u6, y6⟩, f6, cm6, bl6, ke6⟩ := AP.out w4 (btr (bdrew1 _) b4); have yy : w4.cell? ⟨M, d * 4 + 2, none⟩ = some (.slice oa1 m1 cp1) := cellB YO.out (btr (bdrew1 _) b4); have yy2 : (w4.alloc (.cells #[.int .i64 B, .int .i64 (k : Int)] 125)).cell? ⟨M, d * 4 + 2, none⟩ = some (.slice oa1 m1 cp1) := cellB yy (below_alloc _ _); have CM6 := hide cm6; have BL6 := hide bl6; have KE6 := hide ke6; clear cm6 bl6 ke6)))
     all_goals
      generalize w6.setCell ⟨M, d * 4 + 2, none⟩ (.slice oa2 n2 c2) = w7 at *
      clear hap yy yy2 y6 f6 AP DA y0 y1 y2 y3 f0 f1 f2 f3 p0 p4 p7 YO hv1
      have BW7 := hide (I1.out.bl.trans (BL6.out.mono S1.out))
      have SV := hide (fun u (b : Below w7.heap.size w7 u) => service_any _ l c k e u (HA.out.below (btr BW7.out b)) H.out HE.out (by rw [HM.out]; exact hl))
      rw [HM.out] at SV
      obtain ⟨m3, hm3⟩ : ∃ m, (dlK l k d false).length = m := ⟨_, rfl⟩
      have AP2 := hide (fun w4 (b4 : Below w7.heap.size w7 w4) B2 v2 (o : Od w4 B2 v2 (svL l k e)) => put_app CM6.out hdC false b4 o (by show (if d = d ∧ false = true then dlK l k d true ++ [(bg l k, k)] else dlK l k d false).length + _ ≤ _; rw [if_neg (by simp)]; unfold dlK; omega))
      simp only [Bool.false_eq_true, if_false, hv3, hm3, and_false] at AP2
      have yt : w7.cell? ⟨M, d * 4 + 3, none⟩ = some (.slice oa3 m3 cp3) := by
       have q := (CM6.out.read hdC).2.2.2
       simp only [Bool.false_eq_true, if_false, hv3, hm3, and_false] at q
       exact q
      have ft : w7.frozen? ⟨M, d * 4 + 3, none⟩ = false := CM6.out.fr _
      have YT := hide yt
      obtain ⟨nv, hnv⟩ : ∃ m, (svL l k e).length = m := ⟨_, rfl⟩
      have NV := hide hnv
      clear hm3 hv3 hnv
      go_upto_region 14 with fail
      go_region_law (first
       | (refine step_append_run _ (by rfl) _ _ _ _ (by rfl) _ _ (by rfl) (by rfl) _ _ hap2 ?_)
       | (go_simp; go_wp2_with (go_at_call 66; refine (SV.out _ (bdrew1 _)).mono ?_; rintro r w4 ⟨⟨v2, rfl, o4⟩, b4⟩; obtain ⟨ov, cv, rfl, -, -⟩ := o4.sl; obtain ⟨oa4, n4, c4, w8, hap2, ⟨u8, y8⟩, f8, cm8, bl8, ke8⟩ := AP2.out w4 (btr (bdrew1 _) b4) _ _ o4; have yy8 : w4.cell? ⟨M, d * 4 + 3, none⟩ = some (.slice oa3 m3 cp3) := cellB YT.out (btr (bdrew1 _) b4); rw [NV.out] at hap2 ⊢; have CM8 := hide cm8; have BL8 := hide bl8; have KE8 := hide ke8; clear cm8 bl8 ke8 o4)))
      all_goals
       generalize w8.setCell ⟨M, d * 4 + 3, none⟩ (.slice oa4 n4 c4) = w9 at *
       clear hap2 yy8 y8 f8 AP2 SV yt ft YT
       go_wp2_with fail
       go_roundw
       case measure => simp [intOf]; omega
       case rel => exact ⟨k + 1, by simp, ChI.deal (by rw [HM.out]; exact hlt) HE.out H.out HD.out MV.out (BW7.out.trans (BL8.out.mono S1.out)) (by have q := KE8.out _ _ (KE6.out _ _ I1.out.ed); exact q) (by simp only [ES.out]; exact CM8.out.congr (fun _ _ => rfl) (fun _ _ => rfl) (fun y _ b => by cases b <;> by_cases hy : y = d <;> simp [hy]) (fun _ _ _ => rfl))⟩
    have b3 : (e.k == 3) = false := by simp [h3]
    cases ho : e.o
    ·have HO := hide ho
     rw [ho] at p7
     clear ho
     by_cases h47 : e.k = 4 ∨ e.k = 7
     ·have hap0 : ∃ ea' c' w6, (Builtin.append_ #[24, 24] 24 #[.slice ea n cp, .slice (some ⟨w1.heap.size, 0, none⟩) 1 1]).run Tryz.prog (w1.alloc (.cells #[.int .i64 (clK l k d : Int), .int .i64 (k : Int), .int .i64 4] 70)) = .ok (.slice ea' (n + 1) c') w6 ∧ ChI w M C l (.slice ea' (n + 1) c') w6 (k + 1) := by
       have I2 := I1.out.below (below_alloc w1 (.cells #[.int .i64 (clK l k d : Int), .int .i64 (k : Int), .int .i64 4] 70))
       obtain ⟨ea', c', w6, h1, h2_, h3_, -⟩ := app_ed _ (M + 1) (.slice ea n cp) (clE l k) [⟨clK l k d, k, 4⟩] n HN.out.symm (by have q := I2.ed; unfold Ow at q; rw [HN.out] at q; exact q) ⟨w1.heap.size, 0, none⟩ 1 1 rfl (fun j u hj => by rw [Addr.add_lit, Nat.zero_add, cell_of (heap_new w1 _)]; simpa [edc] using hj) (by omega) (by obtain ⟨vs, cm⟩ := I2.cm; have := cm.lt; omega)
       refine ⟨ea', c', w6, h1, I2.none HE.out HD.out ⟨h47, HO.out⟩ h3_ ?_ S1.out⟩
       unfold Ow
       rw [List.length_append, HN.out]
       exact h2_
      obtain ⟨ea', c', w6, hap, I6⟩ := hap0
      have HI6 := hide I6
      clear I6
      by_cases h4 : e.k = 4
      ·have b4 : (e.k == 4) = true := by simp [h4]
       clear h2 h5 h3 h4 h47
       go_wp2_with (at_builtin; refine Lib.wpList_append_run _ (by rfl) _ _ _ _ (by rfl) _ _ (by rfl) (by rfl) _ _ hap ?_)
       go_roundw
       case measure => simp [intOf]; omega
       case rel => exact ⟨k + 1, by simp, HI6.out⟩
      ·have h7 : e.k = 7 := by omega
       have b4 : (e.k == 4) = false := by simp [h4]
       have b7 : (e.k == 7) = true := by simp [h7]
       clear h2 h5 h3 h4 h47 h7
       go_wp2_with (at_builtin; refine Lib.wpList_append_run _ (by rfl) _ _ _ _ (by rfl) _ _ (by rfl) (by rfl) _ _ hap ?_)
       go_roundw
       case measure => simp [intOf]; omega
       case rel => exact ⟨k + 1, by simp, HI6.out⟩
     ·have b4 : (e.k == 4) = false := by simp; omega
      have b7 : (e.k == 7) = false := by simp; omega
      have SK : Hid (e.k ≠ 2 ∧ e.k ≠ 5 ∧ moves e = false ∧ ¬ ((e.k = 4 ∨ e.k = 7) ∧ e.o = false)) := ⟨h2, h5, by unfold moves; simp [h3, HO.out], fun z => h47 z.1⟩
      clear h2 h5 h3 h47
      go_wp2_with fail
      go_roundw
      case measure => simp [intOf]; omega
      case rel => exact ⟨k + 1, by simp, I1.out.skip HE.out (.inr SK.out)⟩
    ·have HO := hide ho
     rw [ho] at p7
     clear ho
     by_cases h4 : e.k = 4
     ·have mv : moves e = true := by unfold moves; simp [h4, HO.out]
      have es : e.s = false := (H.out.at HE.out).fit.s4 h4
      have b4 : (e.k == 4) = true := by simp [h4]
      have MV := hide mv
      have ES := hide es
      clear h2 h5 h3 h4 mv es
      have bgL : bg l k ≤ k := bg_le k
      have DL1 := dl_len l (d : Int) false k
      have DL2 := dl_len l (d : Int) true k
      have SVL : (svL l k e).length ≤ 1 := by unfold svL; split <;> simp
      obtain ⟨oa1, cp1, hv1, -, -⟩ := (CMH.out.od d hdC false).sl
      obtain ⟨oa3, cp3, hv3, -, -⟩ := (CMH.out.od d hdC true).sl
      have DA := hide (fun u (b : Below w1.heap.size w1 u) => dealAt_any _ l c k u (EB1.out.below b) H.out (by rw [HM.out]; exact hlt) (by rw [HM.out]; exact hl))
      have AP := hide (fun w4 (b4 : Below w1.heap.size w1 w4) => put_app CMH.out hdC false (btr b4 (below_alloc w4 (.cells #[.int .i64 ((bg l k : Nat) : Int), .int .i64 ((k : Nat) : Int)] 125))) (od_one (x := (bg l k, k)) (heap_new w4 _)) (by unfold dlK; simp only [List.length_cons, List.length_nil]; omega))
      simp only [hv1, if_false, Bool.false_eq_true] at AP
      rw [hv1] at y3
      rw [HM.out] at DA
      obtain ⟨m1, hm1⟩ : ∃ m, (dlK l k d false).length = m := ⟨_, rfl⟩
      rw [hm1] at y3
      simp only [hm1] at AP
      obtain ⟨B, hB⟩ : ∃ B, ((bg l k : Nat) : Int) = B := ⟨_, rfl⟩
      rw [hB] at DA
      simp only [hB] at AP
      have YO := hide y3
      clear hm1 hB
      go_upto_region 16 with fail
      go_region_law (first
       | (refine step_append_run _ (by rfl) _ _ _ _ (by rfl) _ _ (by rfl) (by rfl) _ _ hap ?_)
       | (go_simp; go_wp2_with (go_at_call 65; refine (DA.out _ (bdrew1 _)).mono ?_; rintro r w4 ⟨rfl, b4⟩; obtain ⟨oa2, n2, c2, w6, hap, ⟨u6, y6⟩, f6, cm6, bl6, ke6⟩ := AP.out w4 (btr (bdrew1 _) b4); have yy : w4.cell? ⟨M, d * 4 + 3, none⟩ = some (.slice oa1 m1 cp1) := cellB YO.out (btr (bdrew1 _) b4); have yy2 : (w4.alloc (.cells #[.int .i64 B, .int .i64 (k : Int)] 125)).cell? ⟨M, d * 4 + 3, none⟩ = some (.slice oa1 m1 cp1) := cellB yy (below_alloc _ _); have CM6 := hide cm6; have BL6 := hide bl6; have KE6 := hide ke6; clear cm6 bl6 ke6)))
      all_goals
       generalize w6.setCell ⟨M, d * 4 + 3, none⟩ (.slice oa2 n2 c2) = w7 at *
       clear hap yy yy2 y6 f6 AP DA y0 y1 y2 y3 f0 f1 f2 f3 p0 p4 p7 YO hv1
       have BW7 := hide (I1.out.bl.trans (BL6.out.mono S1.out))
       have SV := hide (fun u (b : Below w7.heap.size w7 u) => service_any _ l c k e u (HA.out.below (btr BW7.out b)) H.out HE.out (by rw [HM.out]; exact hl))
       rw [HM.out] at SV
       obtain ⟨m3, hm3⟩ : ∃ m, (dlK l k d true).length = m := ⟨_, rfl⟩
       have AP2 := hide (fun w4 (b4 : Below w7.heap.size w7 w4) B2 v2 (o : Od w4 B2 v2 (svL l k e)) => put_app CM6.out hdC true b4 o (by show (if d = d ∧ true = false then dlK l k d false ++ [(bg l k, k)] else dlK l k d true).length + _ ≤ _; rw [if_neg (by simp)]; unfold dlK; omega))
       simp only [Bool.true_eq_false, if_false, hv3, hm3, if_true, and_false] at AP2
       have yt : w7.cell? ⟨M, d * 4 + 2, none⟩ = some (.slice oa3 m3 cp3) := by
        have q := (CM6.out.read hdC).2.2.1
        simp only [Bool.true_eq_false, if_false, hv3, hm3, and_false] at q
        exact q
       have ft : w7.frozen? ⟨M, d * 4 + 2, none⟩ = false := CM6.out.fr _
       have YT := hide yt
       obtain ⟨nv, hnv⟩ : ∃ m, (svL l k e).length = m := ⟨_, rfl⟩
       have NV := hide hnv
       clear hm3 hv3 hnv
       go_upto_region 17 with fail
       go_region_law (first
        | (refine step_append_run _ (by rfl) _ _ _ _ (by rfl) _ _ (by rfl) (by rfl) _ _ hap2 ?_)
        | (go_simp; go_wp2_with (go_at_call 66; refine (SV.out _ (bdrew1 _)).mono ?_; rintro r w4 ⟨⟨v2, rfl, o4⟩, b4⟩; obtain ⟨ov, cv, rfl, -, -⟩ := o4.sl; obtain ⟨oa4, n4, c4, w8, hap2, ⟨u8, y8⟩, f8, cm8, bl8, ke8⟩ := AP2.out w4 (btr (bdrew1 _) b4) _ _ o4; have yy8 : w4.cell? ⟨M, d * 4 + 2, none⟩ = some (.slice oa3 m3 cp3) := cellB YT.out (btr (bdrew1 _) b4); rw [NV.out] at hap2 ⊢; have CM8 := hide cm8; have BL8 := hide bl8; have KE8 := hide ke8; clear cm8 bl8 ke8 o4)))
       all_goals
        generalize w8.setCell ⟨M, d * 4 + 2, none⟩ (.slice oa4 n4 c4) = w9 at *
        clear hap2 yy8 y8 f8 AP2 SV yt ft YT
        go_wp2_with fail
        go_roundw
        case measure => simp [intOf]; omega
        case rel => exact ⟨k + 1, by simp, ChI.deal (by rw [HM.out]; exact hlt) HE.out H.out HD.out MV.out (BW7.out.trans (BL8.out.mono S1.out)) (by have q := KE8.out _ _ (KE6.out _ _ I1.out.ed); exact q) (by simp only [ES.out]; exact CM8.out.congr (fun _ _ => rfl) (fun _ _ => rfl) (fun y _ b => by cases b <;> by_cases hy : y = d <;> simp [hy]) (fun _ _ _ => rfl))⟩
     ·have b4 : (e.k == 4) = false := by simp [h4]
      have SK : Hid (e.k ≠ 2 ∧ e.k ≠ 5 ∧ moves e = false ∧ ¬ ((e.k = 4 ∨ e.k = 7) ∧ e.o = false)) := ⟨h2, h5, by unfold moves; simp [h3, h4], fun z => by rw [HO.out] at z; exact absurd z.2 (by decide)⟩
      clear h2 h5 h3 h4
      cases b7 : (e.k == 7)
      ·go_wp2_with fail
       go_roundw
       case measure => simp [intOf]; omega
       case rel => exact ⟨k + 1, by simp, I1.out.skip HE.out (.inr SK.out)⟩
      ·go_wp2_with fail
       go_roundw
       case measure => simp [intOf]; omega
       case rel => exact ⟨k + 1, by simp, I1.out.skip HE.out (.inr SK.out)⟩
  ·have dl_ : decide ((k : Int) < (L : Int)) = false := by simp; omega
   have hk : k = L := by omega
   subst hk
   obtain ⟨vs, cm⟩ := I.cm
   have CMH := hide cm
   have BL := hide I.bl
   have ED0 := hide I.ed
   clear I hlt hn HI cm
   go_wp2_with fail
   go_loopw [3, 126] (fun ed iv w3 => ∃ j : Nat, j ≤ C ∧ iv = .int .i64 j ∧ Ow w3 (M + 1) ed (clE l k ++ chs l j) ∧ CM w3 M C (szK l k) (clK l k) (dlK l k) vs ∧ Below w.heap.size w w3) (fun _ iv _ => C - (intOf iv).toNat)
   case atStart => exact ⟨0, Nat.zero_le _, rfl, by have q := ED0.out; rw [HN.out] at q; simpa [chs] using q, CMH.out, BL.out⟩
   case round =>
    rename World => w3
    obtain ⟨j, hj, rfl, ow, cm, bl⟩ := hrel
    have CLN := ce_len l k
    have CHN := chs_len l j
    rw [HM.out] at CHN
    have OW := hide ow
    have CM3 := hide cm
    have BL3 := hide bl
    have hTN : j * (2 * k) ≤ 2000 * 4000 := Nat.mul_le_mul (by omega) (by omega)
    obtain ⟨ea, cp, rfl, -, -⟩ := ow.sl
    obtain ⟨N, hN⟩ : ∃ N, (clE l k ++ chs l j).length = N := ⟨_, rfl⟩
    have HNN := hide hN
    have hNb : N ≤ 9000000 := by rw [← hN, List.length_append]; omega
    rw [hN] at OW ⊢
    clear ow bl hN
    by_cases hlt : j < C
    ·have hlt' : (j : Int) < (C : Int) := by omega
     have j0 : (0 : Int) ≤ (j : Int) := by omega
     obtain ⟨y0, y1, y2, y3⟩ := cm.read hlt
     obtain ⟨sa, sc, hv1, -, -⟩ := (cm.od j hlt true).sl
     obtain ⟨ra, rc, hv2, -, -⟩ := (cm.od j hlt false).sl
     obtain ⟨e1, e2⟩ := sz_is H.out j
     rw [HM.out] at e1
     rw [hv1] at y2
     rw [hv2] at y3
     rw [e1] at y0
     have ES := hide (eX_is l (j : Int))
     have D1 := dl_len l (j : Int) true k
     have D2 := dl_len l (j : Int) false k
     rw [HM.out] at ES
     have EDG := hide (fun u (b : Below w3.heap.size w3 u) => edges_any (szF l (j : Int)) (clK l k j : Int) (vs j true) (vs j false) (dlK l k j true) (dlK l k j false) (M + 1) (M + 1) u ((CM3.out.below b).od j hlt true) ((CM3.out.below b).od j hlt false) (by omega) (by unfold dlK; omega) (by unfold dlK; omega) _ rfl)
     simp only [hv1, hv2] at EDG
     obtain ⟨n1, hn1⟩ : ∃ n, (dlK l k j true).length = n := ⟨_, rfl⟩
     obtain ⟨n2, hn2⟩ : ∃ n, (dlK l k j false).length = n := ⟨_, rfl⟩
     obtain ⟨sz, hsz⟩ : ∃ s, szF l (j : Int) = s := ⟨_, rfl⟩
     rw [hn1] at y2
     rw [hn2] at y3
     rw [hsz] at y0
     have EDGE : Hid (∀ u, Below w3.heap.size w3 u → Calls Tryz.prog 67 #[.agg #[.int .i64 (sz : Int), .int .i64 (clK l k j : Int), .slice sa n1 sc, .slice ra n2 rc]] u fun r w' => ∃ v, r = .returned v ∧ Ow w' u.heap.size v (chE l (j : Int)) ∧ Below u.heap.size u w') := by
      intro u b
      have q := EDG.out u b
      rw [← hn1, ← hn2, ← hsz, ← ES.out]
      exact q
     have BXB := hide (below_alloc w3 (.cells #[.int .i64 (sz : Int), .int .i64 (clK l k j : Int), .slice sa n1 sc, .slice ra n2 rc] 123))
     have CHL := chE_len l (j : Int)
     rw [HM.out] at CHL
     clear cm EDG hv1 hv2 hn1 hn2 hsz e1 e2 D1 D2
     go_wp2_with fail
     refine (EDGE.out _ BXB.out).mono ?_
     rintro r w5 ⟨v, rfl, o5, b5⟩
     have B5 := hide (btr BXB.out b5)
     obtain ⟨oe, ce, rfl, -, -⟩ := o5.sl
     have OW5 : Ow w5 (M + 1) (.slice ea (clE l k ++ chs l j).length cp) (clE l k ++ chs l j) := by
      have q := OW.out.below B5.out
      rw [← HNN.out] at q
      exact q
     obtain ⟨ea', c', w6, hap, o6, g6⟩ := app_ow OW5 o5 (by rw [HNN.out]; omega) (by have := (CM3.out.below B5.out).lt; omega)
     have CM6 := hide ((CM3.out.below B5.out).edg OW5 g6)
     have BL6 := hide ((btr BL3.out B5.out).trans ((grown_below g6 (own_base OW5) (by have := (CM3.out.below B5.out).lt; omega)).mono (by have := S1.out; omega)))
     rw [HNN.out] at hap o6
     have O6 := hide o6
     obtain ⟨n6, hn6⟩ : ∃ n, (chE l (j : Int)).length = n := ⟨_, rfl⟩
     rw [hn6] at hap O6 ⊢
     clear o5 b5 OW5 o6 g6 EDGE hn6
     go_wp2_with (at_builtin; refine Lib.wpList_append_run _ (by rfl) _ _ _ _ (by rfl) _ _ (by rfl) (by rfl) _ _ hap ?_)
     go_roundw
     case measure => simp [intOf]; omega
     case rel => exact ⟨j + 1, by omega, by simp, by rw [chs_succ, ← List.append_assoc]; exact O6.out, CM6.out, BL6.out⟩
    ·have dj : decide ((j : Int) < (C : Int)) = false := by simp; omega
     have hjC : j = C := by omega
     clear cm hTN CHN hNb
     go_wp2_with fail
     go_ret
     refine ⟨_, rfl, ?_, BL3.out⟩
     have q := OW.out
     rw [hjC] at q
     exact q.mono (by have := S1.out; omega)
end Eg
end Go.Proofs.YtblfimobiibmjaaGreat
