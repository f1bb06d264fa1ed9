import Derived.Test.YtblfimobiibmjaaGreatZjAh19
namespace Go.Proofs.YtblfimobiibmjaaGreat
open Go.ChangeShapes Go.WideShapes Go.ChangeAt Go.RowKit
namespace Ax
open En Gu Eg Ba
theorem Rn.keep {w w' : World} {B : Nat} {v : Value} {l : List Nat} (h : Rn w B v l) (hg : w.grownBy w' none) : Rn w' B v l := h.below (below_of hg)
def Vn (w : World) (v : Value) (l : List Nat) : Prop := ∃ oa c, v = .slice oa l.length c ∧ l.length ≤ c ∧ c ≤ maxLen ∧ (l = [] ∨ ∃ g o, oa = some ⟨g, o, none⟩ ∧ ∀ (k x : Nat), l[k]? = some x → w.cell? ⟨g, o + k, none⟩ = some (.int .i64 (x : Int)))
theorem Vn.below {w w' : World} {v : Value} {l : List Nat} (h : Vn w v l) (hb : Below w.heap.size w w') : Vn w' v l := by
 obtain ⟨oa, c, rfl, h1, h2, h3⟩ := h
 refine ⟨oa, c, rfl, h1, h2, ?_⟩
 rcases h3 with q | ⟨g, o, rfl, q⟩
 ·exact .inl q
 ·exact .inr ⟨g, o, rfl, fun k x hx => (hb.cell (World.block_lt_of_cell? w _ (q k x hx))).trans (q k x hx)⟩
theorem Rn.vn {w : World} {B : Nat} {v : Value} {l : List Nat} (h : Rn w B v l) : Vn w v l := by
 obtain ⟨oa, c, rfl, h1, h2⟩ := h.sl
 refine ⟨oa, c, rfl, h1, h2, ?_⟩
 cases l with
 | nil => exact .inl rfl
 | cons a t =>
   obtain ⟨g, rfl, -⟩ := h.cell (k := 0) (x := a) rfl
   refine .inr ⟨g, 0, rfl, fun k x hx => ?_⟩
   obtain ⟨g', e, q⟩ := h.cell hx
   cases e
   rw [Nat.zero_add]
   exact q
def TellN (n : FuncId) (caps : Array Value) (p : Nat → Bool) (l : List Nat) (w : World) : Prop := ∀ W, Below w.heap.size w W → ∀ x ∈ l, Calls Tryz.prog n (#[.int .i64 (x : Int)] ++ caps) W fun r w' => r = .returned (.bool (p x)) ∧ Below W.heap.size W w'
def idxN (p : Nat → Bool) (l : List Nat) : Int := match l.findIdx? p with | some i => (i : Int) | none => -1
theorem idxN_none {p : Nat → Bool} {l : List Nat} (h : ∀ (j : Nat) x, l[j]? = some x → p x = false) : idxN p l = -1 := by
 have : l.findIdx? p = none := by
  rw [List.findIdx?_eq_none_iff]
  intro x hx
  obtain ⟨j, hj⟩ := List.getElem?_of_mem hx
  exact h j x hj
 simp [idxN, this]
theorem idxN_some {p : Nat → Bool} {l : List Nat} {k : Nat} {y : Nat} (hk : l[k]? = some y) (h : ∀ (j : Nat) x, j < k → l[j]? = some x → p x = false) (hp : p y = true) : idxN p l = (k : Int) := by
 obtain ⟨hk', e⟩ := List.getElem?_eq_some_iff.1 hk
 have : l.findIdx? p = some k := by
  rw [List.findIdx?_eq_some_iff_getElem]
  refine ⟨hk', by rw [e]; exact hp, fun j hj => ?_⟩
  have := h j l[j] hj (List.getElem?_eq_getElem (by omega))
  simp [this]
 simp [idxN, this]
theorem idxN_any (p : Nat → Bool) (l : List Nat) : decide (idxN p l ≥ 0) = l.any p := by
 cases h : l.findIdx? p with
 | none =>
   rw [List.findIdx?_eq_none_iff] at h
   have : l.any p = false := by
    rw [List.any_eq_false]
    intro x hx
    simp [h x hx]
   rw [this]
   unfold idxN
   rw [show l.findIdx? p = none by rw [List.findIdx?_eq_none_iff]; exact h]
   simp
 | some i =>
   have : l.any p = true := by
    obtain ⟨h1, h2, -⟩ := List.findIdx?_eq_some_iff_getElem.1 h
    rw [List.any_eq_true]
    exact ⟨_, List.getElem_mem h1, h2⟩
   rw [this]
   unfold idxN
   rw [h]
   simp
set_option maxRecDepth 100000 in
set_option maxHeartbeats 1600000 in
theorem index_n (n : FuncId) (caps : Array Value) (hn : ∀ (a : Array Value) (u : World), (callFunc n a).run Tryz.prog u = .ok (.enter n a) u) (p : Nat → Bool) (B : Nat) (v : Value) (l : List Nat) (w : World)
 (ho : Rn w B v l) (hl : l.length ≤ 100000000) (hp : TellN n caps p l w) :
 Calls Tryz.prog 140 #[v, .func (.func n) #[] caps] w fun r w' => r = .returned (.int .i64 (idxN p l)) ∧ Below w.heap.size w w' := by
 obtain ⟨oa, c, rfl, -, -⟩ := ho.sl
 have HO := hide ho
 have HP := hide hp
 unfold TellN at HP
 obtain ⟨L, hL⟩ : ∃ L, l.length = L := ⟨_, rfl⟩
 have HL := hide hL
 rw [hL] at hl
 rw [hL]
 clear ho hp hL
 go_enter Tryz.func140, Tryz.ntmps140
 go_wp2_with fail
 go_loopw [8] (fun i wr => ∃ k : Nat, k ≤ L ∧ i = .int .i64 k ∧ Below w.heap.size w wr ∧ ∀ (j : Nat) x, j < k → l[j]? = some x → p x = false) (fun i _ => L - (intOf i).toNat)
 case atStart => exact ⟨0, Nat.zero_le _, rfl, Below.refl _ _, fun j x hj => absurd hj (Nat.not_lt_zero _)⟩
 case round =>
  obtain ⟨k, hk, rfl, hg, hall⟩ := hrel
  have HA := hide hall
  have HB := hide hg
  clear hall hg
  by_cases hlt : k < L
  ·have hlt' : (k : Int) < (L : Int) := by omega
   have k0 : (0 : Int) ≤ (k : Int) := by omega
   obtain ⟨x, hx⟩ : ∃ x, l[k]? = some x := ⟨_, List.getElem?_eq_getElem (by rw [HL.out]; omega)⟩
   have OB := HO.out.below HB.out
   obtain ⟨g, rfl, c0⟩ := OB.cell hx
   have CL := hide (HP.out wr HB.out x (List.mem_of_getElem? hx))
   have HX := hide hx
   clear hx OB
   cases hpk : p x
   ·have HK := hide hpk
    rw [hpk] at CL
    clear hpk
    go_wp2_with fail
    refine CL.out.mono ?_
    rintro r w1 ⟨rfl, e1⟩
    have G1 := hide (btr HB.out e1)
    clear e1
    go_wp2_with fail
    go_roundw
    case rel => exact ⟨k + 1, by omega, by go_num, G1.out, fun j y hj hy => by
     by_cases e : j = k
     ·rw [e, HX.out] at hy; cases hy; exact HK.out
     ·exact HA.out j y (by omega) hy⟩
    case measure => simp [intOf]; omega
   ·have HK := hide hpk
    rw [hpk] at CL
    clear hpk
    go_wp2_with fail
    refine CL.out.mono ?_
    rintro r w1 ⟨rfl, e1⟩
    have G1 := hide (btr HB.out e1)
    clear e1
    go_wp2_with fail
    go_ret
    exact ⟨ret_int (idxN_some HX.out HA.out HK.out).symm, G1.out⟩
  ·have hlt' : ¬ ((k : Int) < (L : Int)) := by omega
   have HLL := HL
   go_wp2_with fail
   go_ret
   refine ⟨ret_int (idxN_none fun j x hj => HA.out j x ?_ hj).symm, HB.out⟩
   have := (List.getElem?_eq_some_iff.1 hj).1
   have := HLL.out
   omega
set_option maxRecDepth 100000 in
set_option maxHeartbeats 1600000 in
theorem contains_n (n : FuncId) (caps : Array Value) (hn : ∀ (a : Array Value) (u : World), (callFunc n a).run Tryz.prog u = .ok (.enter n a) u) (p : Nat → Bool) (B : Nat) (v : Value) (l : List Nat) (w : World)
 (ho : Rn w B v l) (hl : l.length ≤ 100000000) (hp : TellN n caps p l w) :
 Calls Tryz.prog 96 #[v, .func (.func n) #[] caps] w fun r w' => r = .returned (.bool (l.any p)) ∧ Below w.heap.size w w' := by
 have IX := hide (index_n n caps hn p B v l w ho hl hp)
 have AN := hide (idxN_any p l)
 obtain ⟨z, hz⟩ : ∃ z, idxN p l = z := ⟨_, rfl⟩
 rw [hz] at IX AN
 rw [← AN.out]
 clear hz ho hp
 go_enter Tryz.func96, Tryz.ntmps96
 go_wp2_with fail
 refine IX.out.mono ?_
 rintro r w1 ⟨rfl, b1⟩
 have B1 := hide b1
 clear b1
 go_wp2_with fail
 go_ret
 exact ⟨rfl, B1.out⟩
theorem app_rn {w : World} {B : Nat} {v v2 : Value} {l l2 : List Nat} (ho : Rn w B v l) (h2 : Vn w v2 l2) (hl : l.length + l2.length ≤ 100000000) (hb : B ≤ w.heap.size) :
 ∃ ea' c' w', (Builtin.append_ #[67, 67] 67 #[v, v2]).run Tryz.prog w = .ok (.slice ea' (l.length + l2.length) c') w' ∧ Rn w' B (.slice ea' (l.length + l2.length) c') (l ++ l2) ∧ w.grownBy w' v.ownBlock := by
 obtain ⟨i0, hi, hz, hs, hby⟩ := info_ex info_i0
 obtain ⟨oa, c, rfl, -, -, h3⟩ := h2
 rcases oa with _ | a
 ·obtain rfl : l2 = [] := by
   rcases h3 with q | ⟨g, o, q, -⟩
   ·exact q
   ·cases q
  obtain ⟨ob, cb, rfl, -, -⟩ := ho.sl
  refine ⟨ob, cb, w, ?_, by simpa using ho, grown_refl _ _⟩
  exact Eg.run_app_none B 67 67 3 i0 1 Tryz.underlying67 hi ob l.length cb c _ ho
 ·obtain ⟨ea', c', w', h4, h5, h6, -⟩ := app_n w B v l l2 l.length rfl ho a l2.length c rfl (fun j u hj => by
   have hj2 := (List.getElem?_eq_some_iff.1 hj).1
   obtain ⟨x, hx⟩ : ∃ x, l2[j]? = some x := ⟨_, List.getElem?_eq_getElem (by simpa [nc] using hj2)⟩
   rcases h3 with q | ⟨g, o, q, hc⟩
   ·rw [q] at hx
    cases hx
   ·cases q
    rw [Addr.add_lit, hc j x hx]
    rw [nc_at hx] at hj
    exact hj) hl hb
  exact ⟨ea', c', w', h4, h5, h6⟩
theorem app_rn2 {w : World} {B : Nat} {v v2 : Value} {l l2 : List Nat} (ho : Rn w B v l) (h2 : Vn w v2 l2) (hl : l.length + l2.length ≤ 100000000) (hb : B ≤ w.heap.size) :
 ∃ ea' c' w', (Builtin.append_ #[67, 67] 67 #[v, v2]).run Tryz.prog w = .ok (.slice ea' (l.length + l2.length) c') w' ∧ Rn w' B (.slice ea' (l.length + l2.length) c') (l ++ l2) ∧ Below B w w' := by
 obtain ⟨ea, c, w', h1, h3, h4⟩ := app_rn ho h2 hl hb
 exact ⟨ea, c, w', h1, h3, Eg.grown_below h4 (Eg.own_base ho) hb⟩
theorem mod_n (c g : Nat) (W : World) (z : Array Value) (h : W.heap[g]? = some (.cells z 3 (0, 0))) (hs : z.size = c) (hc : c ≤ maxLen) {B : Nat} (hB : B ≤ g) : Rn W B (.slice (some ⟨g, 0, none⟩) 0 c) [] :=
 ⟨by simp [nc], .inr ⟨g, c, z, rfl, hB, h, Nat.zero_le _, hc, by omega, by simp [nc]⟩⟩
set_option maxRecDepth 100000 in
set_option maxHeartbeats 1600000 in
theorem grow_n (n : Nat) (w : World) (hn : n ≤ 100000000) : Calls Tryz.prog 178 #[.slice none 0 0, .int .i64 (n : Int)] w fun r w' => ∃ v, r = .returned v ∧ Rn w' w.heap.size v [] ∧ w.grownBy w' none := by
 have w0 : IntKind.i64.wrap ((n : Int) - 0) = n := by rw [IntKind.wrap_i64]; omega
 have w1 : IntKind.i64.wrap (n : Int) = n := by rw [IntKind.wrap_i64]; omega
 have n0 : decide ((n : Int) < 0) = false := by simp
 by_cases h0 : n = 0
 ·have d : decide ((n : Int) > 0) = false := by simp; omega
  subst h0
  go_enter Tryz.func178, Tryz.ntmps178
  go_wp2_with fail
  go_ret
  exact ⟨_, rfl, Rn.nil _ _, grown_refl _ _⟩
 ·have d : decide ((n : Int) > 0) = true := by simp; omega
  obtain ⟨i0, hi, hz, hs, hby⟩ := info_ex info_i0
  have hap := Lib.run_append_nil_zeros (P := Tryz.prog) w 67 3 67 3 i0 _ .i64 .i64 Tryz.underlying67 Tryz.underlying3 hi hz n (by omega) (by rw [hs]; omega) (by omega) (by rw [hby]; omega)
  have hle := grownCap_le_maxLen w n 0 3 (by unfold maxLen; omega)
  have hge := grownCap_ge w n 0 3
  generalize grownCap w n 0 3 = c at *
  have ze : (Value.int .i64 0).cells = #[.int .i64 0] := rfl
  have OW : Hid (Rn (w.drew.alloc (.cells (Builtin.zeroCells (Value.int .i64 0).cells n ++ Builtin.zeroCells (Value.int .i64 0).cells (c - n)) 3)) w.heap.size (.slice (some ⟨w.heap.size, 0, none⟩) 0 c) []) := by
   refine mod_n c w.heap.size _ _ (heap_new w.drew _) ?_ hle (Nat.le_refl _)
   simp only [Array.size_append, Builtin.zeroCells, Array.size_map, Array.size_range, ze]
   simp
   omega
  have GB : Hid (w.grownBy (w.drew.alloc (.cells (Builtin.zeroCells (Value.int .i64 0).cells n ++ Builtin.zeroCells (Value.int .i64 0).cells (c - n)) 3)) none) := grown_of (btr (bdrew1 _) (below_alloc _ _))
  generalize w.drew.alloc (.cells (Builtin.zeroCells (Value.int .i64 0).cells n ++ Builtin.zeroCells (Value.int .i64 0).cells (c - n)) 3) = W at *
  have c0 : c ≤ 9223372036854775807 := by unfold maxLen at hle; omega
  have hn0 : 0 < n := by omega
  clear hi hz hs hby hle h0 d
  go_enter Tryz.func178, Tryz.ntmps178
  go_wp2_with (at_builtin; refine Lib.wpList_append_run _ (by rfl) _ _ _ _ (by rfl) _ _ (by rfl) (by rfl) _ _ hap ?_)
  go_ret
  exact ⟨_, rfl, OW.out, GB.out⟩
set_option maxRecDepth 100000 in
set_option maxHeartbeats 3200000 in
theorem concat_n (b : Nat) (va vb : Value) (la lb : List Nat) (w : World) (h0 : w.cell? ⟨b, 0, none⟩ = some va) (h1 : w.cell? ⟨b, 1, none⟩ = some vb) (ha : Vn w va la) (hb : Vn w vb lb) (hl : la.length + lb.length ≤ 100000000) :
 Calls Tryz.prog 165 #[.slice (some ⟨b, 0, none⟩) 2 2] w fun r w' => ∃ v, r = .returned v ∧ Rn w' w.heap.size v (la ++ lb) ∧ Below w.heap.size w w' := by
 obtain ⟨oa, ca, rfl, -⟩ := (show Vn w va la from ha)
 have ha : Vn w (.slice oa la.length ca) la := ha
 obtain ⟨ob, cb, rfl, -⟩ := (show Vn w vb lb from hb)
 have hb : Vn w (.slice ob lb.length cb) lb := hb
 have HA := hide ha
 have HB := hide hb
 have hbl := World.block_lt_of_cell? w ⟨b, 0, none⟩ h0
 obtain ⟨na, hna⟩ : ∃ n, la.length = n := ⟨_, rfl⟩
 obtain ⟨nb, hnb⟩ : ∃ n, lb.length = n := ⟨_, rfl⟩
 have NA := hide hna
 have NB := hide hnb
 rw [hna, hnb] at hl
 rw [hna] at h0
 rw [hnb] at h1
 have H0 := hide h0
 have H1 := hide h1
 have GR := hide (grow_n (na + nb) w hl)
 rw [show ((na + nb : Nat) : Int) = (na : Int) + (nb : Int) by omega] at GR
 clear ha hb hna hnb
 go_enter Tryz.func165, Tryz.ntmps165
 go_wp2_with fail
 go_loopw [3, 11] (fun sv iv wr => ∃ k : Nat, k ≤ 2 ∧ iv = .int .i64 k ∧ sv = .int .i64 (if k = 0 then 0 else if k = 1 then (na : Int) else (na : Int) + nb) ∧ wr = w) (fun _ iv _ => 2 - (intOf iv).toNat)
 case atStart => exact ⟨0, by omega, rfl, rfl, rfl⟩
 case round =>
  obtain ⟨k, hk, rfl, rfl, rfl⟩ := hrel
  obtain rfl | rfl | rfl : k = 0 ∨ k = 1 ∨ k = 2 := by omega
  ·have n0 : decide ((na : Int) < 0) = false := by simp
   simp only [if_true]
   go_wp2_with fail
   go_roundw
   case rel => exact ⟨1, by omega, by simp⟩
   case measure => simp [intOf]
  ·have n0 : decide ((na : Int) + (nb : Int) < 0) = false := by simp; omega
   simp only [if_true, if_false, Nat.one_ne_zero]
   go_wp2_with fail
   go_roundw
   case rel => exact ⟨2, by omega, by simp⟩
   case measure => simp [intOf]
  ·simp only [if_false, show (2 : Nat) ≠ 0 by omega, show (2 : Nat) ≠ 1 by omega]
   clear h0 h1
   go_wp2_with fail
   refine GR.out.mono ?_
   rintro r w2 ⟨v, rfl, ov, gv⟩
   have OV := hide ov
   have BV := hide (below_of gv)
   obtain ⟨ov_, cv, rfl, -, -⟩ := ov.sl
   clear GR ov gv
   go_wp2_with fail
   go_loopw [6, 27] (fun sv iv w3 => ∃ k : Nat, k ≤ 2 ∧ iv = .int .i64 k ∧ Rn w3 wr.heap.size sv (if k = 0 then [] else if k = 1 then la else la ++ lb) ∧ Below wr.heap.size wr w3) (fun _ iv _ => 2 - (intOf iv).toNat)
   case atStart => exact ⟨0, by omega, rfl, OV.out, BV.out⟩
   case round =>
    rename World => w3
    clear OV BV
    obtain ⟨k, hk, rfl, ow, hbw⟩ := hrel
    obtain rfl | rfl | rfl : k = 0 ∨ k = 1 ∨ k = 2 := by omega
    ·have BW := hide hbw
     have O1 := hide ow
     have c0 : w3.cell? ⟨b, 0, none⟩ = some (.slice oa na ca) := (BW.out.cell (p := ⟨b, 0, none⟩) hbl).trans H0.out
     obtain ⟨ox, cx, rfl, -, -⟩ := ow.sl
     obtain ⟨ea, ce, w4, hap, o4, g4⟩ := app_rn (l := []) (l2 := la) ow (HA.out.below BW.out) (by first | (rw [NA.out]; simp; omega) | (rw [NA.out, NB.out]; omega)) BW.out.size
     rw [NA.out] at o4
     simp only [List.length_nil, Nat.zero_add, List.nil_append] at o4
     have O4 := hide o4
     have B4 := hide (BW.out.trans (grown_below g4 (own_base ow) BW.out.size))
     rw [NA.out] at hap
     clear ow hbw g4 o4
     simp only [List.length_nil] at hap
     go_wp2_with (at_builtin; refine Lib.wpList_append_run _ (by rfl) _ _ _ _ (by rfl) _ _ (by rfl) (by rfl) _ _ hap ?_)
     go_roundw
     case rel => exact ⟨1, by omega, by simp, O4.out, B4.out⟩
     case measure => simp [intOf]
    ·have BW := hide hbw
     have O1 := hide ow
     have c0 : w3.cell? ⟨b, 1, none⟩ = some (.slice ob nb cb) := (BW.out.cell (p := ⟨b, 1, none⟩) hbl).trans H1.out
     obtain ⟨ox, cx, rfl, -, -⟩ := ow.sl
     obtain ⟨ea, ce, w4, hap, o4, g4⟩ := app_rn (l := la) (l2 := lb) ow (HB.out.below BW.out) (by first | (rw [NA.out]; simp; omega) | (rw [NA.out, NB.out]; omega)) BW.out.size
     rw [NA.out, NB.out] at o4
     have O4 := hide o4
     have B4 := hide (BW.out.trans (grown_below g4 (own_base ow) BW.out.size))
     rw [NA.out, NB.out] at hap
     clear ow hbw g4 o4
     go_wp2_with (at_builtin; refine Lib.wpList_append_run _ (by rfl) _ _ _ _ (by rfl) _ _ (by rfl) (by rfl) _ _ hap ?_)
     go_roundw
     case rel => exact ⟨2, by omega, by simp, O4.out, B4.out⟩
     case measure => simp [intOf]
    ·have BW := hide hbw
     obtain ⟨ox, cx, rfl, -, -⟩ := ow.sl
     have O1 := hide ow
     clear ow hbw
     go_wp2_with fail
     go_ret
     exact ⟨_, rfl, O1.out, BW.out⟩
def minF (l : List Nat) : Nat := match l with | [] => 0 | x :: xs => xs.foldl min x
def maxF (l : List Nat) : Nat := match l with | [] => 0 | x :: xs => xs.foldl max x
theorem min_nat (a y : Nat) : (if (y : Int) < (a : Int) then (y : Int) else (a : Int)) = ((min a y : Nat) : Int) := by split <;> omega
theorem max_nat (a y : Nat) : (if (y : Int) > (a : Int) then (y : Int) else (a : Int)) = ((max a y : Nat) : Int) := by split <;> omega
theorem fold_take {f : Nat → Nat → Nat} {x : Nat} {l : List Nat} {k y : Nat} (h : l[k]? = some y) : (l.take (k + 1)).foldl f x = f ((l.take k).foldl f x) y := by
 rw [List.take_add_one, h, List.foldl_append]
 rfl
set_option maxRecDepth 100000 in
set_option maxHeartbeats 1600000 in
theorem min_n (B : Nat) (v : Value) (x : Nat) (l : List Nat) (w : World) (ho : Rn w B v (x :: l)) (hl : l.length ≤ 100000) :
 Calls Tryz.prog 93 #[v] w fun r w' => r = .returned (.int .i64 ((l.foldl min x : Nat) : Int)) ∧ Below w.heap.size w w' := by
 obtain ⟨oa, c, rfl, -, -⟩ := ho.sl
 have HO := hide ho
 obtain ⟨g, rfl, c0⟩ := HO.out.cell (k := 0) (x := x) rfl
 have AT := hide (fun (u : World) (bb : Below w.heap.size w u) (k y : Nat) (h : l[k]? = some y) => (show u.cell? ⟨g, k + 1, none⟩ = some (.int .i64 (y : Int)) by
  obtain ⟨g', e, q⟩ := (ho.below bb).cell (k := k + 1) (x := y) (by simpa using h)
  cases e
  exact q))
 obtain ⟨L, hL⟩ : ∃ L, l.length = L := ⟨_, rfl⟩
 have HL := hide hL
 rw [List.length_cons, hL]
 rw [hL] at hl
 clear ho hL
 have d1 : decide (((L + 1 : Nat) : Int) < 1) = false := by simp; omega
 have e1 : ((L + 1 : Nat) : Int) = (L : Int) + 1 := by omega
 rw [e1] at *
 go_enter Tryz.func93, Tryz.ntmps93
 go_wp2_with fail
 go_loopw [3, 4] (fun mv iv wr => ∃ k : Nat, k ≤ L ∧ iv = .int .i64 ((k : Int) + 1) ∧ mv = .int .i64 (((l.take k).foldl min x : Nat) : Int) ∧ Below w.heap.size w wr) (fun _ iv _ => L + 1 - (intOf iv).toNat)
 case atStart => exact ⟨0, Nat.zero_le _, rfl, rfl, Below.refl _ _⟩
 case round =>
  obtain ⟨k, hk, rfl, rfl, hg⟩ := hrel
  have HB := hide hg
  clear hg
  obtain ⟨a, ha⟩ : ∃ a, (l.take k).foldl min x = a := ⟨_, rfl⟩
  have HAA := hide ha
  rw [ha]
  clear ha
  by_cases hlt : k < L
  ·have hlt' : (k : Int) + 1 < (L : Int) + 1 := by omega
   have k0 : (0 : Int) ≤ (k : Int) + 1 := by omega
   obtain ⟨y, hy⟩ : ∃ y, l[k]? = some y := ⟨_, List.getElem?_eq_getElem (by rw [HL.out]; omega)⟩
   have c1 := AT.out _ HB.out k y hy
   have NX : Hid ((l.take (k + 1)).foldl min x = min a y) := by
    show _ = _
    rw [fold_take hy, HAA.out]
   have hmm : ∀ (ty : TypeId) (u : World), (Builtin.min_ #[3, 3] ty #[.int .i64 (a : Int), .int .i64 (y : Int)]).run Tryz.prog u = .ok (.int .i64 ((min a y : Nat) : Int)) u := fun ty u => by rw [run_min_int2, min_nat]
   have w2 : IntKind.i64.wrap ((k : Int) + 1 + 1) = (k : Int) + 1 + 1 := by rw [IntKind.wrap_i64]; omega
   have tn : ((k : Int) + 1).toNat = k + 1 := by omega
   clear hy
   go_wp2_with fail
   go_roundw
   case rel => exact ⟨k + 1, by omega, by simp, by rw [NX.out], HB.out⟩
   case measure => simp [intOf]; omega
  ·obtain rfl : k = L := by omega
   have E := HAA.out
   rw [List.take_of_length_le (by rw [HL.out]; exact Nat.le_refl _)] at E
   have EH := hide E
   clear E
   go_wp2_with fail
   go_ret
   exact ⟨by rw [EH.out]; rfl, HB.out⟩
set_option maxRecDepth 100000 in
set_option maxHeartbeats 1600000 in
theorem max_n (B : Nat) (v : Value) (x : Nat) (l : List Nat) (w : World) (ho : Rn w B v (x :: l)) (hl : l.length ≤ 100000) :
 Calls Tryz.prog 94 #[v] w fun r w' => r = .returned (.int .i64 ((l.foldl max x : Nat) : Int)) ∧ Below w.heap.size w w' := by
 obtain ⟨oa, c, rfl, -, -⟩ := ho.sl
 have HO := hide ho
 obtain ⟨g, rfl, c0⟩ := HO.out.cell (k := 0) (x := x) rfl
 have AT := hide (fun (u : World) (bb : Below w.heap.size w u) (k y : Nat) (h : l[k]? = some y) => (show u.cell? ⟨g, k + 1, none⟩ = some (.int .i64 (y : Int)) by
  obtain ⟨g', e, q⟩ := (ho.below bb).cell (k := k + 1) (x := y) (by simpa using h)
  cases e
  exact q))
 obtain ⟨L, hL⟩ : ∃ L, l.length = L := ⟨_, rfl⟩
 have HL := hide hL
 rw [List.length_cons, hL]
 rw [hL] at hl
 clear ho hL
 have d1 : decide (((L + 1 : Nat) : Int) < 1) = false := by simp; omega
 have e1 : ((L + 1 : Nat) : Int) = (L : Int) + 1 := by omega
 rw [e1] at *
 go_enter Tryz.func94, Tryz.ntmps94
 go_wp2_with fail
 go_loopw [3, 4] (fun mv iv wr => ∃ k : Nat, k ≤ L ∧ iv = .int .i64 ((k : Int) + 1) ∧ mv = .int .i64 (((l.take k).foldl max x : Nat) : Int) ∧ Below w.heap.size w wr) (fun _ iv _ => L + 1 - (intOf iv).toNat)
 case atStart => exact ⟨0, Nat.zero_le _, rfl, rfl, Below.refl _ _⟩
 case round =>
  obtain ⟨k, hk, rfl, rfl, hg⟩ := hrel
  have HB := hide hg
  clear hg
  obtain ⟨a, ha⟩ : ∃ a, (l.take k).foldl max x = a := ⟨_, rfl⟩
  have HAA := hide ha
  rw [ha]
  clear ha
  by_cases hlt : k < L
  ·have hlt' : (k : Int) + 1 < (L : Int) + 1 := by omega
   have k0 : (0 : Int) ≤ (k : Int) + 1 := by omega
   obtain ⟨y, hy⟩ : ∃ y, l[k]? = some y := ⟨_, List.getElem?_eq_getElem (by rw [HL.out]; omega)⟩
   have c1 := AT.out _ HB.out k y hy
   have NX : Hid ((l.take (k + 1)).foldl max x = max a y) := by
    show _ = _
    rw [fold_take hy, HAA.out]
   have hmm : ∀ (ty : TypeId) (u : World), (Builtin.max_ #[3, 3] ty #[.int .i64 (a : Int), .int .i64 (y : Int)]).run Tryz.prog u = .ok (.int .i64 ((max a y : Nat) : Int)) u := fun ty u => by rw [run_max_int2, max_nat]
   have w2 : IntKind.i64.wrap ((k : Int) + 1 + 1) = (k : Int) + 1 + 1 := by rw [IntKind.wrap_i64]; omega
   have tn : ((k : Int) + 1).toNat = k + 1 := by omega
   clear hy
   go_wp2_with fail
   go_roundw
   case rel => exact ⟨k + 1, by omega, by simp, by rw [NX.out], HB.out⟩
   case measure => simp [intOf]; omega
  ·obtain rfl : k = L := by omega
   have E := HAA.out
   rw [List.take_of_length_le (by rw [HL.out]; exact Nat.le_refl _)] at E
   have EH := hide E
   clear E
   go_wp2_with fail
   go_ret
   exact ⟨by rw [EH.out]; rfl, HB.out⟩
theorem slice_n (u : World) (ta : Option Addr) (len cap n : Nat) (h : n ≤ len) : (Instr.slice 67 (.slice ta len cap) (some (.int .i64 (n : Int))) none none).run Tryz.prog u = .ok (.slice (if cap = n then ta else ta.map (·.add (n * 1))) (len - n) (cap - n)) u := by
 obtain ⟨i0, hi, hz, hs, hby⟩ := info_ex info_i0
 have hs : (sizeOf 3).run Tryz.prog u = .ok 1 u := by simp [sizeOf, typeInfo, hi, hs]
 have h2 : (n : Int) ≤ (len : Int) := by omega
 simp [Instr.slice, run_underlying Tryz.underlying67, Instr.sliceBounds, Instr.sliceBound, asIntOf, h, hs]
theorem sliceAt_n (u : World) (ta : Option Addr) (len cap n : Nat) (h : n ≤ len) : (Instr.sliceAt 67 (.slice ta len cap) (some (.int .i64 (n : Int))) none none).run Tryz.prog u = .ok (.slice (if cap = n then ta else ta.map (·.add (n * 1))) (len - n) (cap - n)) u := by
 have := slice_n u ta len cap n h
 simp only [Instr.sliceAt, Sem.run_bind, run_underlying Tryz.underlying67, Result.andThen_ok]
 exact this
theorem Rn.drop {w : World} {B : Nat} {oa : Option Addr} {c : Nat} {l : List Nat} (ho : Rn w B (.slice oa l.length c) l) (k : Nat) (hk : k ≤ l.length) : Vn w (.slice (if c = k then oa else oa.map (·.add (k * 1))) (l.length - k) (c - k)) (l.drop k) := by
 obtain ⟨oa2, c2, e, h1, h2⟩ := ho.sl
 cases e
 refine ⟨_, _, by rw [List.length_drop], by rw [List.length_drop]; omega, by omega, ?_⟩
 by_cases q : l.length = k
 ·exact .inl (by rw [List.drop_eq_nil_of_le (by omega)])
 ·obtain ⟨x0, hx0⟩ : ∃ x, l[0]? = some x := ⟨_, List.getElem?_eq_getElem (by omega)⟩
  obtain ⟨g, rfl, -⟩ := ho.cell hx0
  rw [if_neg (by omega)]
  refine .inr ⟨g, k, ?_, fun j x hx => ?_⟩
  ·simp [Addr.add]
   omega
  ·rw [List.getElem?_drop] at hx
   obtain ⟨g', e, q⟩ := ho.cell hx
   cases e
   exact q
set_option maxRecDepth 100000 in
set_option maxHeartbeats 1600000 in
theorem from_any (B : Nat) (v : Value) (l : List Nat) (n : Int) (w : World) (ho : Rn w B v l) (hl : l.length ≤ 100000) (hn : -100000 ≤ n ∧ n ≤ 100000) :
 Calls Tryz.prog 166 #[v, .int .i64 n] w fun r w' => ∃ v', r = .returned v' ∧ Vn w' v' (l.drop n.toNat) ∧ Below w.heap.size w w' := by
 obtain ⟨oa, c, rfl, h1, h2⟩ := ho.sl
 have HO := hide ho
 obtain ⟨k, hk⟩ : ∃ k : Nat, min (max n 0) (l.length : Int) = (k : Int) := ⟨(min (max n 0) (l.length : Int)).toNat, by omega⟩
 have hkl : k ≤ l.length := by omega
 have DR : Hid (l.drop n.toNat = l.drop k) := by
  show _ = _
  by_cases q : n.toNat ≤ l.length
  ·rw [show n.toNat = k by omega]
  ·rw [List.drop_eq_nil_of_le (by omega), List.drop_eq_nil_of_le (by omega)]
 rw [DR.out]
 have V := hide (ho.drop k hkl)
 obtain ⟨L, hL⟩ : ∃ L, l.length = L := ⟨_, rfl⟩
 rw [hL] at hk hkl V ⊢
 obtain ⟨N, hN⟩ : ∃ N : Int, max n 0 = N := ⟨_, rfl⟩
 have hm1 : ∀ (ty : TypeId) (u : World), (Builtin.max_ #[3, 3] ty #[.int .i64 n, .int .i64 0]).run Tryz.prog u = .ok (.int .i64 N) u := fun ty u => by
  rw [run_max_int2, ← hN]
  congr 2
  split <;> omega
 have hm2 : ∀ (ty : TypeId) (u : World), (Builtin.min_ #[3, 3] ty #[.int .i64 N, .int .i64 (L : Int)]).run Tryz.prog u = .ok (.int .i64 (k : Int)) u := fun ty u => by
  rw [run_min_int2, ← hk, hN]
  congr 2
  split <;> omega
 have SL := hide (fun u => sliceAt_n u oa L c k hkl)
 have SL2 := hide (fun u => slice_n u oa L c k hkl)
 generalize (if c = k then oa else oa.map (·.add (k * 1))) = od at *
 generalize c - k = cd at *
 generalize L - k = ld at *
 have sl1 := SL.out
 have sl2 := SL2.out
 clear ho hL hk hN h1 h2 hkl SL SL2 hl hn
 go_enter Tryz.func166, Tryz.ntmps166
 go_wp2_with fail
 go_ret
 exact ⟨_, rfl, V.out, Below.refl _ _⟩
theorem vn_one (u : World) (n : Nat) : Vn (u.alloc (.cells #[.int .i64 (n : Int)] 3)) (.slice (some ⟨u.heap.size, 0, none⟩) 1 1) [n] := by
 refine ⟨_, 1, rfl, Nat.le_refl _, by unfold maxLen; omega, .inr ⟨_, 0, rfl, fun k x hx => ?_⟩⟩
 rcases k with _ | k
 ·cases hx
  exact cell_of (heap_new u _) 0
 ·cases hx
theorem app_one {w : World} {B : Nat} {v : Value} {l : List Nat} (ho : Rn w B v l) (n : Nat) (hl : l.length ≤ 100000) (hb : B ≤ w.heap.size) :
 ∃ ea' c' w', (Builtin.append_ #[67, 67] 67 #[v, .slice (some ⟨w.heap.size, 0, none⟩) 1 1]).run Tryz.prog (w.alloc (.cells #[.int .i64 (n : Int)] 3)) = .ok (.slice ea' (l.length + 1) c') w' ∧ Rn w' B (.slice ea' (l.length + 1) c') (l ++ [n]) ∧ Below B w w' := by
 have bA := below_alloc w (.cells #[.int .i64 (n : Int)] 3)
 obtain ⟨ea, c, w', h1, h2, h3⟩ := app_rn2 (ho.below bA) (vn_one w n) (by simp; omega) (Nat.le_trans hb bA.size)
 exact ⟨ea, c, w', h1, h2, (bA.mono hb).trans h3⟩
end Ax
end Go.Proofs.YtblfimobiibmjaaGreat
