import Derived.Test.YtblfimobiibmjaaGreatZjAh12
import Derived.Deep.RegionHeld3
import Derived.Deep.RegionWith
namespace Go.Proofs.YtblfimobiibmjaaGreat
open Go.ChangeShapes Go.WideShapes Go.ChangeAt Go.RowKit
namespace Cr
open Ba
abbrev RC (w : World) (B : Nat) (F : Nat → Prop) (l : List Mb) : Prop := Cq 158 199 w B F l
theorem info_one : (Tryz.prog.info? 199).map (fun i => (i.zero, i.size, i.bytes)) = some (some (tv 0 0 0), 3, 24) := by kernel_rfl
theorem rhas_any (B : Nat) (F : Nat → Prop) (l : List Mb) (g : Int) (w : World) (h : RC w B F l) :
 Calls Tryz.prog 171 #[.pointer (some ⟨B, 0, none⟩), .int .i64 g] w fun r w' => r = .returned (.bool (thr l g)) ∧ w' = w := by
 unfold thr
 have hle := h.le
 obtain ⟨oa, c, h⟩ := h
 have y0 : w.cell? ⟨B, 0, none⟩ = some (.slice oa l.length c) := cell_of h.hp 0
 clear h
 cases hg : gt l g with
 | none =>
   have hg' := gt_none hg
   clear hg
   cases h1 : decide (0 ≤ g)
   ·clear hg'
    go_enter Tryz.func171, Tryz.ntmps171
    go_wp2_with fail
    go_ret
    exact ⟨rfl, rfl⟩
   ·have d2 : decide (g < (l.length : Int)) = false := by simp at h1 ⊢; omega
    clear hg'
    go_enter Tryz.func171, Tryz.ntmps171
    go_wp2_with fail
    go_ret
    exact ⟨rfl, rfl⟩
 | some x =>
   obtain ⟨k, rfl, hk, hx⟩ := gt_some hg
   have d1 : decide (0 ≤ (k : Int)) = true := decide_eq_true (by omega)
   have d2 : decide ((k : Int) < (l.length : Int)) = true := decide_eq_true (by omega)
   clear hx hg
   go_enter Tryz.func171, Tryz.ntmps171
   go_wp2_with fail
   go_ret
   exact ⟨rfl, rfl⟩
set_option maxHeartbeats 1600000 in
theorem rturn00 (B : Nat) (F : Nat → Prop) (l : List Mb) (K : Nat) (g : Int) (w : World) (h : RC w B F l) (hn : Bn K l) (hK : K ≤ 100000) :
 Calls Tryz.prog 149 #[.pointer (some ⟨B, 0, none⟩), .int .i64 g, .int .i64 0, .int .i64 0] w fun r w' => r = .returned (.int .i64 (chE l g 0)) ∧ Po 158 199 w w' B F (chL l g 0 0 1) := by
 unfold chE chL
 have HS := hide (rhas_any B F l g w h)
 have HH := hide h
 cases hg : gt l g with
 | none =>
   simp only
   unfold thr at HS
   rw [hg] at HS
   simp only [Option.isSome_none] at HS
   clear h hg hn
   go_enter Tryz.func149, Tryz.ntmps149
   go_wp2_with fail
   refine HS.out.mono ?_
   rintro r w1 ⟨rfl, rfl⟩
   go_wp2_with fail
   go_ret
   exact ⟨rfl, Po.of HH.out (Below.refl _ _)⟩
 | some x =>
   simp only
   unfold thr at HS
   rw [hg] at HS
   simp only [Option.isSome_some] at HS
   obtain ⟨k, rfl, hk, hx⟩ := gt_some hg
   rw [Int.toNat_natCast]
   have hle := h.le
   obtain ⟨oa, c, h⟩ := h
   have hb1 := hn.at hx
   have H := hide h
   obtain ⟨m, rfl, q0, q1, q2⟩ := h.at.1 k x hx
   obtain ⟨_, cur, hm⟩ := own_blk h.ow m rfl
   have hmB : m ≠ B := by
    intro e
    rw [e, h.hp] at hm
    cases hm
   have y0 : w.cell? ⟨B, 0, none⟩ = some (.slice (some ⟨m, 0, none⟩) l.length c) := cell_of h.hp 0
   have z1 := frozen_of hm (k * 3 + 1)
   have z2 := frozen_of hm (k * 3 + 2)
   have hFm := hide (h.fr m rfl)
   have HX := hide hx
   have d3 : (k : Int) < (l.length : Int) := by omega
   clear h hg hx hm hn
   by_cases hs : x.s = 0
   ·rw [if_pos hs, if_pos hs]
    have e1 : (x.s != 0) = false := by simp [hs]
    clear hs
    go_enter Tryz.func149, Tryz.ntmps149
    go_wp2_with fail
    refine HS.out.mono ?_
    rintro r w1 ⟨rfl, rfl⟩
    go_wp2_with fail
    go_region
    all_goals
     go_wp2_with fail
     go_ret
     exact ⟨rfl, F, ⟨some ⟨m, 0, none⟩, c, (H.out.both (by decide) HX.out _ _).below (bdrew1 _)⟩, ((((KF.refl _ _).set hFm.out _ _).set hFm.out _ _).then (bdrew1 _)), Nw.refl _ _⟩
   ·rw [if_neg hs, if_neg hs]
    have e1 : (x.s != 0) = true := by simp [hs]
    clear hs
    go_enter Tryz.func149, Tryz.ntmps149
    go_wp2_with fail
    refine HS.out.mono ?_
    rintro r w1 ⟨rfl, rfl⟩
    go_wp2_with fail
    go_ret
    exact ⟨rfl, Po.of HH.out (Below.refl _ _)⟩
set_option maxRecDepth 100000 in
set_option maxHeartbeats 1600000 in
theorem rable_any (B : Nat) (F : Nat → Prop) (l : List Mb) (w : World) (h : Cq 158 199 w B F l) :
 Calls Tryz.prog 143 #[.pointer (some ⟨B, 0, none⟩)] w fun r w' => ∃ ob d, r = .returned (.slice ob (abl l).length d) ∧ At w' ob (abl l) ∧ Below w.heap.size w w' := by
 cases hi : Tryz.prog.info? 3 with
 | none => have := info_i; rw [hi] at this; cases this
 | some i0 =>
 have hx2 := info_i
 rw [hi] at hx2
 simp at hx2
 have INF := hide (And.intro hi hx2)
 clear hx2 hi
 have hle := h.le
 obtain ⟨oa, c, h⟩ := h
 have hB := h.lt
 have y0 : w.cell? ⟨B, 0, none⟩ = some (.slice oa l.length c) := cell_of h.hp 0
 have HA := hide h.at.1
 have AL := hide y0
 clear h
 go_enter Tryz.func143, Tryz.ntmps143
 go_wp2_with fail
 go_loopw [3, 11] (fun rv i wr => ∃ (v : Value) (k : Nat), k ≤ l.length ∧ i = .int .i64 k ∧ rv = v ∧ wr.ownsRow w.heap.size 3 1 v (abl (l.take k)).length (ic (abl (l.take k))) ∧ Below w.heap.size w wr) (fun _ i _ => l.length - (intOf i).toNat)
 case atStart => exact ⟨_, 0, Nat.zero_le _, rfl, rfl, World.ownsRow_nil _ _ _ _, Below.refl _ _⟩
 case round =>
  obtain ⟨v, k, hk, rfl, rfl, ho, hb⟩ := hrel
  by_cases hlt : k < l.length
  ·have hlt' : (k : Int) < (l.length : Int) := by omega
   obtain ⟨x, hx⟩ : ∃ x, l[k]? = some x := ⟨_, List.getElem?_eq_getElem hlt⟩
   obtain ⟨b, rfl, q0, q1, q2⟩ := HA.out.below hb k x hx
   have DT := hide (abl_take hx)
   have hdl : (abl (l.take k)).length ≤ k := by
    have h1 := abl_len (l.take k)
    have h2 := List.length_take_le k l
    omega
   clear hx
   obtain ⟨X, hX⟩ : ∃ X, X = abl (l.take k) := ⟨_, rfl⟩
   rw [← hX] at DT hdl ho
   clear hX
   have BX := below_alloc wr (.cells #[.int .i64 x.p, .int .i64 x.q, .int .i64 x.s] 199)
   by_cases hs : x.s = 0
   ·have EX : Hid (abl (l.take (k + 1)) = X ++ [(k : Int)]) := by
     show _ = _
     rw [DT.out, if_pos hs]
    rw [hs] at q2 BX
    have OW1 := own_below ho BX
    have HB1 := btr hb BX
    have BY := below_alloc (wr.alloc (.cells #[.int .i64 x.p, .int .i64 x.q, .int .i64 0] 199)) (.cells #[.int .i64 (k : Int)] 3)
    have OW := hide (own_below OW1 BY)
    have HB := hide (btr HB1 BY)
    have SR := cell_one_new (wr.alloc (.cells #[.int .i64 x.p, .int .i64 x.q, .int .i64 0] 199)) (.int .i64 (k : Int)) 3
    rw [World.size_alloc] at SR
    have SRC := hide SR
    clear OW1 HB1 BY SR ho hb BX DT hs
    go_wp2_with (at_builtin; refine wpList_append_own _ rfl _ _ 67 rfl w.heap.size 3 i0 (.int .i64 0) 1 8 Tryz.underlying67 INF.out.1 INF.out.2.1 INF.out.2.2.1 INF.out.2.2.2 rfl (by decide) _ _ _ rfl OW.out ⟨wr.heap.size + 1, 0, none⟩ 1 1 [.int .i64 (k : Int)] rfl rfl ?c1 ?c2 ?c3 ?c4 ?c5 ?_)
    case c1 => first | exact SRC.out | exact fun j u hj => hj
    case c2 => intro u hu; simp at hu; subst hu; rfl
    case c3 => unfold maxLen; omega
    case c4 => omega
    case c5 => first | exact HB.out.size | (have := HB.out.size; rw [World.size_alloc, World.size_alloc] at this; exact this)
    intro v' w3 ho hg3 _
    have B3 : Hid (Below w.heap.size w w3) := HB.out.grown hg3 HB.out.size (fun x hx => (OW.out.lt x hx).1)
    have O3 : Hid (w3.ownsRow w.heap.size 3 1 v' (abl (l.take (k + 1))).length (ic (abl (l.take (k + 1))))) := by
     show World.ownsRow _ _ _ _ _ _ _
     rw [EX.out, ic_app, List.length_append]
     exact ho
    clear ho hg3
    go_wp2_with fail
    go_roundw
    case rel =>
     first
      | exact ⟨v', k + 1, by omega, by go_num, rfl, O3.out, B3.out⟩
      | ((repeat apply Exists.intro); exact ⟨⟨v', k + 1, by omega, by go_num, rfl, O3.out, B3.out⟩, rfl⟩)
    case measure => simp [intOf]; omega
   ·have hs' : (x.s == 0) = false := by simpa using hs
    have EX : Hid (abl (l.take (k + 1)) = X) := by
     show _ = _
     rw [DT.out, if_neg hs, List.append_nil]
    have O3 : Hid ((wr.alloc (.cells #[.int .i64 x.p, .int .i64 x.q, .int .i64 x.s] 199)).ownsRow w.heap.size 3 1 u3 (abl (l.take (k + 1))).length (ic (abl (l.take (k + 1))))) := by
     show World.ownsRow _ _ _ _ _ _ _
     rw [EX.out]
     exact own_below ho BX
    have B3 := hide (btr hb BX)
    clear ho hb BX DT hs
    go_wp2_with fail
    go_roundw
    case rel =>
     first
      | exact ⟨_, k + 1, by omega, by go_num, rfl, O3.out, B3.out⟩
      | exact ⟨k + 1, by omega, by go_num, O3.out, B3.out⟩
    case measure => simp [intOf]; omega
  ·have hlt' : ¬ ((k : Int) < (l.length : Int)) := by omega
   rw [List.take_of_length_le (by omega)] at ho
   obtain ⟨oa', c', hv', hA', _⟩ := own_at ho
   subst hv'
   have HA' := hide hA'
   have HB := hide hb
   clear ho hb hA'
   go_wp2_with fail
   go_ret
   first
    | exact ⟨oa', c', rfl, HA'.out, HB.out⟩
    | exact ⟨oa', ⟨c', rfl⟩, HA'.out, HB.out⟩
set_option maxRecDepth 100000 in
set_option maxHeartbeats 1600000 in
theorem rover_any (B : Nat) (F : Nat → Prop) (l : List Mb) (w : World) (h : RC w B F l) :
 Calls Tryz.prog 111 #[.pointer (some ⟨B, 0, none⟩)] w fun r w' => r = .returned (.int .i64 (ovr l)) ∧ Below w.heap.size w w' := by
 have hle := h.le
 obtain ⟨oa, c, h⟩ := h
 have hB := h.lt
 have y0 : w.cell? ⟨B, 0, none⟩ = some (.slice oa l.length c) := cell_of h.hp 0
 have HA := hide h.at.1
 clear h
 go_enter Tryz.func111, Tryz.ntmps111
 go_wp2_with fail
 go_loopw [3, 11] (fun o i wr => ∃ (k : Nat) (n : Int), k ≤ l.length ∧ i = .int .i64 k ∧ o = .int .i64 n ∧ (hasS (l.take k) 0 = false ∧ n = if hasS (l.take k) 1 = true then 2 else 1) ∧ Below w.heap.size w wr) (fun _ i _ => l.length - (intOf i).toNat)
 case atStart => exact ⟨0, 1, Nat.zero_le _, rfl, rfl, ⟨rfl, rfl⟩, Below.refl _ _⟩
 case round =>
  obtain ⟨k, n, hk, rfl, rfl, ⟨h0, h1⟩, hb⟩ := hrel
  have H0 := hide h0
  have H1 := hide h1
  have HB := hide hb
  clear h0 h1 hb
  by_cases hlt : k < l.length
  ·have hlt' : (k : Int) < (l.length : Int) := by omega
   obtain ⟨x, hx⟩ : ∃ x, l[k]? = some x := ⟨_, List.getElem?_eq_getElem hlt⟩
   obtain ⟨b, rfl, q0, q1, q2⟩ := HA.out.below HB.out k x hx
   have T0 := hide (hasS_take hx 0)
   have T1 := hide (hasS_take hx 1)
   have HX := hide hx
   clear hx
   by_cases hs : x.s = 0
   ·rw [hs] at q2
    have EO : Hid (ovr l = 0) := by
     show _ = _
     unfold ovr
     rw [if_pos]
     unfold hasS
     rw [List.any_eq_true]
     exact ⟨x, List.mem_of_getElem? HX.out, by rw [hs]; rfl⟩
    clear hs
    go_wp2_with fail
    go_ret
    exact ⟨ret_int EO.out.symm, btr HB.out (below_alloc _ _)⟩
   ·have d0 : (x.s == 0) = false := by simpa using hs
    have N0 : Hid (hasS (l.take (k + 1)) 0 = false) := by show _ = _; rw [T0.out, H0.out, d0]; rfl
    cases d1 : x.s == 1
    ·have N1 : Hid (n = if hasS (l.take (k + 1)) 1 = true then 2 else 1) := by show _ = _; rw [T1.out, d1, Bool.or_false]; exact H1.out
     clear hs
     go_wp2_with fail
     go_roundw
     case rel => exact ⟨k + 1, n, by omega, by go_num, rfl, ⟨N0.out, N1.out⟩, btr HB.out (below_alloc _ _)⟩
     case measure => simp [intOf]; omega
    ·have N1 : Hid ((2 : Int) = if hasS (l.take (k + 1)) 1 = true then 2 else 1) := by show _ = _; rw [T1.out, d1, Bool.or_true]; rfl
     clear hs
     go_wp2_with fail
     go_roundw
     case rel => exact ⟨k + 1, 2, by omega, by go_num, rfl, ⟨N0.out, N1.out⟩, btr HB.out (below_alloc _ _)⟩
     case measure => simp [intOf]; omega
  ·have hlt' : ¬ ((k : Int) < (l.length : Int)) := by omega
   rw [List.take_of_length_le (by omega)] at H0 H1
   have EO : Hid (ovr l = n) := by
    show _ = _
    unfold ovr
    rw [H1.out, H0.out, if_neg (by simp)]
   go_wp2_with fail
   go_ret
   exact ⟨ret_int EO.out.symm, HB.out⟩
set_option maxRecDepth 100000 in
set_option maxHeartbeats 1600000 in
theorem rspawn_any (B : Nat) (F : Nat → Prop) (l : List Mb) (p : Int) (w : World) (h : RC w B F l) :
 Calls Tryz.prog 101 #[.pointer (some ⟨B, 0, none⟩), .int .i64 p] w fun r w' => r = .returned (.tuple #[.int .i64 (spV l p), .int .i64 (spE l p)]) ∧ Po 158 199 w w' B F (spL l p) := by
 unfold spV spE spL
 by_cases h1 : p < 0
 ·simp only [if_pos h1]
  have H := hide h
  clear h
  go_enter Tryz.func101, Tryz.ntmps101
  go_wp2_with fail
  go_ret2
  exact ⟨rfl, Po.of H.out (Below.refl _ _)⟩
 simp only [if_neg h1]
 have d1 : decide (p < 0) = false := decide_eq_false h1
 have hle := h.le
 obtain ⟨oa, c, h⟩ := h
 have hB := h.lt
 have y0 : w.cell? ⟨B, 0, none⟩ = some (.slice oa l.length c) := cell_of h.hp 0
 by_cases h2 : 512 ≤ l.length
 ·simp only [if_pos h2]
  have hl : l.length = 512 := by omega
  have H := hide h
  rw [hl] at y0
  clear h hl h2 hle
  go_enter Tryz.func101, Tryz.ntmps101
  go_wp2_with fail
  go_ret2
  exact ⟨rfl, Po.of ⟨_, _, H.out⟩ (Below.refl _ _)⟩
 simp only [if_neg h2]
 have e1 : decide ((512 : Int) ≤ ((l.length : Nat) : Int)) = false := decide_eq_false (by omega)
 have hl : l.length < 512 := by omega
 have BD := hide h.bd
 have b1 := below_alloc w (.cells #[.int .i64 p, .int .i64 0, .int .i64 0] 199)
 have B1 := hide b1
 have H1 := hide (h.below b1)
 have f0 : w.frozen? ⟨B, 0, none⟩ = false := frozen_of h.hp 0
 cases hi : Tryz.prog.info? 199 with
 | none => have := info_one; rw [hi] at this; cases this
 | some i0 =>
 have hx := info_one
 rw [hi] at hx
 simp at hx
 have INF := hide (And.intro hi hx)
 clear hx hi h2 hle h b1
 go_enter Tryz.func101, Tryz.ntmps101
 go_wp2_with (at_builtin; refine wpList_append_own_at _ rfl _ _ 156 rfl 0 199 i0 (tv 0 0 0) 3 24 Tryz.underlying156 INF.out.1 INF.out.2.1 INF.out.2.2.1 INF.out.2.2.2 rfl (by decide) _ _ _ rfl H1.out.ow ⟨w.heap.size, 0, none⟩ 1 1 (mc [⟨p, 0, 0⟩]) rfl rfl ?c1 ?c2 ?c3 ?c4 (Nat.zero_le _) ?_)
 case c1 => first | exact src3 w ⟨p, 0, 0⟩ _ | exact fun j u hj => hj
 case c2 => exact mc_one _
 case c3 => unfold maxLen; omega
 case c4 => omega
 intro v' w2 ho hg _ hat
 rw [← mc_app] at ho
 have ho2 : w2.ownsRow 0 199 3 v' (l ++ [Mb.mk p 0 0]).length (mc (l ++ [Mb.mk p 0 0])) := by rw [List.length_append]; exact ho
 obtain ⟨oa', c', rfl, _, _⟩ := owns_mat ho2
 have hB1 : some B ≠ (Value.slice oa l.length c).ownBlock := own_ty H1.out.ow H1.out.hp (by decide)
 have hB2 : w2.heap[B]? = some (.cells #[.slice oa l.length c] 158 (0, 0)) := (hg.block B H1.out.lt hB1).trans H1.out.hp
 have y2 : w2.cell? ⟨B, 0, none⟩ = some (.slice oa l.length c) := cell_of hB2 0
 have f2 : w2.frozen? ⟨B, 0, none⟩ = false := frozen_of hB2 0
 have PO := hide (H1.out.grow B1.out BD.out (by decide) ho2 hg (by rw [World.size_alloc]; exact hat) hl)
 clear ho ho2 hg hat hB1 hB2
 have hn2 : (l ++ [Mb.mk p 0 0]).length = l.length + 1 := by simp
 generalize (l ++ [Mb.mk p 0 0]).length = n2 at PO hn2 ⊢
 subst hn2
 go_wp2_with fail
 go_ret2
 exact ⟨by first | rfl | (simp; done) | (congr 3; omega), PO.out⟩
end Cr
end Go.Proofs.YtblfimobiibmjaaGreat
namespace Go.Proofs.YtblfimobiibmjaaGreat
open Go.ChangeShapes Go.WideShapes Go.ChangeAt Go.RowKit
namespace Pk
open Ba
theorem ab_no {lo hi : Int} {l : List Int} {k : Nat} (hk : k < l.length) (h : nth l k < lo ∨ hi < nth l k) : ab lo hi l = false := by
 rw [← Bool.not_eq_true]
 intro e
 have := ab_nth.1 e k hk
 omega
theorem ne_long {p d : List Int} (h : 200 < p.length ∨ 64 < d.length) : ne p d = 2 := by
 unfold ne
 have : (decide (200 < p.length) || decide (64 < d.length)) = true := by simp; omega
 rw [this]
 rfl
theorem ne_4 {p d : List Int} (h1 : p.length ≤ 200) (h2 : d.length ≤ 64) (h : ab (-1) 1000 p = false ∨ ab 0 1000 d = false) : ne p d = 4 := by
 unfold ne
 have : (decide (200 < p.length) || decide (64 < d.length)) = false := by simp; omega
 rw [this]
 rcases h with h | h <;> rw [h] <;> simp
theorem ne_0 {p d : List Int} (h1 : p.length ≤ 200) (h2 : d.length ≤ 64) (h3 : ab (-1) 1000 p = true) (h4 : ab 0 1000 d = true) : ne p d = 0 := by
 unfold ne
 have : (decide (200 < p.length) || decide (64 < d.length)) = false := by simp; omega
 rw [this, h3, h4]
 rfl
def RN (w : World) (N : Nat) (p d : List Int) (r : Ending) (w' : World) : Prop :=
 (ne p d ≠ 0 ∧ r = .returned (.tuple #[.pointer none, .int .i64 (ne p d)]) ∧ w' = w) ∨ (ne p d = 0 ∧ r = .returned (.tuple #[.pointer (some ⟨w.heap.size, 0, none⟩), .int .i64 0]) ∧ RCur w' w.heap.size N p d ∧ Below w.heap.size w w')
set_option maxHeartbeats 3200000 in
theorem rnew_any (oa ob : Option Addr) (p d : List Int) (c e N : Nat) (w : World) (nA : 0 < p.length → ∀ a, oa = some a → a.block < N) (nB : 0 < d.length → ∀ a, ob = some a → a.block < N) (hA : At w oa p) (hB : At w ob d) (hp : p.length ≤ maxLen) (hd : d.length ≤ maxLen) :
 Calls Tryz.prog 100 #[.slice oa p.length c, .slice ob d.length e] w fun r w' => RN w N p d r w' := by
 have HA := hide hA
 have HB := hide hB
 have NA := hide nA
 have NB := hide nB
 unfold maxLen at hp hd
 clear hA hB nA nB
 by_cases h1 : 200 < p.length
 ·have g1 : decide (200 < (p.length : Int)) = true := by simp; omega
  have E := hide (ne_long (p := p) (d := d) (.inl h1))
  go_enter Tryz.func100, Tryz.ntmps100
  go_wp2_with fail
  go_ret2
  exact .inl ⟨by rw [E.out]; decide, by rw [E.out]; rfl, rfl⟩
 have g1 : decide (200 < (p.length : Int)) = false := by simp; omega
 by_cases h2 : 64 < d.length
 ·have g2 : decide (64 < (d.length : Int)) = true := by simp; omega
  have E := hide (ne_long (p := p) (d := d) (.inr h2))
  go_enter Tryz.func100, Tryz.ntmps100
  go_wp2_with fail
  go_ret2
  exact .inl ⟨by rw [E.out]; decide, by rw [E.out]; rfl, rfl⟩
 have g2 : decide (64 < (d.length : Int)) = false := by simp; omega
 go_enter Tryz.func100, Tryz.ntmps100
 go_wp2_with fail
 go_loop [20] (fun i => ∃ k : Nat, k ≤ p.length ∧ i = .int .i64 k ∧ ∀ j, j < k → -1 ≤ nth p j ∧ nth p j ≤ 1000) (fun i => p.length - (intOf i).toNat)
 case atStart => exact ⟨0, Nat.zero_le _, rfl, fun j hj => absurd hj (Nat.not_lt_zero _)⟩
 case round =>
  obtain ⟨k, hk, rfl, hall⟩ := hrel
  have HE := hide hall
  clear hall
  by_cases hlt : k < p.length
  ·obtain ⟨b1, o1, rfl, hc1⟩ := HA.out k hlt
   have hlt' : (k : Int) < (p.length : Int) := by omega
   cases e1 : decide (nth p k < -1)
   ·cases e2 : decide (1000 < nth p k)
    ·have HX : Hid (-1 ≤ nth p k ∧ nth p k ≤ 1000) := by show _ ∧ _; simp at e1 e2; omega
     go_wp2_with fail
     go_round
     case rel => exact ⟨k + 1, by omega, by go_num, fun j hj => by
      by_cases e : j = k
      ·subst e; exact HX.out
      ·exact HE.out j (by omega)⟩
     case measure => simp [intOf]; omega
    ·have E : Hid (ne p d = 4) := ne_4 (by omega) (by omega) (.inl (ab_no hlt (.inr (by simpa using e2))))
     go_wp2_with fail
     go_ret2
     exact .inl ⟨by rw [E.out]; decide, by rw [E.out]; rfl, rfl⟩
   ·have E : Hid (ne p d = 4) := ne_4 (by omega) (by omega) (.inl (ab_no hlt (.inl (by simpa using e1))))
    go_wp2_with fail
    go_ret2
    exact .inl ⟨by rw [E.out]; decide, by rw [E.out]; rfl, rfl⟩
  ·have hlt' : ¬ ((k : Int) < (p.length : Int)) := by omega
   have AP : Hid (ab (-1) 1000 p = true) := ab_nth.2 fun j hj => HE.out j (by omega)
   clear HE
   go_wp2_with fail
   go_loop [33] (fun i => ∃ k : Nat, k ≤ d.length ∧ i = .int .i64 k ∧ ∀ j, j < k → 0 ≤ nth d j ∧ nth d j ≤ 1000) (fun i => d.length - (intOf i).toNat)
   case atStart => exact ⟨0, Nat.zero_le _, rfl, fun j hj => absurd hj (Nat.not_lt_zero _)⟩
   case round =>
    obtain ⟨i, hi, rfl, hall⟩ := hrel
    have HE := hide hall
    clear hall
    by_cases hil : i < d.length
    ·obtain ⟨b1, o1, rfl, hc1⟩ := HB.out i hil
     have hil' : (i : Int) < (d.length : Int) := by omega
     cases e1 : decide (nth d i < 0)
     ·cases e2 : decide (1000 < nth d i)
      ·have HX : Hid (0 ≤ nth d i ∧ nth d i ≤ 1000) := by show _ ∧ _; simp at e1 e2; omega
       go_wp2_with fail
       go_round
       case rel => exact ⟨i + 1, by omega, by go_num, fun j hj => by
        by_cases e : j = i
        ·subst e; exact HX.out
        ·exact HE.out j (by omega)⟩
       case measure => simp [intOf]; omega
      ·have E : Hid (ne p d = 4) := ne_4 (by omega) (by omega) (.inr (ab_no hil (.inr (by simpa using e2))))
       go_wp2_with fail
       go_ret2
       exact .inl ⟨by rw [E.out]; decide, by rw [E.out]; rfl, rfl⟩
     ·have E : Hid (ne p d = 4) := ne_4 (by omega) (by omega) (.inr (ab_no hil (.inl (by simpa using e1))))
      go_wp2_with fail
      go_ret2
      exact .inl ⟨by rw [E.out]; decide, by rw [E.out]; rfl, rfl⟩
    ·have hil' : ¬ ((i : Int) < (d.length : Int)) := by omega
     have AD : Hid (ab 0 1000 d = true) := ab_nth.2 fun j hj => HE.out j (by omega)
     clear HE
     go_wp2_with fail
     go_ret2
     refine .inr ⟨ne_0 (by omega) (by omega) AP.out AD.out, rfl, ?_, below_alloc _ _⟩
     exact ⟨oa, c, ob, e, 0, 0, p, d, heap_new _ _, ⟨HA.out.below (below_alloc _ _), Nat.zero_le _, rfl, by omega, NA.out⟩, HB.out.below (below_alloc _ _), Nat.zero_le _, rfl, by omega, NB.out⟩
end Pk
end Go.Proofs.YtblfimobiibmjaaGreat
namespace Go.Proofs.YtblfimobiibmjaaGreat
open Go.ChangeShapes Go.WideShapes Go.ChangeAt Go.RowKit
namespace Rlo
open Ba Lo
structure Tq (col col' : Nat → Nat) (w w' : World) : Prop where
 os : w'.os = w.os
 tape : w'.tape = w.tape
 output : w'.output = w.output
 size : w.heap.size ≤ w'.heap.size
 block : ∀ x, x < w.heap.size → 6 ≤ col x → w'.heap[x]? = w.heap[x]?
 old : ∀ x, x < w.heap.size → 6 ≤ col x → col' x = col x
theorem tq_of {K : Nat → Prop} {col col' : Nat → Nat} {w w' : World} (h : Ch K col col' w w') (hk : ∀ c, K c → c < 6) : Tq col col' w w' :=
 ⟨h.os, h.tape, h.output, h.size, fun x hx hc => h.block x hx (fun e => by have := hk _ e; omega), fun x hx _ => h.old x hx⟩
theorem Tq.refl (col : Nat → Nat) (w : World) : Tq col col w w := ⟨rfl, rfl, rfl, Nat.le_refl _, fun _ _ _ => rfl, fun _ _ _ => rfl⟩
theorem Tq.trans {c1 c2 c3 : Nat → Nat} {a b c : World} (h : Tq c1 c2 a b) (k : Tq c2 c3 b c) : Tq c1 c3 a c :=
 ⟨k.os.trans h.os, k.tape.trans h.tape, k.output.trans h.output, Nat.le_trans h.size k.size,
   fun x hx hc => (k.block x (Nat.lt_of_lt_of_le hx h.size) (by rw [h.old x hx hc]; exact hc)).trans (h.block x hx hc),
   fun x hx hc => (k.old x (Nat.lt_of_lt_of_le hx h.size) (by rw [h.old x hx hc]; exact hc)).trans (h.old x hx hc)⟩
theorem Tq.heap {col col' : Nat → Nat} {w w' : World} (h : Tq col col' w w') {x : Nat} {o : Obj} (hx : w.heap[x]? = some o) (hc : col x = 7) : w'.heap[x]? = some o := (h.block x (heap_lt hx) (by omega)).trans hx
structure Hd where
 t : Int
 m : Int
 la : Option Addr
 ln : Nat
 lc : Nat
 da : Option Addr
 dn : Nat
 dc : Nat
def rcs (q : Hd) (pa : Option Addr) (n pc C B : Nat) (oa : Option Addr) (cn oc : Nat) (nm : List Int) (ta : Option Addr) (tn tc : Nat) (pk : Bool) : Array Value :=
 #[.int .i64 q.t, .int .i64 q.m, .slice pa n pc, .slice q.la q.ln q.lc, .slice q.da q.dn q.dc, .pointer (some ⟨C, 0, none⟩), .pointer (some ⟨B, 0, none⟩), .slice oa cn oc, .int .i64 (nth nm 0), .int .i64 (nth nm 1), .int .i64 (nth nm 2), .int .i64 (nth nm 3), .int .i64 (nth nm 4), .int .i64 (nth nm 5), .int .i64 (nth nm 6), .int .i64 (nth nm 7), .slice ta tn tc, .bool pk]
def vw {α : Type} (nm : List Int) (l : List (Option α)) : List (Option α) := nm.map fun n => if n < 0 then none else (l[n.toNat]?).join
structure NI (nm : List Int) (k : Nat) : Prop where
 len : nm.length = 8
 lt : ∀ i, i < 8 → nth nm i < (k : Int)
 ge : ∀ i, i < 8 → -1 ≤ nth nm i
 inj : ∀ i j, i < 8 → j < 8 → 0 ≤ nth nm i → nth nm i = nth nm j → i = j
structure RX (w : World) (col : Nat → Nat) (L N C B : Nat) (FB : Nat → Prop) (q : Hd) (pa : Option Addr) (pc : Nat) (oa : Option Addr) (oc : Nat) (bs : List (Option Nat)) (Fs : Nat → Nat → Prop) (cs : List (Option St)) (ta : Option Addr) (tc : Nat) (s : Lm) : Prop where
 hp : w.heap[L]? = some (.cells (rcs q pa s.ps.length pc C B oa bs.length oc s.nm ta s.tr.length tc s.pk) 114 (0, 0))
 ps : ∃ w0, w0.heap.size ≤ N ∧ Below w0.heap.size w0 w ∧ Sh.PAt w0 pa s.ps
 cu : Pk.RCur w C N s.p s.d
 nc : N ≤ C
 cr : Cr.RC w B FB s.cr
 rw : w.ownsRow 0 200 1 (.slice oa bs.length oc) bs.length (bs.map Pe.pt)
 qs : Fk.Qs Rp.Rr w oa bs Fs cs
 ni : NI s.nm bs.length
 md : s.md = (bs.length : Int)
 vs : s.sts = vw s.nm cs
 tr : w.ownsRow 0 50 8 (.slice ta s.tr.length tc) s.tr.length (ec s.tr)
 c0 : col L = 0
 c1 : col C = 1
 c2 : ∀ x, FB x → col x = 2
 c3 : ∀ g, (Value.slice oa bs.length oc).ownBlock = some g → col g = 3
 c4 : ∀ i x, Fs i x → col x = 4
 c5 : ∀ g, (Value.slice ta s.tr.length tc).ownBlock = some g → col g = 5
 c6 : ∀ x, x < N → col x = 6
def RW (w : World) (col : Nat → Nat) (L N : Nat) (s : Lm) : Prop := ∃ C B FB q pa pc oa oc bs Fs cs ta tc, RX w col L N C B FB q pa pc oa oc bs Fs cs ta tc s
theorem rcur_keep {w w' : World} {R N : Nat} {p d : List Int} (h : Pk.RCur w R N p d) (h1 : w'.heap[R]? = w.heap[R]?) (h2 : ∀ x, x < N → x < w.heap.size → w'.heap[x]? = w.heap[x]?) : Pk.RCur w' R N p d := by
 have ak : ∀ {oa : Option Addr} {l : List Int}, At w oa l → (0 < l.length → ∀ a, oa = some a → a.block < N) → At w' oa l := by
  intro oa l h hn j hj
  obtain ⟨b, off, rfl, hc⟩ := h j hj
  refine ⟨b, off, rfl, ?_⟩
  have := h2 b (hn (by omega) _ rfl) (World.block_lt_of_cell? w _ hc)
  rw [← hc]
  simp only [World.cell?, this]
 obtain ⟨oa, ca, ob, cb, P, D, p0, d0, q0, ⟨q1, q2, q3, q4, q5⟩, q6, q7, q8, q9, q10⟩ := h
 exact ⟨oa, ca, ob, cb, P, D, p0, d0, h1.trans q0, ⟨ak q1 q5, q2, q3, q4, q5⟩, ak q6 q10, q7, q8, q9, q10⟩
theorem rcur_lt {w : World} {R N : Nat} {p d : List Int} (h : Pk.RCur w R N p d) : R < w.heap.size := by
 obtain ⟨oa, ca, ob, cb, P, D, p0, d0, q0, _⟩ := h
 exact heap_lt q0
section
variable {w w' : World} {col col' : Nat → Nat} {L N C B : Nat} {FB : Nat → Prop} {q : Hd} {pa : Option Addr} {pc : Nat} {oa : Option Addr} {oc : Nat} {bs : List (Option Nat)} {Fs : Nat → Nat → Prop} {cs : List (Option St)} {ta : Option Addr} {tc : Nat} {s : Lm} {K : Nat → Prop}
theorem RX.lw (h : RX w col L N C B FB q pa pc oa oc bs Fs cs ta tc s) : RW w col L N s := ⟨C, B, FB, q, pa, pc, oa, oc, bs, Fs, cs, ta, tc, h⟩
theorem RX.lt (h : RX w col L N C B FB q pa pc oa oc bs Fs cs ta tc s) : L < w.heap.size := heap_lt h.hp
theorem RX.blk {g : Nat} (h : RX w col L N C B FB q pa pc oa oc bs Fs cs ta tc s) (e : (Value.slice oa bs.length oc).ownBlock = some g) : g < w.heap.size := by
 obtain ⟨_, cur, hc⟩ := Cr.own_blk h.rw g e
 exact heap_lt hc
theorem RX.blt {g : Nat} (h : RX w col L N C B FB q pa pc oa oc bs Fs cs ta tc s) (e : (Value.slice ta s.tr.length tc).ownBlock = some g) : g < w.heap.size := by
 obtain ⟨_, cur, hc⟩ := Cr.own_blk h.tr g e
 exact heap_lt hc
theorem RX.keepHp (h : RX w col L N C B FB q pa pc oa oc bs Fs cs ta tc s) (c : Ch K col col' w w') (hk : ¬ K 0) : w'.heap[L]? = some (.cells (rcs q pa s.ps.length pc C B oa bs.length oc s.nm ta s.tr.length tc s.pk) 114 (0, 0)) :=
 (c.block L h.lt (by rw [h.c0]; exact hk)).trans h.hp
theorem RX.keepPs (h : RX w col L N C B FB q pa pc oa oc bs Fs cs ta tc s) (c : Ch K col col' w w') (hk : ¬ K 6) : ∃ w0, w0.heap.size ≤ N ∧ Below w0.heap.size w0 w' ∧ Sh.PAt w0 pa s.ps := by
 obtain ⟨w0, h0, b0, p0⟩ := h.ps
 refine ⟨w0, h0, ⟨c.os.trans b0.os, c.tape.trans b0.tape, c.output.trans b0.output, Nat.le_trans b0.size c.size, fun x hx => ?_⟩, p0⟩
 exact (c.block x (Nat.lt_of_lt_of_le hx b0.size) (by rw [h.c6 x (Nat.lt_of_lt_of_le hx h0)]; exact hk)).trans (b0.block x hx)
theorem RX.keepCu (h : RX w col L N C B FB q pa pc oa oc bs Fs cs ta tc s) (c : Ch K col col' w w') (hk : ¬ K 1) (h6 : ¬ K 6) : Pk.RCur w' C N s.p s.d :=
 rcur_keep h.cu (c.block C (rcur_lt h.cu) (by rw [h.c1]; exact hk)) (fun x hx hl => c.block x hl (by rw [h.c6 x hx]; exact h6))
theorem RX.keepCr (h : RX w col L N C B FB q pa pc oa oc bs Fs cs ta tc s) (c : Ch K col col' w w') (hk : ¬ K 2) : Cr.RC w' B FB s.cr := by
 obtain ⟨oa, cc, hw⟩ := h.cr
 exact ⟨oa, cc, hw.sm fun x hx => c.block x (hw.bd x hx) (by rw [h.c2 x hx]; exact hk)⟩
theorem RX.keepRw (h : RX w col L N C B FB q pa pc oa oc bs Fs cs ta tc s) (c : Ch K col col' w w') (hk : ¬ K 3) : w'.ownsRow 0 200 1 (.slice oa bs.length oc) bs.length (bs.map Pe.pt) :=
 Cr.own_keep h.rw fun g e => c.block g (h.blk e) (by rw [h.c3 g e]; exact hk)
theorem own_row {e : TypeId} {base : Nat} (h : w.ownsRow base e 1 (.slice oa bs.length oc) bs.length (bs.map Pe.pt)) : Fk.PR w oa bs ∧ ∀ a, oa = some a → (Value.slice oa bs.length oc).ownBlock = some a.block := by
 rcases h.2 with ⟨e0, h0⟩ | ⟨g, cap, cur, e0, hbase, hg, hc, _, hcs, htk⟩
 ·obtain rfl := List.eq_nil_of_length_eq_zero h0
  cases e0
  exact ⟨fun i o hi => by simp at hi, fun a e => by cases e⟩
 ·cases e0
  refine ⟨fun k o hk => ?_, fun a e => by cases e; rfl⟩
  have hkl := (List.getElem?_eq_some_iff.1 hk).1
  refine ⟨g, 0, rfl, ?_⟩
  have q : (bs.map Pe.pt)[k]? = some (Pe.pt o) := by simp [hk]
  rw [← htk, List.getElem?_take_of_lt (by omega)] at q
  rw [Nat.zero_add, cell_of hg]
  simpa using q
theorem RX.keepQs (h : RX w col L N C B FB q pa pc oa oc bs Fs cs ta tc s) (c : Ch K col col' w w') (hk : ¬ K 4) (h3 : ¬ K 3) : Fk.Qs Rp.Rr w' oa bs Fs cs :=
 h.qs.keep Fk.frR (fun i x hx => c.block x (h.qs.bd i x hx) (by rw [h.c4 i x hx]; exact hk)) (fun a e hl => c.block _ hl (by rw [h.c3 _ ((own_row h.rw).2 a e)]; exact h3))
theorem RX.keepTr (h : RX w col L N C B FB q pa pc oa oc bs Fs cs ta tc s) (c : Ch K col col' w w') (hk : ¬ K 5) : w'.ownsRow 0 50 8 (.slice ta s.tr.length tc) s.tr.length (ec s.tr) :=
 Cr.own_keep h.tr fun g e => c.block g (h.blt e) (by rw [h.c5 g e]; exact hk)
theorem RX.k0 (h : RX w col L N C B FB q pa pc oa oc bs Fs cs ta tc s) (c : Ch K col col' w w') : col' L = 0 := (c.old L h.lt).trans h.c0
theorem RX.k1 (h : RX w col L N C B FB q pa pc oa oc bs Fs cs ta tc s) (c : Ch K col col' w w') : col' C = 1 := (c.old C (rcur_lt h.cu)).trans h.c1
theorem RX.k2 (h : RX w col L N C B FB q pa pc oa oc bs Fs cs ta tc s) (c : Ch K col col' w w') : ∀ x, FB x → col' x = 2 := fun x hx => (c.old x (h.cr.bd x hx)).trans (h.c2 x hx)
theorem RX.k3 (h : RX w col L N C B FB q pa pc oa oc bs Fs cs ta tc s) (c : Ch K col col' w w') : ∀ g, (Value.slice oa bs.length oc).ownBlock = some g → col' g = 3 := fun g e => (c.old g (h.blk e)).trans (h.c3 g e)
theorem RX.k4 (h : RX w col L N C B FB q pa pc oa oc bs Fs cs ta tc s) (c : Ch K col col' w w') : ∀ i x, Fs i x → col' x = 4 := fun i x hx => (c.old x (h.qs.bd i x hx)).trans (h.c4 i x hx)
theorem RX.k5 (h : RX w col L N C B FB q pa pc oa oc bs Fs cs ta tc s) (c : Ch K col col' w w') : ∀ g, (Value.slice ta s.tr.length tc).ownBlock = some g → col' g = 5 := fun g e => (c.old g (h.blt e)).trans (h.c5 g e)
theorem RX.k6 (h : RX w col L N C B FB q pa pc oa oc bs Fs cs ta tc s) (c : Ch K col col' w w') : ∀ x, x < N → col' x = 6 := fun x hx => (c.old x (by have := rcur_lt h.cu; have := h.nc; omega)).trans (h.c6 x hx)
theorem RX.keep (h : RX w col L N C B FB q pa pc oa oc bs Fs cs ta tc s) (c : Ch (fun c => c = 7) col col' w w') : RX w' col' L N C B FB q pa pc oa oc bs Fs cs ta tc s :=
 ⟨h.keepHp c (by simp), h.keepPs c (by simp), h.keepCu c (by simp) (by simp), h.nc, h.keepCr c (by simp), h.keepRw c (by simp), h.keepQs c (by simp) (by simp), h.ni, h.md, h.vs, h.keepTr c (by simp), h.k0 c, h.k1 c, h.k2 c, h.k3 c, h.k4 c, h.k5 c, h.k6 c⟩
theorem RX.below (h : RX w col L N C B FB q pa pc oa oc bs Fs cs ta tc s) (hb : Below w.heap.size w w') : ∃ col', RX w' col' L N C B FB q pa pc oa oc bs Fs cs ta tc s ∧ Tq col col' w w' ∧ ∀ x, w.heap.size ≤ x → col' x = 7 := by
 obtain ⟨col', o, _, n⟩ := ext_ex w col (fun _ => False) 7
 exact ⟨col', h.keep (ch_below _ hb o), tq_of (ch_below (fun _ => False) hb o) (fun _ e => e.elim), fun x hx => n x hx (fun h => h)⟩
theorem RX.drew (h : RX w col L N C B FB q pa pc oa oc bs Fs cs ta tc s) : RX w.drew col L N C B FB q pa pc oa oc bs Fs cs ta tc s := h.keep (ch_below _ (bdrew1 w) (fun _ _ => rfl))
theorem RX.crew {l : List Mb} (h : RX w col L N C B FB q pa pc oa oc bs Fs cs ta tc s) (p : Cr.Po 158 199 w w' B FB l) : ∃ FB' col', RX w' col' L N C B FB' q pa pc oa oc bs Fs cs ta tc { s with cr := l } ∧ Tq col col' w w' := by
 obtain ⟨F', p, kf, nw⟩ := p
 obtain ⟨col', o, n, _⟩ := ext_ex w col F' 2
 have c : Ch (fun c => c = 2) col col' w w' := ⟨kf.os, kf.tape, kf.output, kf.size, fun x hx hc => kf.block x hx (fun e => hc (h.c2 x e)), o⟩
 refine ⟨F', col', ⟨h.keepHp c (by simp), h.keepPs c (by simp), h.keepCu c (by simp) (by simp), h.nc, p, h.keepRw c (by simp), h.keepQs c (by simp) (by simp), h.ni, h.md, h.vs, h.keepTr c (by simp), h.k0 c, h.k1 c, fun x hx => ?_, h.k3 c, h.k4 c, h.k5 c, h.k6 c⟩, tq_of c (fun _ (e : _ = _) => by omega)⟩
 rcases Nat.lt_or_ge x w.heap.size with e | e
 ·rcases nw x hx with z | z
  ·exact h.k2 c x z
  ·omega
 ·exact n x e hx
theorem RX.cursor {p d : List Int} (h : RX w col L N C B FB q pa pc oa oc bs Fs cs ta tc s) (r : Pk.RCur w' C N p d) (kb : KB C w w') : ∃ col', RX w' col' L N C B FB q pa pc oa oc bs Fs cs ta tc { s with p := p, d := d } ∧ Tq col col' w w' := by
 obtain ⟨col', o, _, _⟩ := ext_ex w col (fun _ => False) 7
 have c : Ch (fun c => c = 1) col col' w w' := ⟨kb.os, kb.tape, kb.output, kb.size, fun x hx hc => kb.block x hx (fun e => hc (by rw [e]; exact h.c1)), o⟩
 exact ⟨col', ⟨h.keepHp c (by simp), h.keepPs c (by simp), r, h.nc, h.keepCr c (by simp), h.keepRw c (by simp), h.keepQs c (by simp) (by simp), h.ni, h.md, h.vs, h.keepTr c (by simp), h.k0 c, h.k1 c, h.k2 c, h.k3 c, h.k4 c, h.k5 c, h.k6 c⟩, tq_of c (fun _ (e : _ = _) => by omega)⟩
end
end Rlo
end Go.Proofs.YtblfimobiibmjaaGreat
namespace Go.Proofs.YtblfimobiibmjaaGreat
open Go.ChangeShapes Go.WideShapes Go.ChangeAt Go.RowKit
namespace Rlo
open Ba Lo
def fi (nm : List Int) (j : Nat) : Option Nat := (List.range 8).find? fun i => nth nm i == (j : Int)
def cb (nm : List Int) (sts cs : List (Option St)) : List (Option St) := (List.range cs.length).map fun j => match fi nm j with
 | some i => (sts[i]?).join
 | none => (cs[j]?).join
section
variable {w w' u : World} {col col' : Nat → Nat} {L N C B : Nat} {FB : Nat → Prop} {q : Hd} {pa : Option Addr} {pc : Nat} {oa : Option Addr} {oc : Nat} {bs : List (Option Nat)} {Fs : Nat → Nat → Prop} {cs : List (Option St)} {ta : Option Addr} {tc : Nat} {s : Lm} {K : Nat → Prop}
theorem RX.told {w2 : World} {ta' : Option Addr} {n' tc' : Nat} {e : Ev} (h : RX w col L N C B FB q pa pc oa oc bs Fs cs ta tc s) (b1 : Below w.heap.size w u) (hn : n' = s.tr.length + 1)
 (ho : w2.ownsRow 0 50 8 (.slice ta' n' tc') n' (ec (s.tr ++ [e]))) (hg : u.grownBy w2 (Value.slice ta s.tr.length tc).ownBlock)
 (hat : (Value.slice ta' n' tc').ownBlock = (Value.slice ta s.tr.length tc).ownBlock ∨ (Value.slice ta' n' tc').ownBlock = some u.heap.size) :
 ∃ col', RX (w2.setCell ⟨L, 16, none⟩ (.slice ta' n' tc')) col' L N C B FB q pa pc oa oc bs Fs cs ta' tc' (tellS s e) ∧ Tq col col' w (w2.setCell ⟨L, 16, none⟩ (.slice ta' n' tc')) := by
 obtain ⟨col', o, nn, _⟩ := ext_ex w col (fun x => (Value.slice ta' n' tc').ownBlock = some x) 5
 have sz : (w2.setCell ⟨L, 16, none⟩ (.slice ta' n' tc')).heap.size = w2.heap.size := by simp [World.setCell]
 have c : Ch (fun c => c = 0 ∨ c = 5) col col' w (w2.setCell ⟨L, 16, none⟩ (.slice ta' n' tc')) := by
  refine ⟨hg.os.trans b1.os, hg.tape.trans b1.tape, hg.output.trans b1.output, by rw [sz]; exact Nat.le_trans b1.size hg.size, fun x hx hc => ?_, o⟩
  refine ((KB.refl L w2).setCell 16 _).block x (Nat.lt_of_lt_of_le hx (Nat.le_trans b1.size hg.size)) (fun e => hc (by rw [e, h.c0]; exact .inl rfl)) |>.trans ?_
  exact (hg.block x (Nat.lt_of_lt_of_le hx b1.size) (fun e => hc (.inr (h.c5 x e.symm)))).trans (b1.block x hx)
 have hL : w2.heap[L]? = some (.cells (rcs q pa s.ps.length pc C B oa bs.length oc s.nm ta s.tr.length tc s.pk) 114 (0, 0)) :=
  (hg.block L (Nat.lt_of_lt_of_le h.lt b1.size) (fun e => by have := h.c5 L e.symm; rw [h.c0] at this; omega)).trans ((b1.block L h.lt).trans h.hp)
 have hl : (tellS s e).tr.length = n' := by rw [hn]; simp [tellS]
 have own' : (w2.setCell ⟨L, 16, none⟩ (.slice ta' n' tc')).ownsRow 0 50 8 (.slice ta' (tellS s e).tr.length tc') (tellS s e).tr.length (ec (tellS s e).tr) := by
  rw [hl]
  refine Cr.own_keep ho fun g e => ((KB.refl L w2).setCell 16 _).block g (by obtain ⟨_, cur, hc⟩ := Cr.own_blk ho g e; exact heap_lt hc) (fun e2 => ?_)
  obtain ⟨_, cur, hc⟩ := Cr.own_blk ho g e
  rw [e2, hL] at hc
  cases hc
 refine ⟨col', ⟨?_, h.keepPs c (by simp), h.keepCu c (by simp) (by simp), h.nc, h.keepCr c (by simp), h.keepRw c (by simp), h.keepQs c (by simp) (by simp), h.ni, h.md, h.vs, own', h.k0 c, h.k1 c, h.k2 c, h.k3 c, h.k4 c, fun g e => ?_, h.k6 c⟩, tq_of c (fun c e => by rcases e with e | e <;> omega)⟩
 ·rw [Ba.heap_setCell_same hL]
  rw [hl]
  rfl
 ·rw [hl] at e
  rcases Nat.lt_or_ge g w.heap.size with q | q
  ·rcases hat with z | z
   ·rw [z] at e
    exact h.k5 c g e
   ·rw [z] at e
    cases e
    have := b1.size
    omega
  ·exact nn g q e
end
end Rlo
end Go.Proofs.YtblfimobiibmjaaGreat
namespace Go.Proofs.YtblfimobiibmjaaGreat
open Go.ChangeShapes Go.WideShapes Go.ChangeAt Go.RowKit
namespace Rlo
open Ba Lo
theorem RW.below {w w' : World} {col : Nat → Nat} {L N : Nat} {s : Lm} (h : RW w col L N s) (hb : Below w.heap.size w w') : ∃ col', RW w' col' L N s ∧ Tq col col' w w' ∧ ∀ x, w.heap.size ≤ x → col' x = 7 := by
 obtain ⟨C, B, FB, q, pa, pc, oa, oc, bs, Fs, cs, ta, tc, h⟩ := h
 obtain ⟨col', hx, ht, hn⟩ := h.below hb
 exact ⟨col', hx.lw, ht, hn⟩
theorem Tq.drew {col col' : Nat → Nat} {w w' : World} (h : Tq col col' w w') : Tq col col' w w'.drew := h.trans (tq_of (ch_below (fun _ => False) (bdrew1 w') (fun _ _ => rfl)) (fun _ e => e.elim))
theorem bare_r (k g : Int) (w : World) : Calls Tryz.prog 105 #[.int .i64 k, .int .i64 g] w fun r w' => r = .returned (En.evv (bareE k g)) ∧ Below w.heap.size w w' := by
 unfold En.evv En.evc bareE
 go_enter Tryz.func105, Tryz.ntmps105
 go_wp2_with fail
 exact bodyPost_ret (En.results_row1 Tryz.results105 _ _ _ _ rfl (En.loadVar_ev (heap_new _ _) rfl)) rfl ⟨rfl, below_alloc _ _⟩
end Rlo
end Go.Proofs.YtblfimobiibmjaaGreat
namespace Go.Proofs.YtblfimobiibmjaaGreat
open Go.ChangeShapes Go.WideShapes Go.ChangeAt Go.RowKit
namespace Fk
open Ba Pe _root_.Go.Proofs.YtblfimobiibmjaaGreat.Pi Rp
end Fk
end Go.Proofs.YtblfimobiibmjaaGreat
namespace Go.Proofs.YtblfimobiibmjaaGreat
open Go.ChangeShapes Go.WideShapes Go.ChangeAt Go.RowKit
namespace Lo
open Ba
section
variable {w : World} {col : Nat → Nat} {L N C B X : Nat} {FB : Nat → Prop} {pa : Option Addr} {pc : Nat} {bs : List (Option Nat)} {Fs : Nat → Nat → Prop} {ta : Option Addr} {tc : Nat} {s : Lm}
end
section
variable {w w1 : World} {col : Nat → Nat} {L N C B X : Nat} {FB : Nat → Prop} {pa : Option Addr} {pc : Nat} {bs : List (Option Nat)} {Fs : Nat → Nat → Prop} {ta : Option Addr} {tc : Nat} {s : Lm}
theorem eight {l : List Int} (h : l.length = 8) : ∃ a0 a1 a2 a3 a4 a5 a6 a7, l = [a0, a1, a2, a3, a4, a5, a6, a7] := by
 match l, h with
 | [a0, a1, a2, a3, a4, a5, a6, a7], _ => exact ⟨a0, a1, a2, a3, a4, a5, a6, a7, rfl⟩
end
end Lo
end Go.Proofs.YtblfimobiibmjaaGreat
namespace Go.Proofs.YtblfimobiibmjaaGreat
open Go.ChangeShapes Go.WideShapes Go.ChangeAt Go.RowKit
namespace Lo
open Ba
end Lo
end Go.Proofs.YtblfimobiibmjaaGreat
namespace Go.Proofs.YtblfimobiibmjaaGreat
open Go.ChangeShapes Go.WideShapes Go.ChangeAt Go.RowKit
namespace Lo
open Ba
theorem kset1 {w : World} {b i z : Nat} {v : Value} (h : w.cell? ⟨b, i, none⟩ = some v) (hn : b ≠ z) {i1 : Nat} {u1 : Value} : (w.setCell ⟨z, i1, none⟩ u1).cell? ⟨b, i, none⟩ = some v := by
 have K := (KB.refl z w).setCell i1 u1
 rw [← h]
 have := K.block b (World.block_lt_of_cell? w _ h) hn
 simp only [World.cell?, this]
structure Ok (K : Nat) (s : Lm) : Prop where
 cb : Cr.Bn K s.cr
 tn : s.tr.length ≤ K
 sm : Fk.Sml s.sts
 wl : ∀ (i : Nat) (st : St), s.sts[i]? = some (some st) → ∀ b, (_root_.Go.Proofs.YtblfimobiibmjaaGreat.Pi.own st b).length ≤ 1000
 md : 0 ≤ s.md ∧ s.md ≤ 1000
 dd : ∀ x ∈ s.d, 0 ≤ x
end Lo
end Go.Proofs.YtblfimobiibmjaaGreat
