import Derived.Test.YtddchcekljndmaaGreatZjLr5
import Derived.Deep.RegionHeld3
import Derived.LaidEqlPtr
import Derived.Lib.AppendZeros
import Derived.Deep.RegionWith
/- Package fork: gather, Ready, over this seat's program. -/
namespace Go.Proofs.YtddchcekljndmaaGreat
open Go.ChangeShapes Go.WideShapes Go.ChangeAt Go.RowKit
namespace Fk
open Ba Pe _root_.Go.Proofs.YtddchcekljndmaaGreat.Pi Rp

/-- the places below n that are so -/
def ps (P : Nat → Bool) (n : Nat) : List Int := ((List.range n).filter P).map fun (i : Nat) => (i : Int)
theorem ps_succ (P : Nat → Bool) (n : Nat) : ps P (n + 1) = if P n = true then ps P n ++ [(n : Int)] else ps P n := by
  unfold ps
  rw [List.range_succ, List.filter_append]
  cases h : P n <;> simp [h]
theorem ps_len (P : Nat → Bool) (n : Nat) : (ps P n).length ≤ n := by
  unfold ps
  rw [List.length_map]
  have := List.length_filter_le P (List.range n)
  rw [List.length_range] at this
  exact this
set_option maxRecDepth 100000 in
set_option maxHeartbeats 3200000 in
theorem gather_r (P : Nat → Bool) (oc : Option Addr) (l : List Ca) (cc : Nat) (oa : Option Addr) (bs : List (Option Nat)) (cp : Nat) (w : World) (hC : CaAt w oc l) (hR : PR w oa bs) (hl : l.length ≤ 1000)
    (CL : ∀ (i : Nat) (c : Ca) (u : World), l[i]? = some c → Below w.heap.size w u → Calls Tryz.prog 127 #[cv c, pt (nmB bs c.ch)] u fun r w' => r = .returned (.bool (P i)) ∧ Below u.heap.size u w') :
    Calls Tryz.prog 126 #[.slice oc l.length cc, .slice oa bs.length cp, .func (.func 127) #[] #[]] w fun r w' => ∃ ob d, r = .returned (.slice ob (ps P l.length).length d) ∧ w'.ownsRow w.heap.size 3 1 (.slice ob (ps P l.length).length d) (ps P l.length).length (ic (ps P l.length)) ∧ Below w.heap.size w w' := by
  cases hi : Tryz.prog.info? 3 with
  | none => have := info_i; rw [hi] at this; cases this
  | some i0 =>
  have hx2 := info_i
  rw [hi] at hx2
  simp at hx2
  have INF := hide (And.intro hi hx2)
  clear hx2 hi
  have HC := hide hC
  have HR := hide hR
  have HL := hide CL
  clear hC hR CL
  go_enter Tryz.func126, Tryz.ntmps126
  go_wp2_with fail
  go_loopw [7, 12] (fun rv i wr => ∃ (v : Value) (k : Nat), k ≤ l.length ∧ i = .int .i64 k ∧ rv = v ∧ wr.ownsRow w.heap.size 3 1 v (ps P k).length (ic (ps P k)) ∧ Below w.heap.size w wr) (fun _ i _ => l.length - (intOf i).toNat)
  case atStart => exact ⟨_, 0, Nat.zero_le _, rfl, rfl, World.ownsRow_nil _ _ _ _, Below.refl _ _⟩
  case round =>
    obtain ⟨v, k, hk, rfl, rfl, ho, hb⟩ := hrel
    by_cases hlt : k < l.length
    · have hlt' : (k : Int) < (l.length : Int) := by omega
      obtain ⟨x, hx⟩ : ∃ x, l[k]? = some x := ⟨_, List.getElem?_eq_getElem hlt⟩
      obtain ⟨b, off, rfl, q0, q1, q2⟩ := HC.out.below hb k x hx
      have SU := hide (ps_succ P k)
      have hpl := ps_len P k
      have BX := below_alloc wr (.cells #[.bool x.sd, .int .i64 x.ch, .int .i64 x.v] 92)
      have XN := hide (heap_new wr (.cells #[.bool x.sd, .int .i64 x.ch, .int .i64 x.v] 92))
      have HB := hide (btr hb BX)
      have OW := hide (own_below ho BX)
      have NM := hide (named_any oa bs x.ch cp ((wr.alloc (.cells #[.bool x.sd, .int .i64 x.ch, .int .i64 x.v] 92)).drew) (HR.out.below (btr HB.out (bdrew1 _))))
      have CLK := hide fun u hu => HL.out k x u hx hu
      unfold cv pt at CLK
      unfold pt at NM
      generalize (nmB bs x.ch).map (fun b => (⟨b, 0, none⟩ : Addr)) = pp at NM CLK
      clear hb hx BX ho
      obtain ⟨X, hX⟩ : ∃ X, X = ps P k := ⟨_, rfl⟩
      rw [← hX] at SU hpl OW
      clear hX
      go_wp2_with fail
      have e0 : (wr.alloc (.cells #[.bool x.sd, .int .i64 x.ch, .int .i64 x.v] 92)).cell? ⟨wr.heap.size, 0, none⟩ = some (.bool x.sd) := cell_of XN.out 0
      have e1 : (wr.alloc (.cells #[.bool x.sd, .int .i64 x.ch, .int .i64 x.v] 92)).cell? ⟨wr.heap.size, 1, none⟩ = some (.int .i64 x.ch) := cell_of XN.out 1
      have e2 : (wr.alloc (.cells #[.bool x.sd, .int .i64 x.ch, .int .i64 x.v] 92)).cell? ⟨wr.heap.size, 2, none⟩ = some (.int .i64 x.v) := cell_of XN.out 2
      generalize wr.alloc (.cells #[.bool x.sd, .int .i64 x.ch, .int .i64 x.v] 92) = W1 at XN HB OW NM e0 e1 e2 ⊢
      generalize wr.heap.size = A at XN e0 e1 e2 ⊢
      go_region_held3 (fun w' => w'.cell? ⟨A, 0, none⟩ = some (.bool x.sd) ∧ w'.cell? ⟨A, 1, none⟩ = some (.int .i64 x.ch) ∧ w'.cell? ⟨A, 2, none⟩ = some (.int .i64 x.v))
        (first
          | go_keep
          | (go_split_ands
             refine ⟨?_, ?_, ?_⟩ <;> (refine cellB ?_ k2; assumption)))
        (first
          | (go_at_call 131; refine NM.out.mono ?_; rintro r z1 ⟨rfl, rfl⟩)
          | (go_at_call 127; refine (CLK.out _ (btr HB.out (bdrew1 _))).mono ?_; rintro r z2 ⟨rfl, k2⟩))
      have HB2 := hide (btr HB.out (btr (bdrew1 _) k2))
      have OW2 := hide (own_below OW.out (btr (bdrew1 _) k2))
      clear k2 HB OW NM CLK e0 e1 e2 XN
      cases hP : P k
      · have EX : Hid (ps P (k + 1) = X) := by show _ = _; rw [SU.out, hP]; simp
        have O3 : Hid (z2.ownsRow w.heap.size 3 1 u7 (ps P (k + 1)).length (ic (ps P (k + 1)))) := by
          show World.ownsRow _ _ _ _ _ _ _
          rw [EX.out]
          exact OW2.out
        go_wp2_with fail
        go_roundw
        case rel =>
          first
            | exact ⟨_, k + 1, by omega, by go_num, rfl, O3.out, HB2.out⟩
            | exact ⟨k + 1, by omega, by go_num, O3.out, HB2.out⟩
        case measure => simp [intOf]; omega
      · have EX : Hid (ps P (k + 1) = X ++ [(k : Int)]) := by show _ = _; rw [SU.out, hP]; simp
        have BY := below_alloc z2 (.cells #[.int .i64 (k : Int)] 3)
        have OW3 := hide (own_below OW2.out BY)
        have HB3 := hide (btr HB2.out BY)
        have SRC := hide (cell_one_new z2 (.int .i64 (k : Int)) 3)
        clear BY OW2 HB2
        go_wp2_with (at_builtin; refine wpList_append_own _ rfl _ _ 23 rfl w.heap.size 3 i0 (.int .i64 0) 1 8 Tryz.underlying23 INF.out.1 INF.out.2.1 INF.out.2.2.1 INF.out.2.2.2 rfl (by decide) _ _ _ rfl OW3.out ⟨z2.heap.size, 0, none⟩ 1 1 [.int .i64 (k : Int)] rfl rfl ?c1 ?c2 ?c3 ?c4 ?c5 ?_)
        case c1 => exact SRC.out
        case c2 => exact ic_one [(k : Int)]
        case c3 => unfold maxLen; omega
        case c4 => omega
        case c5 => exact HB3.out.size
        intro v' w3 ho hg3 _
        have B3 : Hid (Below w.heap.size w w3) := HB3.out.grown hg3 HB3.out.size (fun x hx => (OW3.out.lt x hx).1)
        have O3 : Hid (w3.ownsRow w.heap.size 3 1 v' (ps P (k + 1)).length (ic (ps P (k + 1)))) := by
          show World.ownsRow _ _ _ _ _ _ _
          rw [EX.out, ic_app, List.length_append]
          exact ho
        clear ho hg3
        go_wp2_with fail
        go_roundw
        case rel =>
          first
            | exact ⟨v', k + 1, by omega, by go_num, rfl, O3.out, B3.out⟩
            | ((repeat apply Exists.intro); exact ⟨⟨v', k + 1, by omega, by go_num, rfl, O3.out, B3.out⟩, rfl⟩)
        case measure => simp [intOf]; omega
    · have hlt' : ¬ ((k : Int) < (l.length : Int)) := by omega
      obtain rfl : k = l.length := by omega
      obtain ⟨oa', c', hv', _, _⟩ := own_at ho
      subst hv'
      have HO := hide ho
      have HB := hide hb
      clear ho hb
      go_wp2_with fail
      go_ret
      exact ⟨oa', c', rfl, HO.out, HB.out⟩
/-- is the case ready? -/
def crdy (sts : List (Option St)) (c : Ca) : Bool := match nmB sts c.ch with | none => false | some st => rdy st c.sd
/-- the places of all ready cases -/
def rdyL (l : List Ca) (sts : List (Option St)) : List Int := ps (fun i => match l[i]? with | none => false | some c => crdy sts c) l.length
theorem ready1_any (c : Ca) (o : Option Nat) (sts : List (Option St)) (oa : Option Addr) (bs : List (Option Nat)) (Fs : Nat → Nat → Prop) (w : World) (h : Qs Pp w oa bs Fs sts) (ho : o = nmB bs c.ch) :
    Calls Tryz.prog 127 #[cv c, pt o] w fun r w' => r = .returned (.bool (crdy sts c)) ∧ Below w.heap.size w w' := by
  subst ho
  have BA := hide (below_alloc w (.cells #[.bool c.sd, .int .i64 c.ch, .int .i64 c.v] 92))
  unfold cv crdy
  rcases h.nm c.ch with ⟨e1, e2⟩ | ⟨B, st, e1, e2, _, _, _, _, q⟩
  · rw [e1, e2]
    simp only [pt, Option.map_none]
    clear h
    go_enter Tryz.func127, Tryz.ntmps127
    go_wp2_with fail
    refine (Ready_nil c.sd _).mono ?_
    rintro r w2 ⟨rfl, b2⟩
    have B2 := hide (btr BA.out b2)
    clear b2
    go_wp2_with fail
    go_ret
    exact ⟨rfl, B2.out⟩
  · rw [e1, e2]
    have RD := hide (Ready_any B _ st c.sd _ (q.below BA.out))
    simp only [pt, Option.map_some]
    clear h q
    go_enter Tryz.func127, Tryz.ntmps127
    go_wp2_with fail
    refine RD.out.mono ?_
    rintro r w2 ⟨rfl, b2⟩
    have B2 := hide (btr BA.out b2)
    clear b2
    go_wp2_with fail
    go_ret
    exact ⟨rfl, B2.out⟩
theorem fready_any (oc : Option Addr) (l : List Ca) (cc : Nat) (oa : Option Addr) (bs : List (Option Nat)) (cp : Nat) (Fs : Nat → Nat → Prop) (sts : List (Option St)) (w : World) (hC : CaAt w oc l) (h : Qs Pp w oa bs Fs sts) (hl : l.length ≤ 1000) :
    Calls Tryz.prog 101 #[.slice oc l.length cc, .slice oa bs.length cp] w fun r w' => ∃ ob d, r = .returned (.slice ob (rdyL l sts).length d) ∧ w'.ownsRow w.heap.size 3 1 (.slice ob (rdyL l sts).length d) (rdyL l sts).length (ic (rdyL l sts)) ∧ Below w.heap.size w w' := by
  have GA := hide (gather_r (fun i => match l[i]? with | none => false | some c => crdy sts c) oc l cc oa bs cp w hC h.row hl (fun i c u hi hu => by
    simp only [hi]
    exact ready1_any c _ sts oa bs Fs u (h.below frP hu) rfl))
  clear hC h
  unfold rdyL
  generalize ps (fun i => match l[i]? with | none => false | some c => crdy sts c) l.length = R at GA ⊢
  go_enter Tryz.func101, Tryz.ntmps101
  go_wp2_with fail
  refine GA.out.mono ?_
  rintro r w1 ⟨ob, d, rfl, o1, b1⟩
  have O1 := hide o1
  have B1 := hide b1
  clear o1 b1
  go_wp2_with fail
  go_ret
  exact ⟨ob, d, rfl, O1.out, B1.out⟩
end Fk
end Go.Proofs.YtddchcekljndmaaGreat
/- Package fork: gather, for Park, over this seat's program. -/
namespace Go.Proofs.YtddchcekljndmaaGreat
open Go.ChangeShapes Go.WideShapes Go.ChangeAt Go.RowKit
namespace Fk
open Ba Pe _root_.Go.Proofs.YtddchcekljndmaaGreat.Pi Rp

set_option maxRecDepth 100000 in
set_option maxHeartbeats 3200000 in
theorem gather_p (P : Nat → Bool) (oc : Option Addr) (l : List Ca) (cc : Nat) (oa : Option Addr) (bs : List (Option Nat)) (cp : Nat) (w : World) (hC : CaAt w oc l) (hR : PR w oa bs) (hl : l.length ≤ 1000)
    (CL : ∀ (i : Nat) (c : Ca) (u : World), l[i]? = some c → Below w.heap.size w u → Calls Tryz.prog 129 #[cv c, pt (nmB bs c.ch)] u fun r w' => r = .returned (.bool (P i)) ∧ Below u.heap.size u w') :
    Calls Tryz.prog 126 #[.slice oc l.length cc, .slice oa bs.length cp, .func (.func 129) #[] #[]] w fun r w' => ∃ ob d, r = .returned (.slice ob (ps P l.length).length d) ∧ w'.ownsRow w.heap.size 3 1 (.slice ob (ps P l.length).length d) (ps P l.length).length (ic (ps P l.length)) ∧ Below w.heap.size w w' := by
  cases hi : Tryz.prog.info? 3 with
  | none => have := info_i; rw [hi] at this; cases this
  | some i0 =>
  have hx2 := info_i
  rw [hi] at hx2
  simp at hx2
  have INF := hide (And.intro hi hx2)
  clear hx2 hi
  have HC := hide hC
  have HR := hide hR
  have HL := hide CL
  clear hC hR CL
  go_enter Tryz.func126, Tryz.ntmps126
  go_wp2_with fail
  go_loopw [7, 12] (fun rv i wr => ∃ (v : Value) (k : Nat), k ≤ l.length ∧ i = .int .i64 k ∧ rv = v ∧ wr.ownsRow w.heap.size 3 1 v (ps P k).length (ic (ps P k)) ∧ Below w.heap.size w wr) (fun _ i _ => l.length - (intOf i).toNat)
  case atStart => exact ⟨_, 0, Nat.zero_le _, rfl, rfl, World.ownsRow_nil _ _ _ _, Below.refl _ _⟩
  case round =>
    obtain ⟨v, k, hk, rfl, rfl, ho, hb⟩ := hrel
    by_cases hlt : k < l.length
    · have hlt' : (k : Int) < (l.length : Int) := by omega
      obtain ⟨x, hx⟩ : ∃ x, l[k]? = some x := ⟨_, List.getElem?_eq_getElem hlt⟩
      obtain ⟨b, off, rfl, q0, q1, q2⟩ := HC.out.below hb k x hx
      have SU := hide (ps_succ P k)
      have hpl := ps_len P k
      have BX := below_alloc wr (.cells #[.bool x.sd, .int .i64 x.ch, .int .i64 x.v] 92)
      have XN := hide (heap_new wr (.cells #[.bool x.sd, .int .i64 x.ch, .int .i64 x.v] 92))
      have HB := hide (btr hb BX)
      have OW := hide (own_below ho BX)
      have NM := hide (named_any oa bs x.ch cp ((wr.alloc (.cells #[.bool x.sd, .int .i64 x.ch, .int .i64 x.v] 92)).drew) (HR.out.below (btr HB.out (bdrew1 _))))
      have CLK := hide fun u hu => HL.out k x u hx hu
      unfold cv pt at CLK
      unfold pt at NM
      generalize (nmB bs x.ch).map (fun b => (⟨b, 0, none⟩ : Addr)) = pp at NM CLK
      clear hb hx BX ho
      obtain ⟨X, hX⟩ : ∃ X, X = ps P k := ⟨_, rfl⟩
      rw [← hX] at SU hpl OW
      clear hX
      go_wp2_with fail
      have e0 : (wr.alloc (.cells #[.bool x.sd, .int .i64 x.ch, .int .i64 x.v] 92)).cell? ⟨wr.heap.size, 0, none⟩ = some (.bool x.sd) := cell_of XN.out 0
      have e1 : (wr.alloc (.cells #[.bool x.sd, .int .i64 x.ch, .int .i64 x.v] 92)).cell? ⟨wr.heap.size, 1, none⟩ = some (.int .i64 x.ch) := cell_of XN.out 1
      have e2 : (wr.alloc (.cells #[.bool x.sd, .int .i64 x.ch, .int .i64 x.v] 92)).cell? ⟨wr.heap.size, 2, none⟩ = some (.int .i64 x.v) := cell_of XN.out 2
      generalize wr.alloc (.cells #[.bool x.sd, .int .i64 x.ch, .int .i64 x.v] 92) = W1 at XN HB OW NM e0 e1 e2 ⊢
      generalize wr.heap.size = A at XN e0 e1 e2 ⊢
      go_region_held3 (fun w' => w'.cell? ⟨A, 0, none⟩ = some (.bool x.sd) ∧ w'.cell? ⟨A, 1, none⟩ = some (.int .i64 x.ch) ∧ w'.cell? ⟨A, 2, none⟩ = some (.int .i64 x.v))
        (first
          | go_keep
          | (go_split_ands
             refine ⟨?_, ?_, ?_⟩ <;> (refine cellB ?_ k2; assumption)))
        (first
          | (go_at_call 131; refine NM.out.mono ?_; rintro r z1 ⟨rfl, rfl⟩)
          | (go_at_call 129; refine (CLK.out _ (btr HB.out (bdrew1 _))).mono ?_; rintro r z2 ⟨rfl, k2⟩))
      have HB2 := hide (btr HB.out (btr (bdrew1 _) k2))
      have OW2 := hide (own_below OW.out (btr (bdrew1 _) k2))
      clear k2 HB OW NM CLK e0 e1 e2 XN
      cases hP : P k
      · have EX : Hid (ps P (k + 1) = X) := by show _ = _; rw [SU.out, hP]; simp
        have O3 : Hid (z2.ownsRow w.heap.size 3 1 u7 (ps P (k + 1)).length (ic (ps P (k + 1)))) := by
          show World.ownsRow _ _ _ _ _ _ _
          rw [EX.out]
          exact OW2.out
        go_wp2_with fail
        go_roundw
        case rel =>
          first
            | exact ⟨_, k + 1, by omega, by go_num, rfl, O3.out, HB2.out⟩
            | exact ⟨k + 1, by omega, by go_num, O3.out, HB2.out⟩
        case measure => simp [intOf]; omega
      · have EX : Hid (ps P (k + 1) = X ++ [(k : Int)]) := by show _ = _; rw [SU.out, hP]; simp
        have BY := below_alloc z2 (.cells #[.int .i64 (k : Int)] 3)
        have OW3 := hide (own_below OW2.out BY)
        have HB3 := hide (btr HB2.out BY)
        have SRC := hide (cell_one_new z2 (.int .i64 (k : Int)) 3)
        clear BY OW2 HB2
        go_wp2_with (at_builtin; refine wpList_append_own _ rfl _ _ 23 rfl w.heap.size 3 i0 (.int .i64 0) 1 8 Tryz.underlying23 INF.out.1 INF.out.2.1 INF.out.2.2.1 INF.out.2.2.2 rfl (by decide) _ _ _ rfl OW3.out ⟨z2.heap.size, 0, none⟩ 1 1 [.int .i64 (k : Int)] rfl rfl ?c1 ?c2 ?c3 ?c4 ?c5 ?_)
        case c1 => exact SRC.out
        case c2 => exact ic_one [(k : Int)]
        case c3 => unfold maxLen; omega
        case c4 => omega
        case c5 => exact HB3.out.size
        intro v' w3 ho hg3 _
        have B3 : Hid (Below w.heap.size w w3) := HB3.out.grown hg3 HB3.out.size (fun x hx => (OW3.out.lt x hx).1)
        have O3 : Hid (w3.ownsRow w.heap.size 3 1 v' (ps P (k + 1)).length (ic (ps P (k + 1)))) := by
          show World.ownsRow _ _ _ _ _ _ _
          rw [EX.out, ic_app, List.length_append]
          exact ho
        clear ho hg3
        go_wp2_with fail
        go_roundw
        case rel =>
          first
            | exact ⟨v', k + 1, by omega, by go_num, rfl, O3.out, B3.out⟩
            | ((repeat apply Exists.intro); exact ⟨⟨v', k + 1, by omega, by go_num, rfl, O3.out, B3.out⟩, rfl⟩)
        case measure => simp [intOf]; omega
    · have hlt' : ¬ ((k : Int) < (l.length : Int)) := by omega
      obtain rfl : k = l.length := by omega
      obtain ⟨oa', c', hv', _, _⟩ := own_at ho
      subst hv'
      have HO := hide ho
      have HB := hide hb
      clear ho hb
      go_wp2_with fail
      go_ret
      exact ⟨oa', c', rfl, HO.out, HB.out⟩
set_option maxRecDepth 100000 in
set_option maxHeartbeats 3200000 in
theorem gather_s (X Y : Nat) (P : Nat → Bool) (oc : Option Addr) (l : List Ca) (cc : Nat) (oa : Option Addr) (bs : List (Option Nat)) (cp : Nat) (w : World) (hC : CaAt w oc l) (hR : PR w oa bs) (hl : l.length ≤ 1000)
    (CL : ∀ (i : Nat) (c : Ca) (u : World), l[i]? = some c → Below w.heap.size w u → Calls Tryz.prog 147 #[cv c, pt (nmB bs c.ch), .pointer (some ⟨X, 0, none⟩), .pointer (some ⟨Y, 0, none⟩)] u fun r w' => r = .returned (.bool (P i)) ∧ Below u.heap.size u w') :
    Calls Tryz.prog 126 #[.slice oc l.length cc, .slice oa bs.length cp, .func (.func 147) #[] #[.pointer (some ⟨X, 0, none⟩), .pointer (some ⟨Y, 0, none⟩)]] w fun r w' => ∃ ob d, r = .returned (.slice ob (ps P l.length).length d) ∧ w'.ownsRow w.heap.size 3 1 (.slice ob (ps P l.length).length d) (ps P l.length).length (ic (ps P l.length)) ∧ Below w.heap.size w w' := by
  cases hi : Tryz.prog.info? 3 with
  | none => have := info_i; rw [hi] at this; cases this
  | some i0 =>
  have hx2 := info_i
  rw [hi] at hx2
  simp at hx2
  have INF := hide (And.intro hi hx2)
  clear hx2 hi
  have HC := hide hC
  have HR := hide hR
  have HL := hide CL
  clear hC hR CL
  go_enter Tryz.func126, Tryz.ntmps126
  go_wp2_with fail
  go_loopw [7, 12] (fun rv i wr => ∃ (v : Value) (k : Nat), k ≤ l.length ∧ i = .int .i64 k ∧ rv = v ∧ wr.ownsRow w.heap.size 3 1 v (ps P k).length (ic (ps P k)) ∧ Below w.heap.size w wr) (fun _ i _ => l.length - (intOf i).toNat)
  case atStart => exact ⟨_, 0, Nat.zero_le _, rfl, rfl, World.ownsRow_nil _ _ _ _, Below.refl _ _⟩
  case round =>
    obtain ⟨v, k, hk, rfl, rfl, ho, hb⟩ := hrel
    by_cases hlt : k < l.length
    · have hlt' : (k : Int) < (l.length : Int) := by omega
      obtain ⟨x, hx⟩ : ∃ x, l[k]? = some x := ⟨_, List.getElem?_eq_getElem hlt⟩
      obtain ⟨b, off, rfl, q0, q1, q2⟩ := HC.out.below hb k x hx
      have SU := hide (ps_succ P k)
      have hpl := ps_len P k
      have BX := below_alloc wr (.cells #[.bool x.sd, .int .i64 x.ch, .int .i64 x.v] 92)
      have XN := hide (heap_new wr (.cells #[.bool x.sd, .int .i64 x.ch, .int .i64 x.v] 92))
      have HB := hide (btr hb BX)
      have OW := hide (own_below ho BX)
      have NM := hide (named_any oa bs x.ch cp ((wr.alloc (.cells #[.bool x.sd, .int .i64 x.ch, .int .i64 x.v] 92)).drew) (HR.out.below (btr HB.out (bdrew1 _))))
      have CLK := hide fun u hu => HL.out k x u hx hu
      unfold cv pt at CLK
      unfold pt at NM
      generalize (nmB bs x.ch).map (fun b => (⟨b, 0, none⟩ : Addr)) = pp at NM CLK
      clear hb hx BX ho
      obtain ⟨X, hX⟩ : ∃ X, X = ps P k := ⟨_, rfl⟩
      rw [← hX] at SU hpl OW
      clear hX
      go_wp2_with fail
      have e0 : (wr.alloc (.cells #[.bool x.sd, .int .i64 x.ch, .int .i64 x.v] 92)).cell? ⟨wr.heap.size, 0, none⟩ = some (.bool x.sd) := cell_of XN.out 0
      have e1 : (wr.alloc (.cells #[.bool x.sd, .int .i64 x.ch, .int .i64 x.v] 92)).cell? ⟨wr.heap.size, 1, none⟩ = some (.int .i64 x.ch) := cell_of XN.out 1
      have e2 : (wr.alloc (.cells #[.bool x.sd, .int .i64 x.ch, .int .i64 x.v] 92)).cell? ⟨wr.heap.size, 2, none⟩ = some (.int .i64 x.v) := cell_of XN.out 2
      generalize wr.alloc (.cells #[.bool x.sd, .int .i64 x.ch, .int .i64 x.v] 92) = W1 at XN HB OW NM e0 e1 e2 ⊢
      generalize wr.heap.size = A at XN e0 e1 e2 ⊢
      go_region_held3 (fun w' => w'.cell? ⟨A, 0, none⟩ = some (.bool x.sd) ∧ w'.cell? ⟨A, 1, none⟩ = some (.int .i64 x.ch) ∧ w'.cell? ⟨A, 2, none⟩ = some (.int .i64 x.v))
        (first
          | go_keep
          | (go_split_ands
             refine ⟨?_, ?_, ?_⟩ <;> (refine cellB ?_ k2; assumption)))
        (first
          | (go_at_call 131; refine NM.out.mono ?_; rintro r z1 ⟨rfl, rfl⟩)
          | (go_at_call 147; refine (CLK.out _ (btr HB.out (bdrew1 _))).mono ?_; rintro r z2 ⟨rfl, k2⟩))
      have HB2 := hide (btr HB.out (btr (bdrew1 _) k2))
      have OW2 := hide (own_below OW.out (btr (bdrew1 _) k2))
      clear k2 HB OW NM CLK e0 e1 e2 XN
      cases hP : P k
      · have EX : Hid (ps P (k + 1) = X) := by show _ = _; rw [SU.out, hP]; simp
        have O3 : Hid (z2.ownsRow w.heap.size 3 1 u7 (ps P (k + 1)).length (ic (ps P (k + 1)))) := by
          show World.ownsRow _ _ _ _ _ _ _
          rw [EX.out]
          exact OW2.out
        go_wp2_with fail
        go_roundw
        case rel =>
          first
            | exact ⟨_, k + 1, by omega, by go_num, rfl, O3.out, HB2.out⟩
            | exact ⟨k + 1, by omega, by go_num, O3.out, HB2.out⟩
        case measure => simp [intOf]; omega
      · have EX : Hid (ps P (k + 1) = X ++ [(k : Int)]) := by show _ = _; rw [SU.out, hP]; simp
        have BY := below_alloc z2 (.cells #[.int .i64 (k : Int)] 3)
        have OW3 := hide (own_below OW2.out BY)
        have HB3 := hide (btr HB2.out BY)
        have SRC := hide (cell_one_new z2 (.int .i64 (k : Int)) 3)
        clear BY OW2 HB2
        go_wp2_with (at_builtin; refine wpList_append_own _ rfl _ _ 23 rfl w.heap.size 3 i0 (.int .i64 0) 1 8 Tryz.underlying23 INF.out.1 INF.out.2.1 INF.out.2.2.1 INF.out.2.2.2 rfl (by decide) _ _ _ rfl OW3.out ⟨z2.heap.size, 0, none⟩ 1 1 [.int .i64 (k : Int)] rfl rfl ?c1 ?c2 ?c3 ?c4 ?c5 ?_)
        case c1 => exact SRC.out
        case c2 => exact ic_one [(k : Int)]
        case c3 => unfold maxLen; omega
        case c4 => omega
        case c5 => exact HB3.out.size
        intro v' w3 ho hg3 _
        have B3 : Hid (Below w.heap.size w w3) := HB3.out.grown hg3 HB3.out.size (fun x hx => (OW3.out.lt x hx).1)
        have O3 : Hid (w3.ownsRow w.heap.size 3 1 v' (ps P (k + 1)).length (ic (ps P (k + 1)))) := by
          show World.ownsRow _ _ _ _ _ _ _
          rw [EX.out, ic_app, List.length_append]
          exact ho
        clear ho hg3
        go_wp2_with fail
        go_roundw
        case rel =>
          first
            | exact ⟨v', k + 1, by omega, by go_num, rfl, O3.out, B3.out⟩
            | ((repeat apply Exists.intro); exact ⟨⟨v', k + 1, by omega, by go_num, rfl, O3.out, B3.out⟩, rfl⟩)
        case measure => simp [intOf]; omega
    · have hlt' : ¬ ((k : Int) < (l.length : Int)) := by omega
      obtain rfl : k = l.length := by omega
      obtain ⟨oa', c', hv', _, _⟩ := own_at ho
      subst hv'
      have HO := hide ho
      have HB := hide hb
      clear ho hb
      go_wp2_with fail
      go_ret
      exact ⟨oa', c', rfl, HO.out, HB.out⟩
end Fk
end Go.Proofs.YtddchcekljndmaaGreat
/- Package fork: waiter, Try, Leave, over this seat's program. -/
namespace Go.Proofs.YtddchcekljndmaaGreat
open Go.ChangeShapes Go.WideShapes Go.ChangeAt Go.RowKit
namespace Fk
open Ba Pe _root_.Go.Proofs.YtddchcekljndmaaGreat.Pi Rp

def All (Fs : Nat → Nat → Prop) : Nat → Prop := fun x => ∃ i, Fs i x
def NwA (Fs' Fs : Nat → Nat → Prop) (w : World) : Prop := ∀ i x, Fs' i x → All Fs x ∨ w.heap.size ≤ x
theorem NwA.refl (Fs : Nat → Nat → Prop) (w : World) : NwA Fs Fs w := fun i _ h => .inl ⟨i, h⟩
theorem NwA.trans {F G H : Nat → Nat → Prop} {a b : World} (h : NwA G F a) (k : NwA H G b) (hs : a.heap.size ≤ b.heap.size) : NwA H F a := by
  intro i x hx
  rcases k i x hx with ⟨j, q⟩ | q
  · exact h j x q
  · exact .inr (by omega)
theorem Qs.rl {Q : World → Nat → (Nat → Prop) → St → Prop} {w : World} {oa : Option Addr} {bs : List (Option Nat)} {Fs : Nat → Nat → Prop} {sts : List (Option St)} (h : Qs Q w oa bs Fs sts) {i : Nat} {o : Option Nat} (hi : bs[i]? = some o) : ∀ a, oa = some a → a.block < w.heap.size := by
  intro a e
  obtain ⟨b, off, e2, hc⟩ := h.row i o hi
  rw [e] at e2
  cases e2
  exact World.block_lt_of_cell? w ⟨b, off + i, none⟩ hc
/-- what has become of the channels -/
def Rz (Q : World → Nat → (Nat → Prop) → St → Prop) (w w' : World) (oa : Option Addr) (bs : List (Option Nat)) (Fs : Nat → Nat → Prop) (sts : List (Option St)) : Prop :=
  ∃ Fs', NwA Fs' Fs w ∧ Qs Q w' oa bs Fs' sts ∧ KF (All Fs) w w'
theorem Rz.same {Q : World → Nat → (Nat → Prop) → St → Prop} (fr : Fr Q) {w w' : World} {oa : Option Addr} {bs : List (Option Nat)} {Fs : Nat → Nat → Prop} {sts : List (Option St)} (h : Qs Q w oa bs Fs sts) (hb : Below w.heap.size w w') : Rz Q w w' oa bs Fs sts := ⟨Fs, NwA.refl _ _, h.below fr hb, KF.of hb⟩
theorem Rz.below {Q : World → Nat → (Nat → Prop) → St → Prop} (fr : Fr Q) {w a b : World} {oa : Option Addr} {bs : List (Option Nat)} {Fs : Nat → Nat → Prop} {sts : List (Option St)} (h : Rz Q w a oa bs Fs sts) (hb : Below a.heap.size a b) : Rz Q w b oa bs Fs sts := by
  obtain ⟨Fs', n, q, k⟩ := h
  exact ⟨Fs', n, q.below fr hb, k.then hb⟩
theorem Rz.trans {Q : World → Nat → (Nat → Prop) → St → Prop} {w a b : World} {oa : Option Addr} {bs : List (Option Nat)} {Fs Fs1 : Nat → Nat → Prop} {sts : List (Option St)} (n1 : NwA Fs1 Fs w) (k1 : KF (All Fs) w a) (h : Rz Q a b oa bs Fs1 sts) : Rz Q w b oa bs Fs sts := by
  obtain ⟨Fs', n, q, k⟩ := h
  exact ⟨Fs', n1.trans n k1.size, q, k1.trans k (fun x hx => by obtain ⟨i, hi⟩ := hx; exact n1 i x hi)⟩
theorem Rz.step {Q : World → Nat → (Nat → Prop) → St → Prop} (fr : Fr Q) {w a b : World} {oa : Option Addr} {bs : List (Option Nat)} {Fs : Nat → Nat → Prop} {sts : List (Option St)} (h : Qs Q w oa bs Fs sts) (hb : Below w.heap.size w a) {i B : Nat} {F' : Nat → Prop} {st' : St} (hi : bs[i]? = some (some B)) (k : KF (Fs i) a b) (n : Nw F' (Fs i) a) (q : Q b B F' st') : Rz Q w b oa bs Fs (sts.set i (some st')) := by
  have ha := h.below fr hb
  refine ⟨up Fs i F', fun j x hx => ?_, ha.step fr hi k n q (ha.rl hi), (KF.of (F := All Fs) hb).trans k (fun x hx => .inl ⟨i, hx⟩)⟩
  by_cases e : j = i
  · subst e
    rw [up_same] at hx
    rcases n x hx with z | z
    · exact .inl ⟨j, z⟩
    · exact .inr (Nat.le_trans hb.size z)
  · rw [up_other _ _ _ _ e] at hx
    exact .inl ⟨j, hx⟩
/-- the result's cells, a new block, are laid last -/
theorem Rz.set7 {Q : World → Nat → (Nat → Prop) → St → Prop} (fr : Fr Q) {w A : World} {oa : Option Addr} {bs : List (Option Nat)} {Fs : Nat → Nat → Prop} {sts : List (Option St)} {Z : Nat} (h : ∃ Fs', NwA Fs' Fs w ∧ Qs Q A oa bs Fs' sts ∧ KF (All Fs) w A ∧ ∀ i, ¬ Fs' i Z) (hz : w.heap.size ≤ Z) (hr : ∀ a, oa = some a → a.block < w.heap.size ∨ bs = []) (u0 u1 u2 u3 u4 u5 u6 : Value) :
    Rz Q w (((((((A.setCell ⟨Z, 0, none⟩ u0).setCell ⟨Z, 1, none⟩ u1).setCell ⟨Z, 2, none⟩ u2).setCell ⟨Z, 3, none⟩ u3).setCell ⟨Z, 4, none⟩ u4).setCell ⟨Z, 5, none⟩ u5).setCell ⟨Z, 6, none⟩ u6) oa bs Fs sts := by
  obtain ⟨Fs', n, q, k, hn⟩ := h
  have K := (((((((KB.refl Z A).setCell 0 u0).setCell 1 u1).setCell 2 u2).setCell 3 u3).setCell 4 u4).setCell 5 u5).setCell 6 u6
  refine ⟨Fs', n, ?_, ((((((k.setNew hz 0 u0).setNew hz 1 u1).setNew hz 2 u2).setNew hz 3 u3).setNew hz 4 u4).setNew hz 5 u5).setNew hz 6 u6⟩
  have hs : ∀ i, Sm (Fs' i) A (((((((A.setCell ⟨Z, 0, none⟩ u0).setCell ⟨Z, 1, none⟩ u1).setCell ⟨Z, 2, none⟩ u2).setCell ⟨Z, 3, none⟩ u3).setCell ⟨Z, 4, none⟩ u4).setCell ⟨Z, 5, none⟩ u5).setCell ⟨Z, 6, none⟩ u6) := fun i x hx => K.block x (q.bd i x hx) (fun e => hn i (e ▸ hx))
  by_cases hbs : bs = []
  · refine ⟨fun i o hi => by rw [hbs] at hi; simp at hi, q.len, fun i B hi => by rw [hbs] at hi; simp at hi, fun i hi => by rw [hbs] at hi; simp at hi, q.ap, q.nr, fun i => (q.bd i).sm (hs i)⟩
  · exact q.keep fr hs (fun a e hl => K.block _ hl (by have := (hr a e).resolve_right hbs; omega))
theorem waiter_any (g : Int) (p : Nat) (c : Ca) (w : World) :
    Calls Tryz.prog 132 #[.int .i64 g, .int .i64 (p : Int), cv c] w fun r w' => r = .returned (wv ⟨g, p, c.v⟩) ∧ Below w.heap.size w w' := by
  unfold cv wv
  go_enter Tryz.func132, Tryz.ntmps132
  go_wp2_with fail
  have hn := heap_new (w.alloc (.cells #[.bool c.sd, .int .i64 c.ch, .int .i64 c.v] 92)) (.cells #[.int .i64 g, .int .i64 (p : Int), .int .i64 c.v] 158)
  rw [World.size_alloc] at hn
  exact bodyPost_ret (results_row1 Tryz.results132 _ _ _ _ rfl (loadVar_wt hn rfl)) rfl ⟨rfl, btr (below_alloc _ _) (below_alloc _ _)⟩
def tryG (sts : List (Option St)) (c : Ca) : Gt := match nmB sts c.ch with | none => gz | some st => if c.sd then sendG st else recvG st
def tryE (sts : List (Option St)) (c : Ca) : Int := match nmB sts c.ch with | none => 0 | some st => if c.sd then sendE st else 0
def tryS (sts : List (Option St)) (c : Ca) : List (Option St) := match nmB sts c.ch with | none => sts | some st => sts.set c.ch.toNat (some (if c.sd then sendS st c.v else recvS st))
/-- counts that are far from the greatest -/
def Sml (sts : List (Option St)) : Prop := ∀ (i : Nat) (st : St), sts[i]? = some (some st) → st.sent < 1000000000 ∧ st.got < 1000000000
end Fk
end Go.Proofs.YtddchcekljndmaaGreat
/- Package fork: Leave, and the reference's Leave and Ready, over this seat's program. -/
namespace Go.Proofs.YtddchcekljndmaaGreat
open Go.ChangeShapes Go.WideShapes Go.ChangeAt Go.RowKit
namespace Fk
open Ba Pe _root_.Go.Proofs.YtddchcekljndmaaGreat.Pi Rp

def dropO (g : Int) (o : Option St) : Option St := o.map fun st => dropS st g
def dropM (g : Int) (o : Option St) : Int := match o with | none => 0 | some st => dropN st g
/-- all of g are gone -/
def leaveS (g : Int) (sts : List (Option St)) : List (Option St) := sts.map (dropO g)
def leaveN (g : Int) (sts : List (Option St)) : Int := (sts.map (dropM g)).foldl (· + ·) 0
/-- the first k have left -/
def lvS (g : Int) (sts : List (Option St)) (k : Nat) : List (Option St) := (sts.take k).map (dropO g) ++ sts.drop k
def lvN (g : Int) (sts : List (Option St)) (k : Nat) : Int := ((sts.take k).map (dropM g)).foldl (· + ·) 0
theorem lv_zero (g : Int) (sts : List (Option St)) : lvS g sts 0 = sts := by simp [lvS]
theorem lv_all (g : Int) (sts : List (Option St)) : lvS g sts sts.length = leaveS g sts := by simp [lvS, leaveS]
theorem lvN_all (g : Int) (sts : List (Option St)) : lvN g sts sts.length = leaveN g sts := by simp [lvN, leaveN]
theorem lvN_succ (g : Int) (sts : List (Option St)) (k : Nat) (o : Option St) (h : sts[k]? = some o) : lvN g sts (k + 1) = lvN g sts k + dropM g o := by
  unfold lvN
  rw [List.take_add_one, h, List.map_append, List.foldl_append]
  rfl
theorem lv_at (g : Int) (sts : List (Option St)) (k : Nat) : (lvS g sts k)[k]? = sts[k]? := by
  unfold lvS
  by_cases h : k < sts.length
  · rw [List.getElem?_append_right (by simp; omega)]
    simp [Nat.min_eq_left (Nat.le_of_lt h)]
  · rw [List.getElem?_eq_none (by simp; omega), List.getElem?_eq_none (by omega)]
theorem lv_succ (g : Int) (sts : List (Option St)) (k : Nat) (o : Option St) (h : sts[k]? = some o) : lvS g sts (k + 1) = (lvS g sts k).set k (dropO g o) := by
  have hk : k < sts.length := (List.getElem?_eq_some_iff.1 h).1
  unfold lvS
  rw [List.set_append_right _ _ (by simp; omega)]
  rw [List.take_add_one, h, List.map_append, List.append_assoc]
  congr 1
  rw [List.drop_eq_getElem_cons hk, List.length_map, List.length_take, Nat.min_eq_left (Nat.le_of_lt hk), Nat.sub_self, List.set_cons_zero]
  rfl
theorem lv_none (g : Int) (sts : List (Option St)) (k : Nat) (h : sts[k]? = some none) : lvS g sts (k + 1) = lvS g sts k := by
  rw [lv_succ g sts k none h]
  apply List.ext_getElem?
  intro i
  rw [List.getElem?_set]
  by_cases e : k = i
  · subst e
    have hk : k < (lvS g sts k).length := by
      have := (List.getElem?_eq_some_iff.1 h).1
      simp [lvS]
      omega
    rw [if_pos rfl, if_pos hk, lv_at, h]
    rfl
  · rw [if_neg e]
theorem dropM_bd {g : Int} {st : St} (h1 : st.snd.length ≤ 1024) (h2 : st.rcv.length ≤ 1024) : 0 ≤ dropM g (some st) ∧ dropM g (some st) ≤ 2048 := by
  have a := dr_len g st.snd
  have b := dr_len g st.rcv
  simp only [dropM, dropN]
  omega
set_option maxRecDepth 100000 in
set_option maxHeartbeats 3200000 in
theorem leave_any (g : Int) (oa : Option Addr) (bs : List (Option Nat)) (cp : Nat) (Fs : Nat → Nat → Prop) (sts : List (Option St)) (w : World) (h : Qs Pp w oa bs Fs sts) (hl : bs.length ≤ 1000) :
    Calls Tryz.prog 124 #[.int .i64 g, .slice oa bs.length cp] w fun r w' => r = .returned (.int .i64 (leaveN g sts)) ∧ Rz Pp w w' oa bs Fs (leaveS g sts) := by
  have H := hide h
  clear h
  go_enter Tryz.func124, Tryz.ntmps124
  go_wp2_with fail
  go_loopw [5, 9] (fun s i wr => ∃ (k : Nat) (n : Int), k ≤ bs.length ∧ i = .int .i64 k ∧ s = .int .i64 n ∧ n = lvN g sts k ∧ (0 ≤ n ∧ n ≤ 2048 * (k : Int)) ∧ Rz Pp w wr oa bs Fs (lvS g sts k)) (fun _ i _ => bs.length - (intOf i).toNat)
  case atStart => exact ⟨0, 0, Nat.zero_le _, rfl, rfl, rfl, ⟨by omega, by omega⟩, by rw [lv_zero]; exact Rz.same frP H.out (Below.refl _ _)⟩
  case round =>
    obtain ⟨k, n, hk, rfl, rfl, hn, hnb, rz⟩ := hrel
    have HN := hide hn
    clear hn
    by_cases hlt : k < bs.length
    · have hlt' : (k : Int) < (bs.length : Int) := by omega
      obtain ⟨Fs1, n1, q1, k1⟩ := rz
      obtain ⟨o, ho⟩ : ∃ o, bs[k]? = some o := ⟨_, List.getElem?_eq_getElem hlt⟩
      obtain ⟨b, off, e, hc⟩ := q1.row k o ho
      subst e
      have Q1 := hide q1
      have N1 := hide n1
      have K1 := hide k1
      cases o with
      | none =>
        have hs := q1.non k ho
        rw [lv_at] at hs
        have E1 := hide (lv_none g sts k hs)
        have E2 := hide (lvN_succ g sts k none hs)
        simp only [pt, Option.map_none] at hc
        clear q1 n1 k1 ho hs
        go_wp2_with fail
        refine (Pi.drop_nil g _).mono ?_
        rintro r w2 ⟨rfl, rfl⟩
        go_wp2_with fail
        go_roundw
        case rel => exact ⟨k + 1, n, by omega, by go_num, by simp, by rw [E2.out, ← HN.out]; simp [dropM], ⟨hnb.1, by omega⟩, by rw [E1.out]; exact ⟨Fs1, N1.out, Q1.out, K1.out⟩⟩
        case measure => simp [intOf]; omega
      | some B =>
        obtain ⟨st, hs, q⟩ := q1.one k B ho
        have hs' := hs
        rw [lv_at] at hs'
        have E1 := hide (lv_succ g sts k (some st) hs')
        have E2 := hide (lvN_succ g sts k (some st) hs')
        have HO := hide ho
        have DP := hide (Pi.drop_any B _ st g _ q)
        have BDD : Hid (0 ≤ dropN st g ∧ dropN st g ≤ 2048) := by
          obtain ⟨R0, S0, Q0, FS0, FQ0, po⟩ := q
          exact dropM_bd po.ps.le po.pq.le
        simp only [pt, Option.map_some] at hc
        clear q1 n1 k1 ho hs hs' q
        have hd1 := BDD.out.1
        have hd2 := BDD.out.2
        have ED : Hid (dropM g (some st) = dropN st g) := rfl
        generalize dropN st g = dd at DP hd1 hd2 ED
        go_wp2_with fail
        refine DP.out.mono ?_
        rintro r w2 ⟨rfl, k2, F2, n2, p2⟩
        have R2 := hide (Rz.trans N1.out K1.out (Rz.step frP Q1.out (Below.refl _ _) HO.out k2 n2 p2))
        clear k2 n2 p2
        go_wp2_with fail
        go_roundw
        case rel => exact ⟨k + 1, n + dd, by omega, by go_num, by first | rfl | go_num, by rw [E2.out, ← HN.out, ED.out], ⟨by omega, by omega⟩, by rw [E1.out]; exact R2.out⟩
        case measure => simp [intOf]; omega
    · have hlt' : ¬ ((k : Int) < (bs.length : Int)) := by omega
      obtain rfl : k = bs.length := by omega
      have HE := hide H.out.len
      rw [HE.out, lv_all] at rz
      have RZ := hide rz
      clear rz
      go_wp2_with fail
      go_ret
      exact ⟨ret_int (by rw [HN.out, HE.out, lvN_all]), RZ.out⟩
set_option maxRecDepth 100000 in
set_option maxHeartbeats 3200000 in
theorem rleave_any (g : Int) (oa : Option Addr) (bs : List (Option Nat)) (cp : Nat) (Fs : Nat → Nat → Prop) (sts : List (Option St)) (w : World) (h : Qs Rr w oa bs Fs sts) (hl : bs.length ≤ 1000) :
    Calls Tryz.prog 107 #[.int .i64 g, .slice oa bs.length cp] w fun r w' => r = .returned (.int .i64 (leaveN g sts)) ∧ Rz Rr w w' oa bs Fs (leaveS g sts) := by
  have H := hide h
  clear h
  go_enter Tryz.func107, Tryz.ntmps107
  go_wp2_with fail
  go_loopw [5, 10] (fun s i wr => ∃ (k : Nat) (n : Int), k ≤ bs.length ∧ i = .int .i64 k ∧ s = .int .i64 n ∧ n = lvN g sts k ∧ (0 ≤ n ∧ n ≤ 2048 * (k : Int)) ∧ Rz Rr w wr oa bs Fs (lvS g sts k)) (fun _ i _ => bs.length - (intOf i).toNat)
  case atStart => exact ⟨0, 0, Nat.zero_le _, rfl, rfl, rfl, ⟨by omega, by omega⟩, by rw [lv_zero]; exact Rz.same frR H.out (Below.refl _ _)⟩
  case round =>
    obtain ⟨k, n, hk, rfl, rfl, hn, hnb, rz⟩ := hrel
    have HN := hide hn
    clear hn
    by_cases hlt : k < bs.length
    · have hlt' : (k : Int) < (bs.length : Int) := by omega
      obtain ⟨Fs1, n1, q1, k1⟩ := rz
      obtain ⟨o, ho⟩ : ∃ o, bs[k]? = some o := ⟨_, List.getElem?_eq_getElem hlt⟩
      obtain ⟨b, off, e, hc⟩ := q1.row k o ho
      subst e
      have Q1 := hide q1
      have N1 := hide n1
      have K1 := hide k1
      cases o with
      | none =>
        have hs := q1.non k ho
        rw [lv_at] at hs
        have E1 := hide (lv_none g sts k hs)
        have E2 := hide (lvN_succ g sts k none hs)
        simp only [pt, Option.map_none] at hc
        clear q1 n1 k1 ho hs
        go_wp2_with fail
        go_roundw
        case rel => exact ⟨k + 1, n, by omega, by go_num, by simp, by rw [E2.out, ← HN.out]; simp [dropM], ⟨hnb.1, by omega⟩, by rw [E1.out]; exact ⟨Fs1, N1.out, Q1.out, K1.out⟩⟩
        case measure => simp [intOf]; omega
      | some B =>
        obtain ⟨st, hs, q⟩ := q1.one k B ho
        have hs' := hs
        rw [lv_at] at hs'
        have E1 := hide (lv_succ g sts k (some st) hs')
        have E2 := hide (lvN_succ g sts k (some st) hs')
        have HO := hide ho
        have DP := hide (rdrop_any B _ st g _ q)
        have BDD : Hid (0 ≤ dropN st g ∧ dropN st g ≤ 2048) := by
          obtain ⟨_, _, _, ro⟩ := q
          exact dropM_bd ro.les ro.leq
        simp only [pt, Option.map_some] at hc
        clear q1 n1 k1 ho hs hs' q
        have hd1 := BDD.out.1
        have hd2 := BDD.out.2
        have ED : Hid (dropM g (some st) = dropN st g) := rfl
        generalize dropN st g = dd at DP hd1 hd2 ED
        go_wp2_with fail
        refine DP.out.mono ?_
        rintro r w2 ⟨rfl, k2, F2, n2, p2⟩
        have R2 := hide (Rz.trans N1.out K1.out (Rz.step frR Q1.out (Below.refl _ _) HO.out k2 n2 p2))
        clear k2 n2 p2
        go_wp2_with fail
        go_roundw
        case rel => exact ⟨k + 1, n + dd, by omega, by go_num, by first | rfl | go_num, by rw [E2.out, ← HN.out, ED.out], ⟨by omega, by omega⟩, by rw [E1.out]; exact R2.out⟩
        case measure => simp [intOf]; omega
    · have hlt' : ¬ ((k : Int) < (bs.length : Int)) := by omega
      obtain rfl : k = bs.length := by omega
      have HE := hide H.out.len
      rw [HE.out, lv_all] at rz
      have RZ := hide rz
      clear rz
      go_wp2_with fail
      go_ret
      exact ⟨ret_int (by rw [HN.out, HE.out, lvN_all]), RZ.out⟩
def cP (l : List Ca) (sts : List (Option St)) : Nat → Bool := fun i => match l[i]? with | none => false | some c => crdy sts c
set_option maxRecDepth 100000 in
set_option maxHeartbeats 3200000 in
theorem rreadyL_any (oc : Option Addr) (l : List Ca) (cc : Nat) (oa : Option Addr) (bs : List (Option Nat)) (cp : Nat) (Fs : Nat → Nat → Prop) (sts : List (Option St)) (w : World) (hC : CaAt w oc l) (h : Qs Rr w oa bs Fs sts) (hl : l.length ≤ 1000) :
    Calls Tryz.prog 83 #[.slice oc l.length cc, .slice oa bs.length cp] w fun r w' => ∃ ob d, r = .returned (.slice ob (rdyL l sts).length d) ∧ w'.ownsRow w.heap.size 3 1 (.slice ob (rdyL l sts).length d) (rdyL l sts).length (ic (rdyL l sts)) ∧ Below w.heap.size w w' := by
  cases hi : Tryz.prog.info? 3 with
  | none => have := info_i; rw [hi] at this; cases this
  | some i0 =>
  have hx2 := info_i
  rw [hi] at hx2
  simp at hx2
  have INF := hide (And.intro hi hx2)
  clear hx2 hi
  have HC := hide hC
  have HQ := hide h
  clear hC h
  obtain ⟨P, hP0⟩ : ∃ P : Nat → Bool, P = cP l sts := ⟨_, rfl⟩
  rw [show rdyL l sts = ps (cP l sts) l.length from rfl, ← hP0]
  have HP0 := hide hP0
  clear hP0
  go_enter Tryz.func83, Tryz.ntmps83
  go_wp2_with fail
  go_loopw [5, 11] (fun rv i wr => ∃ (v : Value) (k : Nat), k ≤ l.length ∧ i = .int .i64 k ∧ rv = v ∧ wr.ownsRow w.heap.size 3 1 v (ps P k).length (ic (ps P k)) ∧ Below w.heap.size w wr) (fun _ i _ => l.length - (intOf i).toNat)
  case atStart => exact ⟨_, 0, Nat.zero_le _, rfl, rfl, World.ownsRow_nil _ _ _ _, Below.refl _ _⟩
  case round =>
    obtain ⟨v, k, hk, rfl, rfl, ho, hb⟩ := hrel
    by_cases hlt : k < l.length
    · have hlt' : (k : Int) < (l.length : Int) := by omega
      obtain ⟨x, hx⟩ : ∃ x, l[k]? = some x := ⟨_, List.getElem?_eq_getElem hlt⟩
      obtain ⟨b, off, rfl, q0, q1, q2⟩ := HC.out.below hb k x hx
      have SU := hide (ps_succ P k)
      have hpl := ps_len P k
      have PK : Hid (P k = crdy sts x) := by show _ = _; rw [HP0.out]; unfold cP; simp only [hx]
      have BX := below_alloc wr (.cells #[.bool x.sd, .int .i64 x.ch, .int .i64 x.v] 92)
      have XN := hide (heap_new wr (.cells #[.bool x.sd, .int .i64 x.ch, .int .i64 x.v] 92))
      have HB := hide (btr hb BX)
      have OW := hide (own_below ho BX)
      have Q1 := hide (HQ.out.below frR HB.out)
      have NM := hide (rnamed_any oa bs x.ch cp _ Q1.out.row)
      clear hb hx BX ho
      obtain ⟨X, hX⟩ : ∃ X, X = ps P k := ⟨_, rfl⟩
      rw [← hX] at SU hpl OW
      clear hX
      unfold crdy at PK
      rcases Q1.out.nm x.ch with ⟨e1, e2⟩ | ⟨B, st, e1, e2, _, _, _, _, q⟩
      · rw [e2] at PK
        rw [e1] at NM
        simp only [pt, Option.map_none] at NM
        have EX : Hid (ps P (k + 1) = X) := by show _ = _; rw [SU.out, PK.out]; simp
        clear e1 e2 Q1
        go_wp2_with fail
        generalize wr.alloc (.cells #[.bool x.sd, .int .i64 x.ch, .int .i64 x.v] 92) = W1 at XN HB OW NM ⊢
        generalize wr.heap.size = A at XN ⊢
        refine NM.out.mono ?_
        rintro r z2 ⟨rfl, rfl⟩
        have O3 : Hid (z2.ownsRow w.heap.size 3 1 u5 (ps P (k + 1)).length (ic (ps P (k + 1)))) := by
          show World.ownsRow _ _ _ _ _ _ _
          rw [EX.out]
          exact OW.out
        go_wp2_with fail
        go_roundw
        case rel =>
          first
            | exact ⟨_, k + 1, by omega, by go_num, rfl, O3.out, HB.out⟩
            | exact ⟨k + 1, by omega, by go_num, O3.out, HB.out⟩
        case measure => simp [intOf]; omega
      · rw [e2] at PK
        rw [e1] at NM
        simp only [pt, Option.map_some] at NM
        simp only at PK
        have RD := hide (rready_any B _ st x.sd _ q)
        clear e1 e2 Q1 q
        go_wp2_with fail
        generalize wr.alloc (.cells #[.bool x.sd, .int .i64 x.ch, .int .i64 x.v] 92) = W1 at XN HB OW NM RD ⊢
        generalize wr.heap.size = A at XN ⊢
        refine NM.out.mono ?_
        rintro r z1 ⟨rfl, rfl⟩
        have e0 : z1.cell? ⟨A, 0, none⟩ = some (.bool x.sd) := cell_of XN.out 0
        go_wp2_with fail
        refine RD.out.mono ?_
        rintro r z2 ⟨rfl, k2⟩
        have HB2 := hide (btr HB.out k2)
        have OW2 := hide (own_below OW.out k2)
        clear k2 HB OW NM RD e0 XN
        cases hP : rdy st x.sd
        · have EX : Hid (ps P (k + 1) = X) := by show _ = _; rw [SU.out, PK.out, hP]; simp
          have O3 : Hid (z2.ownsRow w.heap.size 3 1 u5 (ps P (k + 1)).length (ic (ps P (k + 1)))) := by
            show World.ownsRow _ _ _ _ _ _ _
            rw [EX.out]
            exact OW2.out
          go_wp2_with fail
          go_roundw
          case rel =>
            first
              | exact ⟨_, k + 1, by omega, by go_num, rfl, O3.out, HB2.out⟩
              | exact ⟨k + 1, by omega, by go_num, O3.out, HB2.out⟩
          case measure => simp [intOf]; omega
        · have EX : Hid (ps P (k + 1) = X ++ [(k : Int)]) := by show _ = _; rw [SU.out, PK.out, hP]; simp
          have BY := below_alloc z2 (.cells #[.int .i64 (k : Int)] 3)
          have OW3 := hide (own_below OW2.out BY)
          have HB3 := hide (btr HB2.out BY)
          have SRC := hide (cell_one_new z2 (.int .i64 (k : Int)) 3)
          clear BY OW2 HB2
          go_wp2_with (at_builtin; refine wpList_append_own _ rfl _ _ 23 rfl w.heap.size 3 i0 (.int .i64 0) 1 8 Tryz.underlying23 INF.out.1 INF.out.2.1 INF.out.2.2.1 INF.out.2.2.2 rfl (by decide) _ _ _ rfl OW3.out ⟨z2.heap.size, 0, none⟩ 1 1 [.int .i64 (k : Int)] rfl rfl ?c1 ?c2 ?c3 ?c4 ?c5 ?_)
          case c1 => exact SRC.out
          case c2 => exact ic_one [(k : Int)]
          case c3 => unfold maxLen; omega
          case c4 => omega
          case c5 => exact HB3.out.size
          intro v' w3 ho hg3 _
          have B3 : Hid (Below w.heap.size w w3) := HB3.out.grown hg3 HB3.out.size (fun x hx => (OW3.out.lt x hx).1)
          have O3 : Hid (w3.ownsRow w.heap.size 3 1 v' (ps P (k + 1)).length (ic (ps P (k + 1)))) := by
            show World.ownsRow _ _ _ _ _ _ _
            rw [EX.out, ic_app, List.length_append]
            exact ho
          clear ho hg3
          go_wp2_with fail
          go_roundw
          case rel =>
            first
              | exact ⟨v', k + 1, by omega, by go_num, rfl, O3.out, B3.out⟩
              | ((repeat apply Exists.intro); exact ⟨⟨v', k + 1, by omega, by go_num, rfl, O3.out, B3.out⟩, rfl⟩)
          case measure => simp [intOf]; omega
    · have hlt' : ¬ ((k : Int) < (l.length : Int)) := by omega
      obtain rfl : k = l.length := by omega
      obtain ⟨oa', c', hv', _, _⟩ := own_at ho
      subst hv'
      have HO := hide ho
      have HB := hide hb
      clear ho hb
      go_wp2_with fail
      go_ret
      exact ⟨oa', c', rfl, HO.out, HB.out⟩
end Fk
end Go.Proofs.YtddchcekljndmaaGreat
/- Package fork: rehearse, over this seat's program. -/
namespace Go.Proofs.YtddchcekljndmaaGreat
open Go.ChangeShapes Go.WideShapes Go.ChangeAt Go.RowKit
namespace Fk
open Ba Pe _root_.Go.Proofs.YtddchcekljndmaaGreat.Pi Rp

theorem ps_mem {P : Nat → Bool} {n : Nat} {k : Nat} (hk : k < (ps P n).length) : ∃ p : Nat, nth (ps P n) k = (p : Int) ∧ p < n ∧ P p = true := by
  rw [nth_lt _ _ hk]
  have hm := List.getElem_mem hk
  unfold ps at hm
  obtain ⟨p, hp, e⟩ := List.mem_map.1 hm
  rw [List.mem_filter, List.mem_range] at hp
  exact ⟨p, e.symm, hp.1, hp.2⟩
/-- do two cases stand in one pew? -/
def smP (bs : List (Option Nat)) (c : Ca) (l : List Ca) : Nat → Bool := fun i => match l[i]? with | none => false | some o => decide (nmB bs o.ch = nmB bs c.ch) && (o.sd == c.sd)
theorem size_pipe : (Tryz.prog.info? 185).map (·.size) = some 6 := by kernel_rfl
theorem eql_none (a : Addr) (w : World) : (binOp .eql 150 (.pointer none) (.pointer (some a))).run Tryz.prog w = .ok (.bool false) w := by
  have h : ∀ d : Nat, (Op.equalIn (d + 1) 150 (.pointer none) (.pointer (some a))).run Tryz.prog w = .ok false w := fun d => by
    simp [Op.equalIn, run_underlying Tryz.underlying150]
  simp only [binOp]
  simp [Op.equal, Op.maxDepth, h 9999]
theorem eql_pipes (D B : Nat) (w : World) (hB : ∃ c t, w.heap[B]? = some (.cells c t (0, 0))) (hD : ∃ c t, w.heap[D]? = some (.cells c t (0, 0))) : (binOp .eql 150 (.pointer (some ⟨D, 0, none⟩)) (.pointer (some ⟨B, 0, none⟩))).run Tryz.prog w = .ok (.bool (decide (D = B))) w := by
  cases hi : Tryz.prog.info? 185 with
  | none => have := size_pipe; rw [hi] at this; cases this
  | some j =>
  have hs := size_pipe
  rw [hi] at hs
  simp at hs
  by_cases e : D = B
  · subst e
    rw [decide_eq_true rfl]
    exact run_eql_ptr_same w _ Tryz.underlying150 hi
  · rw [decide_eq_false e]
    obtain ⟨c1, t1, h1⟩ := hB
    obtain ⟨c2, t2, h2⟩ := hD
    exact run_eql_ptr_other w Tryz.underlying150 hi (by omega) (fun q => e (by simp at q)) h2 h1
set_option maxRecDepth 100000 in
theorem rehearse1_any (o c : Ca) (q : Option Nat) (B X Y : Nat) (w : World) (hX : w.cell? ⟨X, 0, none⟩ = some (.pointer (some ⟨B, 0, none⟩))) (hY : w.cell? ⟨Y, 0, none⟩ = some (.bool c.sd)) (hB : ∃ c t, w.heap[B]? = some (.cells c t (0, 0))) (hD : ∀ D, q = some D → ∃ c t, w.heap[D]? = some (.cells c t (0, 0))) :
    Calls Tryz.prog 147 #[cv o, pt q, .pointer (some ⟨X, 0, none⟩), .pointer (some ⟨Y, 0, none⟩)] w fun r w' => r = .returned (.bool (decide (q = some B) && (o.sd == c.sd))) ∧ Below w.heap.size w w' := by
  have hXl := World.block_lt_of_cell? w _ hX
  have hYl := World.block_lt_of_cell? w _ hY
  simp only at hXl hYl
  have lift : ∀ {D : Nat}, (∃ c t, w.heap[D]? = some (.cells c t (0, 0))) → ∃ c t, (w.alloc (.cells #[.bool o.sd, .int .i64 o.ch, .int .i64 o.v] 92)).heap[D]? = some (.cells c t (0, 0)) := fun ⟨c, t, h⟩ => ⟨c, t, heap_below h (below_alloc _ _)⟩
  unfold cv
  cases q with
  | none =>
    have he := eql_none ⟨B, 0, none⟩ (w.alloc (.cells #[.bool o.sd, .int .i64 o.ch, .int .i64 o.v] 92))
    simp only [pt, Option.map_none]
    clear lift hB hD
    go_enter Tryz.func147, Tryz.ntmps147
    go_wp2_with fail
    go_ret
    exact ⟨ret_bool (by simp), below_alloc _ _⟩
  | some D =>
    have he := eql_pipes D B (w.alloc (.cells #[.bool o.sd, .int .i64 o.ch, .int .i64 o.v] 92)) (lift hB) (lift (hD D rfl))
    simp only [pt, Option.map_some]
    clear lift hB hD
    by_cases e : D = B
    · subst e
      rw [decide_eq_true rfl] at he
      go_enter Tryz.func147, Tryz.ntmps147
      go_wp2_with fail
      go_ret
      exact ⟨ret_bool (by simp), below_alloc _ _⟩
    · rw [decide_eq_false e] at he
      go_enter Tryz.func147, Tryz.ntmps147
      go_wp2_with fail
      go_ret
      exact ⟨ret_bool (by simp [e]), below_alloc _ _⟩
theorem waiting_new (B : Nat) (F : Nat → Prop) (st : St) (b : Bool) (w : World) (h : Pp w B F st) :
    Calls Tryz.prog 146 #[.pointer (some ⟨B, 0, none⟩), .bool b] w fun r w' => ∃ oa c, r = .returned (.slice oa (own st b).length c) ∧ WAt w' oa (own st b) ∧ Below w.heap.size w w' ∧ ∀ a, oa = some a → w.heap.size ≤ a.block := by
  obtain ⟨R, S, Q, FS, FQ, h⟩ := h
  have SD := hide (h.side b)
  have LS := hide (list_new (sd S Q b) _ w (h.pew b))
  clear h
  generalize sd S Q b = X at SD LS
  generalize own st b = L at LS ⊢
  go_enter Tryz.func146, Tryz.ntmps146
  go_wp2_with fail
  refine SD.out.mono ?_
  rintro r w1 ⟨rfl, rfl⟩
  go_wp2_with fail
  refine LS.out.mono ?_
  rintro r w2 ⟨oa, c, rfl, hA, b2, n2⟩
  have B2 := hide b2
  have HA := hide hA
  have N2 := hide n2
  clear b2 hA n2
  go_wp2_with fail
  go_ret
  exact ⟨oa, c, rfl, HA.out, B2.out, N2.out⟩
/-- a pew of one's own, newer than w -/
structure Tr (w wr : World) (T : Nat) (F : Nat → Prop) (t : List Wt) : Prop where
  p : PF wr T F t
  b : Below w.heap.size w wr
  lo : ∀ k, F k → w.heap.size ≤ k
theorem Tr.below {w a c : World} {T : Nat} {F : Nat → Prop} {t : List Wt} (h : Tr w a T F t) (hb : Below a.heap.size a c) : Tr w c T F t := ⟨h.p.below hb, btr h.b hb, h.lo⟩
theorem Tr.step {w a c : World} {T : Nat} {F F' : Nat → Prop} {t t' : List Wt} (h : Tr w a T F t) (k : KF F a c) (i : Nw F' F a) (p : PF c T F' t') : Tr w c T F' t' :=
  ⟨p, k.below h.b h.lo, fun x hx => by
    rcases i x hx with q | q
    · exact h.lo x q
    · exact Nat.le_trans h.b.size q⟩
theorem al_len (l : List Wt) (x : Wt) : (al l x).length ≤ l.length + 1 := by
  unfold al
  split
  · split <;> simp
  · omega
theorem ae_ok {l : List Wt} {x : Wt} (h : okb x = true) (hl : l.length ≠ 1024) : ae l x = 0 := by simp [ae, h, hl]
theorem pp_blk {w : World} {B : Nat} {F : Nat → Prop} {st : St} (h : Pp w B F st) : ∃ c t, w.heap[B]? = some (.cells c t (0, 0)) := by
  obtain ⟨R, S, Q, FS, FQ, h⟩ := h
  exact ⟨_, _, h.hp⟩
theorem own_at2 {w : World} {base : Nat} {v : Value} {l : List Int} (h : w.ownsRow base 3 1 v l.length (ic l)) : ∃ oa c, v = .slice oa l.length c ∧ At w oa l ∧ ∀ a, oa = some a → base ≤ a.block := by
  obtain ⟨oa, c, e, h1, h2⟩ := own_at h
  refine ⟨oa, c, e, h1, fun a ea => ?_⟩
  rcases h.2 with ⟨e2, h0⟩ | ⟨g, cap, cur, e2, hbase, _⟩
  · rw [e, ea] at e2
    cases e2
  · rw [e, ea] at e2
    simp only [Value.slice.injEq, Option.some.injEq] at e2
    rw [e2.1]
    exact hbase
theorem at_kf {w w' : World} {F : Nat → Prop} {oa : Option Addr} {l : List Int} (h : At w oa l) (k : KF F w w') (hn : ∀ a, oa = some a → ¬ F a.block) : At w' oa l := by
  intro j hj
  obtain ⟨b, off, e, h0⟩ := h j hj
  exact ⟨b, off, e, k.cell h0 (hn _ e)⟩
set_option maxRecDepth 100000 in
set_option maxHeartbeats 6400000 in
theorem rehearse_ok (g : Int) (c : Ca) (oc : Option Addr) (l : List Ca) (cc : Nat) (oa : Option Addr) (bs : List (Option Nat)) (cp : Nat) (Fs : Nat → Nat → Prop) (sts : List (Option St)) (B : Nat) (st : St) (w : World) (hC : CaAt w oc l) (h : Qs Pp w oa bs Fs sts) (hl : l.length ≤ 4) (hg : 0 ≤ g) (hB : nmB bs c.ch = some B) (hP : ∀ u, Below w.heap.size w u → ∃ F, Pp u B F st) (hle : (own st c.sd).length ≤ 1000) :
    Calls Tryz.prog 130 #[.int .i64 g, cv c, .slice oc l.length cc, .slice oa bs.length cp] w fun r w' => r = .returned (.int .i64 0) ∧ Below w.heap.size w w' := by
  have b1 := below_alloc w (.cells #[.bool c.sd, .int .i64 c.ch, .int .i64 c.v] 92)
  have b2 := below_alloc (w.alloc (.cells #[.bool c.sd, .int .i64 c.ch, .int .i64 c.v] 92)) (.cells #[.pointer (some ⟨B, 0, none⟩)] 150)
  have BB := hide (btr b1 b2)
  have X1 := hide (heap_new w (.cells #[.bool c.sd, .int .i64 c.ch, .int .i64 c.v] 92))
  have X2 := hide (heap_below (heap_new w (.cells #[.bool c.sd, .int .i64 c.ch, .int .i64 c.v] 92)) b2)
  have hy := heap_new (w.alloc (.cells #[.bool c.sd, .int .i64 c.ch, .int .i64 c.v] 92)) (.cells #[.pointer (some ⟨B, 0, none⟩)] 150)
  rw [World.size_alloc] at hy
  have Y2 := hide hy
  have NM := hide (named_any oa bs c.ch cp _ (h.row.below b1))
  rw [hB] at NM
  simp only [pt, Option.map_some] at NM
  have HC := hide hC
  have HQ := hide h
  have HB := hide hB
  have HP := hide hP
  clear hC h hB hP b1 b2 hy
  unfold cv
  go_enter Tryz.func130, Tryz.ntmps130
  go_wp2_with fail
  refine NM.out.mono ?_
  rintro r w1 ⟨rfl, hw1⟩
  subst hw1
  go_wp2_with fail
  generalize (w.alloc (.cells #[.bool c.sd, .int .i64 c.ch, .int .i64 c.v] 92)).alloc (.cells #[.pointer (some ⟨B, 0, none⟩)] 150) = W2 at BB X2 Y2 ⊢
  refine (Pe.new_any _).mono ?_
  rintro r w3 ⟨rfl, p3, b3⟩
  have T3 : Hid (Tr w w3 W2.heap.size (fun k => k = W2.heap.size) []) := ⟨p3, btr BB.out b3, fun k e => by have e' : k = W2.heap.size := e; rw [e']; exact BB.out.size⟩
  have X3 := hide (heap_below X2.out b3)
  have Y3 := hide (heap_below Y2.out b3)
  have x0 : w3.cell? ⟨w.heap.size, 0, none⟩ = some (.bool c.sd) := cell_of X3.out 0
  have y0 : w3.cell? ⟨w.heap.size + 1, 0, none⟩ = some (.pointer (some ⟨B, 0, none⟩)) := cell_of Y3.out 0
  have hTn : w.heap.size + 1 < W2.heap.size := heap_lt Y2.out
  clear p3 b3 X2 Y2 NM
  generalize W2.heap.size = T at T3 hTn ⊢
  obtain ⟨F0, pp⟩ := HP.out _ T3.out.b
  have WT := hide (waiting_new B F0 st c.sd _ pp)
  clear pp
  obtain ⟨n1, hn1⟩ : ∃ n1, (own st c.sd).length = n1 := ⟨_, rfl⟩
  rw [hn1] at WT hle
  have HN1 := hide hn1
  clear hn1
  go_wp2_with fail
  refine WT.out.mono ?_
  rintro r w4 ⟨o4, c4, rfl, at4, b4, n4⟩
  have N4 := hide n4
  have hw34 := b4.size
  have hTw3 := T3.out.p.lt
  have F4 : Hid (∀ x, x = T → x = T ∨ w4.heap.size ≤ x) := fun _ e => .inl e
  have T4 := hide (T3.out.below b4)
  have A4 := hide at4
  have L4 := hide fun (q : 0 < (own st c.sd).length) => at4.lt q
  have X4 := hide (heap_below X3.out b4)
  have Y4 := hide (heap_below Y3.out b4)
  clear b4 at4 n4 T3 X3 Y3 x0 y0 WT
  go_wp2_with fail
  go_loopw [27] (fun i wr => ∃ (k : Nat) (F : Nat → Prop) (t : List Wt), k ≤ n1 ∧ i = .int .i64 k ∧ t.length ≤ k ∧ Tr w wr T F t ∧ (∀ x, F x → x = T ∨ w4.heap.size ≤ x) ∧ WAt wr o4 (own st c.sd) ∧ wr.heap[w.heap.size]? = some (.cells #[.bool c.sd, .int .i64 c.ch, .int .i64 c.v] 92) ∧ wr.heap[w.heap.size + 1]? = some (.cells #[.pointer (some ⟨B, 0, none⟩)] 150) ∧ w4.heap.size ≤ wr.heap.size) (fun i _ => n1 - (intOf i).toNat)
  case atStart => exact ⟨0, fun k => k = T, [], Nat.zero_le _, rfl, Nat.le_refl _, T4.out, F4.out, A4.out, X4.out, Y4.out, Nat.le_refl _⟩
  case round =>
    clear T4 A4 X4 Y4 F4
    obtain ⟨k, F, t, hk, rfl, ht, t5, f5, a5, x5, y5, hsz⟩ := hrel
    have T5 := hide t5
    have F5 := hide f5
    have A5 := hide a5
    have X5 := hide x5
    have Y5 := hide y5
    clear t5 f5 a5 x5 y5
    by_cases hlt : k < n1
    · have hlt' : (k : Int) < (n1 : Int) := by omega
      have hkl : k < (own st c.sd).length := by have := HN1.out; omega
      obtain ⟨y, hy⟩ : ∃ y, (own st c.sd)[k]? = some y := ⟨_, List.getElem?_eq_getElem hkl⟩
      obtain ⟨by', oy, eo, q0, q1, q2⟩ := A5.out k y hy
      have hbl4 : by' < wr.heap.size := World.block_lt_of_cell? wr _ q0
      have NL : Hid (∀ a, o4 = some a → ¬ F a.block) := by
        intro a e hf
        have h1 := N4.out a e
        rcases F5.out _ hf with z | z
        · omega
        · have := L4.out (by omega) a e
          omega
      subst eo
      have bx := below_alloc wr (.cells #[.int .i64 y.g, .int .i64 y.c, .int .i64 y.v] 158)
      have T6 := hide (T5.out.below bx)
      have AD := hide (add_any T F t y _ T6.out.p)
      have A6 := hide (A5.out.below bx)
      have X6 := hide (heap_below X5.out bx)
      have Y6 := hide (heap_below Y5.out bx)
      have sz6 : wr.heap.size ≤ (wr.alloc (.cells #[.int .i64 y.g, .int .i64 y.c, .int .i64 y.v] 158)).heap.size := bx.size
      have hal := al_len t y
      unfold wv at AD
      clear hy bx
      go_wp2_with fail
      refine AD.out.mono ?_
      rintro r w7 ⟨rfl, k7, F7, n7, p7⟩
      have T7 := hide (T6.out.step k7 n7 p7)
      have A7 := hide (A6.out.kf k7 NL.out)
      have X7 := hide (k7.heap X6.out (fun hf => by rcases F5.out _ hf with z | z <;> omega))
      have Y7 := hide (k7.heap Y6.out (fun hf => by rcases F5.out _ hf with z | z <;> omega))
      have F7' : Hid (∀ x, F7 x → x = T ∨ w4.heap.size ≤ x) := fun x hx => by
        rcases n7 x hx with z | z
        · exact F5.out x z
        · exact .inr (by omega)
      have sz7 := k7.size
      clear k7 n7 p7
      go_wp2_with fail
      go_roundw
      case rel => exact ⟨k + 1, F7, al t y, by omega, by go_num, by omega, T7.out, F7'.out, A7.out, X7.out, Y7.out, by omega⟩
      case measure => simp [intOf]; omega
    · have hlt' : ¬ ((k : Int) < (n1 : Int)) := by omega
      have szw : w.heap.size + 1 < wr.heap.size := heap_lt Y5.out
      have BD5 := hide T5.out.p.bd
      have GS : Hid (∀ u, Below wr.heap.size wr u → Calls Tryz.prog 126 #[.slice oc l.length cc, .slice oa bs.length cp, .func (.func 147) #[] #[.pointer (some ⟨w.heap.size + 1, 0, none⟩), .pointer (some ⟨w.heap.size, 0, none⟩)]] u fun r w' => ∃ ob d, r = .returned (.slice ob (ps (smP bs c l) l.length).length d) ∧ w'.ownsRow u.heap.size 3 1 (.slice ob (ps (smP bs c l) l.length).length d) (ps (smP bs c l) l.length).length (ic (ps (smP bs c l) l.length)) ∧ Below u.heap.size u w') := by
        intro u hu
        have bu := btr T5.out.b hu
        refine gather_s (w.heap.size + 1) w.heap.size (smP bs c l) oc l cc oa bs cp u (HC.out.below bu) (HQ.out.row.below bu) (by omega) ?_
        intro i o v hi hv
        have bv := btr bu hv
        have hX := heap_below (heap_below X5.out hu) hv
        have hY := heap_below (heap_below Y5.out hu) hv
        have e : smP bs c l i = (decide (nmB bs o.ch = some B) && (o.sd == c.sd)) := by
          unfold smP
          rw [hi]
          simp only [HB.out]
        rw [e]
        refine rehearse1_any o c (nmB bs o.ch) B _ _ v (cell_of hY 0) (cell_of hX 0) ?_ ?_
        · obtain ⟨F1, p1⟩ := HP.out v bv
          exact pp_blk p1
        · intro D hD
          rcases (HQ.out.below frP bv).nm o.ch with ⟨q, _⟩ | ⟨B1, s1, q, _, _, _, _, _, p1⟩
          · rw [q] at hD
            cases hD
          · rw [q] at hD
            cases hD
            exact pp_blk p1
      obtain ⟨l2, hl2⟩ : ∃ l2, l2 = ps (smP bs c l) l.length := ⟨_, rfl⟩
      have hpl := ps_len (smP bs c l) l.length
      rw [← hl2] at GS hpl
      have MB : Hid (∀ k, k < l2.length → ∃ p : Nat, nth l2 k = (p : Int) ∧ p < l.length) := by
        intro k hk
        rw [hl2] at hk ⊢
        obtain ⟨p, e, hp, _⟩ := ps_mem hk
        exact ⟨p, e, hp⟩
      clear hl2 A5 HN1 N4 L4 X5 Y5
      go_wp2_with fail
      refine (GS.out _ (by first | exact Below.refl _ _ | exact bdrew1 _)).mono ?_
      rintro r w6 ⟨o6, d6, rfl, ow6, b6⟩
      obtain ⟨o6', c6', e6, at6, nb6⟩ := own_at2 ow6
      simp only [Value.slice.injEq] at e6
      obtain ⟨rfl, -, rfl⟩ := e6
      have A6 := hide at6
      have N6 := hide nb6
      have L6 := hide fun (q : 0 < l2.length) => at6.lt q
      have T6 := hide (T5.out.below (by first | exact b6 | exact btr (bdrew1 _) b6))
      have sz6 : wr.heap.size ≤ w6.heap.size := by first | exact b6.size | exact (btr (bdrew1 _) b6).size
      clear at6 nb6 ow6 b6 GS T5
      obtain ⟨n2, hn2⟩ : ∃ n2, l2.length = n2 := ⟨_, rfl⟩
      rw [hn2] at MB hpl L6
      have HN2 := hide hn2
      rw [hn2]
      clear hn2
      go_wp2_with fail
      go_loopw [41] (fun i wz => ∃ (j : Nat) (F' : Nat → Prop) (t' : List Wt), j ≤ n2 ∧ i = .int .i64 j ∧ t'.length ≤ n1 + j ∧ Tr w wz T F' t' ∧ (∀ x, F' x → F x ∨ w6.heap.size ≤ x) ∧ At wz o6 l2 ∧ w6.heap.size ≤ wz.heap.size) (fun i _ => n2 - (intOf i).toNat)
      case atStart => exact ⟨0, F, t, Nat.zero_le _, rfl, by omega, T6.out, fun _ e => .inl e, A6.out, Nat.le_refl _⟩
      case round =>
        clear T6 A6
        obtain ⟨j, F7, t7, hj, rfl, ht7, t8, f8, a8, hs8⟩ := hrel
        have T8 := hide t8
        have F8 := hide f8
        have A8 := hide a8
        clear t8 f8 a8
        by_cases hjl : j < n2
        · have hjl' : (j : Int) < (n2 : Int) := by omega
          have hjn : j < l2.length := by have := HN2.out; omega
          obtain ⟨p, ep, hp⟩ := MB.out j hjl
          obtain ⟨b9, off9, e9, q9⟩ := A8.out j hjn
          rw [ep] at q9
          have NL : Hid (∀ a, o6 = some a → ¬ F7 a.block) := by
            intro a e hf
            have h1 := N6.out a e
            have h2 := L6.out (by omega) a e
            rcases F8.out _ hf with z | z
            · have := BD5.out _ z
              omega
            · omega
          subst e9
          have hp' : (p : Int) < (l.length : Int) := by omega
          obtain ⟨o, ho⟩ : ∃ o, l[p]? = some o := ⟨_, List.getElem?_eq_getElem hp⟩
          obtain ⟨bc, offc, rfl, c0, c1, c2⟩ := HC.out.below T8.out.b p o ho
          have WA := hide (waiter_any g p o wr)
          unfold cv wv at WA
          have ALL : Hid (∀ u, Below wr.heap.size wr u → Calls Tryz.prog 116 #[.pointer (some ⟨T, 0, none⟩), wv ⟨g, p, o.v⟩] u fun r w' => r = .returned (.int .i64 0) ∧ ∃ F', Tr w w' T F' (al t7 ⟨g, p, o.v⟩) ∧ (∀ x, F' x → F x ∨ w6.heap.size ≤ x) ∧ At w' (some ⟨b9, off9, none⟩) l2 ∧ w6.heap.size ≤ w'.heap.size) := by
            intro u hu
            have TU := T8.out.below hu
            refine (add_any T F7 t7 ⟨g, p, o.v⟩ u TU.p).mono ?_
            rintro r w9 ⟨rfl, k9, F9, n9, p9⟩
            refine ⟨by rw [ae_ok ((okb_iff _).2 ⟨hg, by simp only; omega⟩) (by omega)], F9, TU.step k9 n9 p9, ?_, at_kf (A8.out.below hu) k9 NL.out, ?_⟩
            · intro x hx
              rcases n9 x hx with z | z
              · exact F8.out x z
              · exact .inr (by have := hu.size; omega)
            · have := hu.size
              have := k9.size
              omega
          unfold wv at ALL
          have hal := al_len t7 ⟨g, p, o.v⟩
          clear MB ho NL
          go_wp2_with fail
          refine WA.out.mono ?_
          rintro r w9 ⟨rfl, b9'⟩
          have B9 := hide b9'
          clear b9' c0 c1 c2 q9
          go_wp2_with fail
          refine (ALL.out _ B9.out).mono ?_
          rintro r w10 ⟨rfl, F10, t10, f10, a10, s10⟩
          have T10 := hide t10
          have G10 := hide f10
          have A10 := hide a10
          clear t10 f10 a10 ALL WA
          go_wp2_with fail
          go_roundw
          case rel => exact ⟨j + 1, F10, _, by omega, by go_num, by omega, T10.out, G10.out, A10.out, s10⟩
          case measure => simp [intOf]; omega
        · have hjl' : ¬ ((j : Int) < (n2 : Int)) := by omega
          have B9 := hide T8.out.b
          go_wp2_with fail
          go_ret
          exact ⟨rfl, B9.out⟩
end Fk
end Go.Proofs.YtddchcekljndmaaGreat
/- Package fork: Park's own facts. -/
namespace Go.Proofs.YtddchcekljndmaaGreat
open Go.ChangeShapes Go.WideShapes Go.ChangeAt Go.RowKit
namespace Fk
open Ba Pe _root_.Go.Proofs.YtddchcekljndmaaGreat.Pi Rp

/-- one case waits -/
def pk1 (g : Int) (p : Nat) (c : Ca) (s : List (Option St)) : List (Option St) := match nmB s c.ch with | none => s | some st => s.set c.ch.toNat (some (waitS st c.sd ⟨g, p, c.v⟩))
/-- the cases below k wait -/
def pkS (g : Int) (l : List Ca) (s : List (Option St)) : Nat → List (Option St)
  | 0 => s
  | k + 1 => match l[k]? with | none => pkS g l s k | some c => pk1 g k c (pkS g l s k)
/-- the cases at places wait -/
def pkL (g : Int) (l : List Ca) (s : List (Option St)) (L : List Int) : List (Option St) := L.foldl (fun s p => match l[p.toNat]? with | none => s | some c => pk1 g p.toNat c s) s
theorem pkL_app (g : Int) (l : List Ca) (s : List (Option St)) (L : List Int) (p : Nat) (c : Ca) (h : l[p]? = some c) : pkL g l s (L ++ [(p : Int)]) = pk1 g p c (pkL g l s L) := by
  unfold pkL
  rw [List.foldl_append]
  simp only [List.foldl_cons, List.foldl_nil, Int.toNat_natCast, h]
/-- has the case a channel? -/
def hasC (s : List (Option St)) (l : List Ca) : Nat → Bool := fun i => match l[i]? with | none => false | some c => (nmB s c.ch).isSome
theorem nmB_set {s : List (Option St)} {c d : Int} {st : St} (v : St) (h : nmB s c = some st) : nmB (s.set c.toNat (some v)) d = if d = c then some v else nmB s d := by
  unfold nmB at h ⊢
  split at h
  · cases h
  · rename_i e
    rw [List.length_set]
    by_cases ed : d = c
    · subst ed
      rw [if_neg e, if_pos rfl, List.getElem?_set_self (by omega)]
      rfl
    · rw [if_neg ed]
      split
      · rfl
      · rw [List.getElem?_set_ne (by omega)]
theorem nmB_at {s : List (Option St)} {c : Int} {st : St} (h : nmB s c = some st) : s[c.toNat]? = some (some st) := by
  unfold nmB at h
  split at h
  · cases h
  · cases e : s[c.toNat]? with
    | none => rw [e] at h; cases h
    | some o => rw [e] at h; exact congrArg some h
theorem pk1_none (g : Int) (p : Nat) (c : Ca) (s : List (Option St)) (d : Int) : nmB (pk1 g p c s) d = none ↔ nmB s d = none := by
  unfold pk1
  cases h : nmB s c.ch with
  | none => rfl
  | some st =>
    simp only
    rw [nmB_set _ h]
    by_cases e : d = c.ch
    · subst e
      rw [if_pos rfl, h]
      simp
    · rw [if_neg e]
theorem pkS_none (g : Int) (l : List Ca) (s : List (Option St)) (k : Nat) (d : Int) : nmB (pkS g l s k) d = none ↔ nmB s d = none := by
  induction k with
  | zero => rfl
  | succ k ih =>
    unfold pkS
    cases h : l[k]? with
    | none => exact ih
    | some c => exact (pk1_none g k c _ d).trans ih
theorem pk_ps (g : Int) (l : List Ca) (s : List (Option St)) (k : Nat) : pkL g l s (ps (hasC s l) k) = pkS g l s k := by
  induction k with
  | zero => rfl
  | succ k ih =>
    rw [ps_succ]
    unfold pkS
    cases h : l[k]? with
    | none =>
      have e : hasC s l k = false := by unfold hasC; rw [h]
      rw [e]
      simp only [Bool.false_eq_true, if_false]
      exact ih
    | some c =>
      cases hn : nmB s c.ch with
      | none =>
        have e : hasC s l k = false := by unfold hasC; rw [h]; simp only [hn]; rfl
        rw [e]
        simp only [Bool.false_eq_true, if_false]
        rw [ih]
        unfold pk1
        rw [(pkS_none g l s k c.ch).2 hn]
      | some st =>
        have e : hasC s l k = true := by unfold hasC; rw [h]; simp only [hn]; rfl
        rw [e]
        simp only [if_true]
        rw [pkL_app g l s _ k c h, ih]
/-- no case is ready for g, but for its own waiters -/
structure Iv (g : Int) (l : List Ca) (m : Nat) (s : List (Option St)) : Prop where
  no : ∀ c ∈ l, ∀ st, nmB s c.ch = some st → st.closed = false ∧ room st c.sd = false ∧ ∀ x ∈ own st (!c.sd), x.g = g
  le : ∀ (i : Nat) (st : St), s[i]? = some (some st) → ∀ b, (own st b).length ≤ m
theorem dr_nil {g : Int} {L : List Wt} (h : ∀ x ∈ L, x.g = g) : dr g L = [] := by
  unfold dr
  rw [List.filter_eq_nil_iff]
  intro x hx
  simp [h x hx]
theorem Iv.ok {g : Int} {l : List Ca} {m : Nat} {s : List (Option St)} (h : Iv g l m s) (hg : 0 ≤ g) (hm : m < 1024) {c : Ca} (hc : c ∈ l) {st : St} (hn : nmB s c.ch = some st) (p : Nat) : waitE st c.sd ⟨g, p, c.v⟩ = 0 ∧ waitS st c.sd ⟨g, p, c.v⟩ = if c.sd then { st with snd := st.snd ++ [⟨g, p, c.v⟩] } else { st with rcv := st.rcv ++ [⟨g, p, c.v⟩] } := by
  obtain ⟨h1, h2, h3⟩ := h.no c hc st hn
  have hl := h.le _ _ (nmB_at hn)
  have hr : rdyBut st c.sd g = false := by
    unfold rdyBut
    rw [h1, h2, dr_nil h3]
    rfl
  have ho : okb ⟨g, (p : Int), c.v⟩ = true := (okb_iff _).2 ⟨hg, by simp only; omega⟩
  unfold waitE waitS
  simp only [hr, Bool.false_eq_true, if_false]
  refine ⟨ae_ok ho (by have := hl c.sd; omega), ?_⟩
  have ht := hl true
  have hf := hl false
  unfold own at ht hf
  simp only [if_true, Bool.false_eq_true, if_false] at ht hf
  have e1 : al st.snd ⟨g, (p : Int), c.v⟩ = st.snd ++ [⟨g, (p : Int), c.v⟩] := by
    unfold al
    rw [if_pos ho, if_neg (by omega)]
  have e2 : al st.rcv ⟨g, (p : Int), c.v⟩ = st.rcv ++ [⟨g, (p : Int), c.v⟩] := by
    unfold al
    rw [if_pos ho, if_neg (by omega)]
  rw [e1, e2]
theorem Iv.step {g : Int} {l : List Ca} {m : Nat} {s : List (Option St)} (h : Iv g l m s) (hg : 0 ≤ g) (hm : m < 1024) {c : Ca} (hc : c ∈ l) (p : Nat) : Iv g l (m + 1) (pk1 g p c s) := by
  unfold pk1
  cases hn : nmB s c.ch with
  | none => exact ⟨h.no, fun i st hi b => Nat.le_succ_of_le (h.le i st hi b)⟩
  | some st =>
    simp only
    rw [(h.ok hg hm hc hn p).2]
    constructor
    · intro d hd st' hs
      rw [nmB_set _ hn] at hs
      by_cases e : d.ch = c.ch
      · rw [if_pos e] at hs
        rw [← e] at hn
        obtain ⟨h1, h2, h3⟩ := h.no d hd st hn
        cases hs
        cases hcs : c.sd
        · simp only [Bool.false_eq_true, if_false]
          refine ⟨h1, h2, ?_⟩
          cases hds : d.sd
          · rw [hds] at h3; exact h3
          · rw [hds] at h3
            intro x hx
            rcases List.mem_append.1 hx with q | q
            · exact h3 x q
            · rw [List.mem_singleton] at q; rw [q]
        · simp only [if_true]
          refine ⟨h1, h2, ?_⟩
          cases hds : d.sd
          · rw [hds] at h3
            intro x hx
            rcases List.mem_append.1 hx with q | q
            · exact h3 x q
            · rw [List.mem_singleton] at q; rw [q]
          · rw [hds] at h3; exact h3
      · rw [if_neg e] at hs
        exact h.no d hd st' hs
    · intro i st' hi b
      have hl := h.le _ _ (nmB_at hn)
      by_cases e : i = c.ch.toNat
      · subst e
        have hlt := (List.getElem?_eq_some_iff.1 (nmB_at hn)).1
        rw [List.getElem?_set_self hlt] at hi
        cases hi
        have ht := hl true
        have hf := hl false
        unfold own at ht hf ⊢
        simp only [if_true, Bool.false_eq_true, if_false] at ht hf
        cases c.sd <;> cases b <;> simp <;> omega
      · rw [List.getElem?_set_ne (fun q => e q.symm)] at hi
        exact Nat.le_succ_of_le (h.le i st' hi b)
theorem Iv.all {g : Int} {l : List Ca} {m : Nat} {s : List (Option St)} (h : Iv g l m s) (hg : 0 ≤ g) (k : Nat) (hm : m + k < 1024) : Iv g l (m + k) (pkS g l s k) := by
  induction k with
  | zero => exact h
  | succ k ih =>
    have i1 := ih (by omega)
    unfold pkS
    cases hk : l[k]? with
    | none => exact ⟨i1.no, fun i st hi b => by have := i1.le i st hi b; omega⟩
    | some c => exact i1.step hg (by omega) (List.mem_of_getElem? hk) k
theorem ps_nil {P : Nat → Bool} {n : Nat} (h : ps P n = []) (k : Nat) (hk : k < n) : P k = false := by
  unfold ps at h
  rw [List.map_eq_nil_iff, List.filter_eq_nil_iff] at h
  have := h k (List.mem_range.2 hk)
  simpa using this
theorem Iv.start {g : Int} {l : List Ca} {m : Nat} {s : List (Option St)} (h : rdyL l s = []) (hl : ∀ (i : Nat) (st : St), s[i]? = some (some st) → ∀ b, (own st b).length ≤ m) : Iv g l m s := by
  refine ⟨fun c hc st hn => ?_, hl⟩
  obtain ⟨k, hk⟩ := List.getElem?_of_mem hc
  have hkl := (List.getElem?_eq_some_iff.1 hk).1
  have q := ps_nil h k hkl
  simp only [hk] at q
  unfold crdy at q
  rw [hn] at q
  simp only at q
  unfold rdy at q
  simp only [Bool.or_eq_false_iff, decide_eq_false_iff_not, Nat.not_lt, Nat.le_zero] at q
  refine ⟨q.1.1, q.1.2, fun x hx => ?_⟩
  rw [List.eq_nil_of_length_eq_zero q.2] at hx
  cases hx
/-- what Park answers, and what it leaves -/
def pkBad (g : Int) (l : List Ca) : Bool := decide (g < 0) || decide (4 < l.length)
def pkE (g : Int) (l : List Ca) (s : List (Option St)) : Int := if pkBad g l = true then 1 else if 0 < (rdyL l s).length then 7 else 0
def pkN (g : Int) (l : List Ca) (s : List (Option St)) : Int := if pkBad g l = true then 0 else if 0 < (rdyL l s).length then 0 else ((ps (hasC s l) l.length).length : Int)
def pkA (g : Int) (l : List Ca) (s : List (Option St)) : List (Option St) := if pkBad g l = true then s else if 0 < (rdyL l s).length then s else pkS g l s l.length
end Fk
end Go.Proofs.YtddchcekljndmaaGreat
/- Package pick: allBetween, take, over this seat's program. -/
namespace Go.Proofs.YtddchcekljndmaaGreat
open Go.ChangeShapes Go.WideShapes Go.ChangeAt Go.RowKit
namespace Pk
open Ba

/-- all from lo to hi -/
def ab (lo hi : Int) (l : List Int) : Bool := l.all fun x => decide (lo ≤ x) && decide (x ≤ hi)
theorem ab_iff (lo hi : Int) (l : List Int) : ab lo hi l = true ↔ ∀ x ∈ l, lo ≤ x ∧ x ≤ hi := by
  simp [ab]
theorem ab_nth {lo hi : Int} {l : List Int} : ab lo hi l = true ↔ ∀ k, k < l.length → lo ≤ nth l k ∧ nth l k ≤ hi := by
  rw [ab_iff]
  constructor
  · intro h k hk
    rw [nth_lt l k hk]
    exact h _ (List.getElem_mem hk)
  · intro h x hx
    obtain ⟨k, hk, rfl⟩ := List.mem_iff_getElem.1 hx
    rw [← nth_lt l k hk]
    exact h k hk

set_option maxHeartbeats 1600000 in
theorem between_any (oa : Option Addr) (l : List Int) (c : Nat) (lo hi : Int) (w : World) (hA : At w oa l) (hl : l.length ≤ maxLen) :
    Calls Tryz.prog 61 #[.slice oa l.length c, .int .i64 lo, .int .i64 hi] w fun r w' => r = .returned (.bool (ab lo hi l)) ∧ w' = w := by
  have HA := hide hA
  clear hA
  unfold maxLen at hl
  go_enter Tryz.func61, Tryz.ntmps61
  go_wp2_with fail
  go_loop [11] (fun i => ∃ k : Nat, k ≤ l.length ∧ i = .int .i64 k ∧ ∀ j, j < k → lo ≤ nth l j ∧ nth l j ≤ hi) (fun i => l.length - (intOf i).toNat)
  case atStart => exact ⟨0, Nat.zero_le _, rfl, fun j hj => absurd hj (Nat.not_lt_zero _)⟩
  case round =>
    obtain ⟨k, hk, rfl, hall⟩ := hrel
    have HE := hide hall
    clear hall
    by_cases hlt : k < l.length
    · obtain ⟨b1, o1, rfl, hc1⟩ := HA.out k hlt
      have hlt' : (k : Int) < (l.length : Int) := by omega
      cases h1 : decide (nth l k < lo)
      · cases h2 : decide (hi < nth l k)
        · have HX : Hid (lo ≤ nth l k ∧ nth l k ≤ hi) := by show _ ∧ _; simp at h1 h2; exact ⟨h1, h2⟩
          go_wp2_with fail
          go_round
          case rel => exact ⟨k + 1, by omega, by go_num, fun j hj => by
            by_cases e : j = k
            · subst e; exact HX.out
            · exact HE.out j (by omega)⟩
          case measure => simp [intOf]; omega
        · have HX : Hid (ab lo hi l = false) := by
            show _ = _
            simp at h2
            rw [← Bool.not_eq_true]
            intro e
            have := ab_nth.1 e k hlt
            omega
          go_wp2_with fail
          go_ret
          exact ⟨ret_bool HX.out.symm, rfl⟩
      · have HX : Hid (ab lo hi l = false) := by
          show _ = _
          simp at h1
          rw [← Bool.not_eq_true]
          intro e
          have := ab_nth.1 e k hlt
          omega
        go_wp2_with fail
        go_ret
        exact ⟨ret_bool HX.out.symm, rfl⟩
    · have HX : Hid (ab lo hi l = true) := ab_nth.2 fun j hj => HE.out j (by omega)
      go_wp2_with fail
      go_ret
      exact ⟨ret_bool HX.out.symm, rfl⟩

theorem take_none (C i : Nat) (oa : Option Addr) (c : Nat) (w : World) (h : w.cell? ⟨C, i, none⟩ = some (.slice oa 0 c)) :
    Calls Tryz.prog 91 #[.pointer (some ⟨C, i, none⟩)] w fun r w' => r = .returned (.tuple #[.int .i64 0, .bool false]) ∧ w' = w := by
  go_enter Tryz.func91, Tryz.ntmps91
  go_wp2_with fail
  go_ret2
  exact ⟨rfl, rfl⟩
theorem take_some (C i b off n c : Nat) (x : Int) (w : World) (h : w.cell? ⟨C, i, none⟩ = some (.slice (some ⟨b, off, none⟩) (n + 1) c)) (hf : w.frozen? ⟨C, i, none⟩ = false) (hc : w.cell? ⟨b, off, none⟩ = some (.int .i64 x)) (hn : n + 1 ≤ c) :
    Calls Tryz.prog 91 #[.pointer (some ⟨C, i, none⟩)] w fun r w' => r = .returned (.tuple #[.int .i64 x, .bool true]) ∧ ∃ off', (0 < n → off' = off + 1) ∧ w' = w.setCell ⟨C, i, none⟩ (.slice (some ⟨b, off', none⟩) n (c - 1)) := by
  go_enter Tryz.func91, Tryz.ntmps91
  go_wp2_with fail
  · go_ret2
    exact ⟨rfl, off, fun h => by omega, rfl⟩
  · go_ret2
    exact ⟨rfl, off + 1, fun _ => rfl, rfl⟩

/-- a cursor lies in block C -/
def Cur (w : World) (C : Nat) (p d : List Int) : Prop :=
  ∃ oa ca ob cb, w.heap[C]? = some (.cells #[.slice oa p.length ca, .slice ob d.length cb] 112 (0, 0)) ∧ (At w oa p ∧ p.length ≤ ca ∧ ∀ a, oa = some a → a.block < C) ∧ At w ob d ∧ d.length ≤ cb ∧ ∀ a, ob = some a → a.block < C
theorem Cur.kb {w w' : World} {C : Nat} {p d : List Int} {R : Nat} (h : Cur w C p d) (k : KB R w w') (hR : C < R) : Cur w' C p d := by
  obtain ⟨oa, ca, ob, cb, h0, ⟨h1, h2, h4⟩, h5, h6, h8⟩ := h
  exact ⟨oa, ca, ob, cb, k.heap h0 (by omega), ⟨k.at h1 fun a e => by have := h4 a e; omega, h2, h4⟩, k.at h5 fun a e => by have := h8 a e; omega, h6, h8⟩
theorem Cur.below {w w' : World} {C : Nat} {p d : List Int} (h : Cur w C p d) (hb : Below w.heap.size w w') : Cur w' C p d := by
  obtain ⟨oa, ca, ob, cb, h0, ⟨h1, h2, h4⟩, h5, h6, h8⟩ := h
  exact ⟨oa, ca, ob, cb, heap_below h0 hb, ⟨h1.below hb, h2, h4⟩, h5.below hb, h6, h8⟩
theorem at_tail {w w' : World} {C i b off off' : Nat} {x : Int} {l : List Int} {v : Value} (h : At w (some ⟨b, off, none⟩) (x :: l)) (hb : b < C) (ho : 0 < l.length → off' = off + 1) (hw : w' = w.setCell ⟨C, i, none⟩ v) : At w' (some ⟨b, off', none⟩) l := by
  subst hw
  intro k hk
  obtain rfl := ho (by omega)
  obtain ⟨b', o', e, hc⟩ := ((KB.refl C w).setCell i v).at h.tail (fun a e => by cases e; show b ≠ C; omega) k hk
  exact ⟨b', o', e, hc⟩
theorem hmf : ∀ (fn : Fn) (first cap : Array Value) (w : World), (Instr.makeFunc fn first cap).run Tryz.prog w = .ok (.func fn first cap) w := fun _ _ _ _ => rfl

theorem takers_any (C : Nat) (w : World) :
    Calls Tryz.prog 64 #[.pointer (some ⟨C, 0, none⟩)] w fun r w' => r = .returned (.tuple #[.func (.func 91) #[.pointer (some ⟨C, 0, none⟩)] #[], .func (.func 91) #[.pointer (some ⟨C, 1, none⟩)] #[]]) ∧ Below w.heap.size w w' := by
  have hm := hmf
  go_enter Tryz.func64, Tryz.ntmps64
  go_wp2_with fail
  go_region
  all_goals
    go_wp2_with fail
    go_ret2
    exact ⟨rfl, bdrew1 _⟩
theorem takers_nil (w : World) :
    Calls Tryz.prog 64 #[.pointer none] w fun r w' => r = .returned (.tuple #[.func (.func 91) #[.pointer (some ⟨w.heap.size, 0, none⟩)] #[], .func (.func 91) #[.pointer (some ⟨w.heap.size, 0, none⟩)] #[]]) ∧ Below w.heap.size w w' ∧ w'.cell? ⟨w.heap.size, 0, none⟩ = some (.slice none 0 0) := by
  have hm := hmf
  go_enter Tryz.func64, Tryz.ntmps64
  go_wp2_with fail
  go_ret2
  exact ⟨rfl, below_alloc _ _, cell_of (heap_new _ _) 0⟩
end Pk
end Go.Proofs.YtddchcekljndmaaGreat
/- Package pick: Next, Draw, Left, fresh, New, Copy, over this seat's program. -/
namespace Go.Proofs.YtddchcekljndmaaGreat
open Go.ChangeShapes Go.WideShapes Go.ChangeAt Go.RowKit
namespace Pk
open Ba

theorem next_none (C : Nat) (d : List Int) (w : World) (h : Cur w C [] d) :
    Calls Tryz.prog 32 #[.pointer (some ⟨C, 0, none⟩)] w fun r w' => r = .returned (.tuple #[.int .i64 0, .bool false]) ∧ Below w.heap.size w w' := by
  obtain ⟨oa, ca, ob, cb, h0, _⟩ := h
  have H := hide h0
  clear h0
  go_enter Tryz.func32, Tryz.ntmps32
  go_wp2_with fail
  refine (takers_any _ _).mono ?_
  rintro r w1 ⟨rfl, b1⟩
  have c0 := cell_of (heap_below H.out b1) 0
  have B := hide b1
  clear b1
  go_wp2_with fail
  refine (take_none C 0 oa ca _ c0).mono ?_
  rintro r w2 ⟨rfl, rfl⟩
  go_wp2_with fail
  go_ret2
  exact ⟨rfl, B.out⟩
theorem next_some (C : Nat) (x : Int) (p d : List Int) (w : World) (h : Cur w C (x :: p) d) :
    Calls Tryz.prog 32 #[.pointer (some ⟨C, 0, none⟩)] w fun r w' => r = .returned (.tuple #[.int .i64 x, .bool true]) ∧ Cur w' C p d ∧ KB C w w' := by
  obtain ⟨oa, ca, ob, cb, h0, ⟨h1, h2, h4⟩, h5, h6, h8⟩ := h
  obtain ⟨b, off, rfl, hc⟩ := h1.head
  have hbC := h4 _ rfl
  simp only at hbC
  have H := hide h0
  have H1 := hide h1
  have H5 := hide h5
  have HC := hide hc
  simp at h2
  clear h0 h1 h5 hc
  go_enter Tryz.func32, Tryz.ntmps32
  go_wp2_with fail
  refine (takers_any _ _).mono ?_
  rintro r w1 ⟨rfl, b1⟩
  have G1 := hide (heap_below H.out b1)
  have c0 := cell_of G1.out 0
  have f0 := frozen_of G1.out 0
  have A1 := hide (H1.out.below b1)
  have A5 := hide (H5.out.below b1)
  obtain ⟨_, _, e, hc⟩ := A1.out.head
  simp at e
  obtain ⟨rfl, rfl⟩ := e
  have B := hide b1
  clear b1
  go_wp2_with fail
  refine (take_some C 0 b off p.length ca x _ c0 f0 hc h2).mono ?_
  rintro r w2 ⟨rfl, off', ho, hw⟩
  have HW := hide hw
  have HO := hide ho
  clear hw ho
  go_wp2_with fail
  go_ret2
  refine ⟨rfl, ⟨some ⟨b, off', none⟩, ca - 1, ob, cb, ?_, ⟨at_tail A1.out hbC HO.out HW.out, by omega, fun a e => by cases e; exact hbC⟩, ?_, h6, h8⟩, ?_⟩
  · rw [HW.out, Ba.heap_setCell_same G1.out]
    rfl
  · rw [HW.out]
    exact ((KB.refl C w1).setCell 0 _).at A5.out fun a e => by have := h8 a e; omega
  · rw [HW.out]
    exact (KB.of B.out).setCell 0 _
theorem next_nil (w : World) :
    Calls Tryz.prog 32 #[.pointer none] w fun r w' => r = .returned (.tuple #[.int .i64 0, .bool false]) ∧ Below w.heap.size w w' := by
  go_enter Tryz.func32, Tryz.ntmps32
  go_wp2_with fail
  refine (takers_nil _).mono ?_
  rintro r w1 ⟨rfl, b1, c0⟩
  have B := hide b1
  clear b1
  go_wp2_with fail
  refine (take_none _ 0 none 0 _ c0).mono ?_
  rintro r w2 ⟨rfl, rfl⟩
  go_wp2_with fail
  go_ret2
  exact ⟨rfl, B.out⟩

theorem draw_arg (o : Option Addr) (n : Int) (w : World) (h : n < 1 ∨ 64 < n) :
    Calls Tryz.prog 102 #[.pointer o, .int .i64 n] w fun r w' => r = .returned (.tuple #[.int .i64 0, .int .i64 1]) ∧ w' = w := by
  by_cases h1 : n < 1
  · have d1 : decide (n < 1) = true := by simp; omega
    go_enter Tryz.func102, Tryz.ntmps102
    go_wp2_with fail
    go_ret2
    exact ⟨rfl, rfl⟩
  · have d1 : decide (n < 1) = false := by simp; omega
    have d2 : decide (64 < n) = true := by simp; omega
    go_enter Tryz.func102, Tryz.ntmps102
    go_wp2_with fail
    go_ret2
    exact ⟨rfl, rfl⟩
theorem draw_one (o : Option Addr) (w : World) :
    Calls Tryz.prog 102 #[.pointer o, .int .i64 1] w fun r w' => r = .returned (.tuple #[.int .i64 0, .int .i64 0]) ∧ w' = w := by
  go_enter Tryz.func102, Tryz.ntmps102
  go_wp2_with fail
  go_ret2
  exact ⟨rfl, rfl⟩
theorem draw_none (C : Nat) (p : List Int) (n : Int) (w : World) (h : 2 ≤ n ∧ n ≤ 64) (hC : Cur w C p []) :
    Calls Tryz.prog 102 #[.pointer (some ⟨C, 0, none⟩), .int .i64 n] w fun r w' => r = .returned (.tuple #[.int .i64 0, .int .i64 0]) ∧ Below w.heap.size w w' := by
  obtain ⟨oa, ca, ob, cb, h0, _⟩ := hC
  have H := hide h0
  clear h0
  have d1 : decide (n < 1) = false := by simp; omega
  have d2 : decide (64 < n) = false := by simp; omega
  have d3 : (n == 1) = false := by simp; omega
  have n1 := h.1
  have n2 := h.2
  go_enter Tryz.func102, Tryz.ntmps102
  go_wp2_with fail
  refine (takers_any _ _).mono ?_
  rintro r w1 ⟨rfl, b1⟩
  have c0 := cell_of (heap_below H.out b1) 1
  have B := hide b1
  clear b1
  go_wp2_with fail
  refine (take_none C 1 ob cb _ c0).mono ?_
  rintro r w2 ⟨rfl, rfl⟩
  go_wp2_with fail
  go_ret2
  exact ⟨by simp, B.out⟩
theorem draw_some (C : Nat) (x : Int) (p d : List Int) (n : Int) (w : World) (h : 2 ≤ n ∧ n ≤ 64) (hx : 0 ≤ x) (hC : Cur w C p (x :: d)) :
    Calls Tryz.prog 102 #[.pointer (some ⟨C, 0, none⟩), .int .i64 n] w fun r w' => r = .returned (.tuple #[.int .i64 (x % n), .int .i64 0]) ∧ Cur w' C p d ∧ KB C w w' := by
  obtain ⟨oa, ca, ob, cb, h0, ⟨h1, h2, h4⟩, h5, h6, h8⟩ := hC
  obtain ⟨b, off, rfl, hc⟩ := h5.head
  have hbC := h8 _ rfl
  simp only at hbC
  have H := hide h0
  have H1 := hide h1
  have H5 := hide h5
  simp at h6
  clear h0 h1 h5 hc
  have d1 : decide (n < 1) = false := by simp; omega
  have d2 : decide (64 < n) = false := by simp; omega
  have d3 : (n == 1) = false := by simp; omega
  have n1 := h.1
  have n2 := h.2
  go_enter Tryz.func102, Tryz.ntmps102
  go_wp2_with fail
  refine (takers_any _ _).mono ?_
  rintro r w1 ⟨rfl, b1⟩
  have G1 := hide (heap_below H.out b1)
  have c0 := cell_of G1.out 1
  have f0 := frozen_of G1.out 1
  have A1 := hide (H1.out.below b1)
  have A5 := hide (H5.out.below b1)
  obtain ⟨_, _, e, hc⟩ := A5.out.head
  simp at e
  obtain ⟨rfl, rfl⟩ := e
  have B := hide b1
  clear b1
  go_wp2_with fail
  refine (take_some C 1 b off d.length cb x _ c0 f0 hc h6).mono ?_
  rintro r w2 ⟨rfl, off', ho, hw⟩
  have HW := hide hw
  have HO := hide ho
  clear hw ho
  go_wp2_with fail
  go_ret2
  refine ⟨rfl, ⟨oa, ca, some ⟨b, off', none⟩, cb - 1, ?_, ⟨?_, h2, h4⟩, at_tail A5.out hbC HO.out HW.out, by omega, fun a e => by cases e; exact hbC⟩, ?_⟩
  · rw [HW.out, Ba.heap_setCell_same G1.out]
    rfl
  · rw [HW.out]
    exact ((KB.refl C w1).setCell 1 _).at A1.out fun a e => by have := h4 a e; omega
  · rw [HW.out]
    exact (KB.of B.out).setCell 1 _

theorem left_any (C : Nat) (p d : List Int) (w : World) (h : Cur w C p d) :
    Calls Tryz.prog 38 #[.pointer (some ⟨C, 0, none⟩)] w fun r w' => r = .returned (.tuple #[.int .i64 p.length, .int .i64 d.length]) ∧ Below w.heap.size w w' := by
  obtain ⟨oa, ca, ob, cb, h0, _⟩ := h
  have c0 := cell_of h0 0
  have c1 := cell_of h0 1
  simp at c0 c1
  clear h0
  go_enter Tryz.func38, Tryz.ntmps38
  go_wp2_with fail
  go_quiet (fail)
  go_wp2_with fail
  go_ret2
  exact ⟨rfl, by first | exact bdrew _ _ | exact Below.refl _ _⟩
end Pk
end Go.Proofs.YtddchcekljndmaaGreat
/- Package pick: fresh, New, Copy and the laws' own draws(), over this seat's program. -/
namespace Go.Proofs.YtddchcekljndmaaGreat
open Go.ChangeShapes Go.WideShapes Go.ChangeAt Go.RowKit
namespace Pk
open Ba

theorem info_int : (Tryz.prog.info? 3).map (fun i => (i.zero, i.size, i.bytes)) = some (some (.int .i64 0), 1, 8) := by kernel_rfl
theorem run_fresh (w : World) (oa : Option Addr) (l : List Int) (c : Nat) (ty : TypeId) (hA : At w oa l) (hl : l.length ≤ 1000) :
    ∃ ob d W, (Builtin.append_ #[109, 109] ty #[.slice none 0 0, .slice oa l.length c]).run Tryz.prog w = .ok (.slice ob l.length d) W ∧ l.length ≤ d ∧ At W ob l ∧ (∀ a, ob = some a → a.block < W.heap.size) ∧ Below w.heap.size w W := by
  cases hi : Tryz.prog.info? 3 with
  | none => have := info_int; rw [hi] at this; cases this
  | some i =>
    have hx := info_int
    rw [hi] at hx
    simp at hx
    obtain ⟨hz, hs, hb⟩ := hx
    by_cases h0 : l.length = 0
    · obtain rfl := List.eq_nil_of_length_eq_zero h0
      refine ⟨none, 0, w, ?_, Nat.le_refl _, At.nil _ _, fun a e => (by cases e), Below.refl _ _⟩
      have hs0 : (Builtin.firstCells 1 0 (.slice oa 0 c)).run Tryz.prog w = .ok #[] w := by
        cases oa with
        | none => exact run_firstCells_none w 1 0 0 c
        | some a => exact run_firstCells_some w 1 0 a 0 c [] rfl (fun j v h => by simp at h)
      simp [Builtin.append_, run_underlying Tryz.underlying109, sizeOf, typeInfo, hi, hs, Builtin.lenOf, hs0]
    · obtain ⟨b, off, rfl, _⟩ := hA 0 (by omega)
      have hnews : ∀ j u, (l.map (Value.int .i64))[j]? = some u → w.cell? ((⟨b, off, none⟩ : Addr).add j) = some u := by
        intro j u hu
        have hj : j < l.length := by
          rcases Nat.lt_or_ge j l.length with q | q
          · exact q
          · rw [List.getElem?_eq_none (by simpa using q)] at hu; cases hu
        obtain ⟨b', off', e, hc⟩ := hA j hj
        simp at e
        obtain ⟨rfl, rfl⟩ := e
        rw [List.getElem?_map, List.getElem?_eq_getElem hj] at hu
        simp at hu
        rw [← hu, ← nth_lt l j hj, Addr.add_lit]
        exact hc
      have src := Src.ofSlice (P := Tryz.prog) w (size := 1) Tryz.underlying109 ⟨b, off, none⟩ l.length c (l.map (Value.int .i64)) (by simp) hnews (fun u hu => by
        obtain ⟨x, _, rfl⟩ := List.mem_map.1 hu
        rfl)
      have hold : (Builtin.firstCells i.size 0 (.slice none 0 0)).run Tryz.prog w.drew = .ok ([] : List Value).toArray w.drew := run_firstCells_none w.drew i.size 0 0 0
      have hcap : Builtin.nextslicecap (0 + l.length) 0 * i.bytes ≤ 281474976710656 := by
        rw [Nat.zero_add, nextslicecap_zero (by omega), hb]
        omega
      have := run_append_grow_src (P := Tryz.prog) w 109 109 ty 3 i (.int .i64 0) Tryz.underlying109 hi hz none 0 0 [] hold (.slice (some ⟨b, off, none⟩) l.length c) l.length (l.map (Value.int .i64)) (by rw [hs]; exact src) (by omega) (by omega) hcap
      simp only [Nat.zero_add, List.nil_append] at this
      refine ⟨_, _, _, this, grownCap_ge _ _ _ _, ?_, fun a e => (by cases e; simp), btr (bdrew1 w) (below_alloc _ _)⟩
      intro k hk
      refine ⟨w.heap.size, 0, rfl, ?_⟩
      rw [Nat.zero_add]
      have hn := heap_new w.drew (.cells ((l.map (Value.int .i64)).toArray ++ Builtin.zeroCells (Value.cells (.int .i64 0)) (grownCap w l.length 0 3 - l.length)) 3)
      have := cell_of hn k
      rw [show w.drew.heap.size = w.heap.size from rfl] at this
      rw [this, Array.getElem?_append_left (by simpa using hk)]
      exact row_at l k hk

theorem fresh_any (oa : Option Addr) (l : List Int) (c : Nat) (w : World) (hA : At w oa l) (hl : l.length ≤ 1000) :
    Calls Tryz.prog 62 #[.slice oa l.length c] w fun r w' => ∃ ob d, r = .returned (.slice ob l.length d) ∧ l.length ≤ d ∧ At w' ob l ∧ (∀ a, ob = some a → a.block < w'.heap.size) ∧ Below w.heap.size w w' := by
  obtain ⟨ob, d, W, hr, h1, h2, h3, h4⟩ := run_fresh w oa l c 109 hA hl
  have HR := hide hr
  have H2 := hide h2
  have H4 := hide h4
  clear hr h2 h4 hA
  go_enter Tryz.func62, Tryz.ntmps62
  go_wp2_with (at_builtin; refine Lib.wpList_append_run _ rfl _ _ 109 109 rfl _ _ rfl rfl _ _ HR.out ?_)
  go_ret
  exact ⟨ob, d, rfl, h1, H2.out, h3, H4.out⟩

/-- what a new cursor is, or why there is none -/
def ne (p d : List Int) : Int := bif decide (200 < p.length) || decide (64 < d.length) then 2 else bif ab (-1) 1000 p && ab 0 1000 d then 0 else 4

theorem new_err (oa ob : Option Addr) (p d : List Int) (c e : Nat) (w : World) (hA : At w oa p) (hB : At w ob d) (hp : p.length ≤ maxLen) (hd : d.length ≤ maxLen) (x : Int) (hx : ne p d = x) (h0 : x ≠ 0) :
    Calls Tryz.prog 26 #[.slice oa p.length c, .slice ob d.length e] w fun r w' => r = .returned (.tuple #[.pointer none, .int .i64 x]) ∧ w' = w := by
  subst hx
  have HA := hide hA
  have HB := hide hB
  have HP := hide hp
  have HD := hide hd
  unfold maxLen at hp hd
  clear hA hB
  unfold ne at h0 ⊢
  cases h1 : decide (200 < p.length)
  · have g1 : decide (200 < (p.length : Int)) = false := by simp at h1 ⊢; omega
    cases h2 : decide (64 < d.length)
    · have g2 : decide (64 < (d.length : Int)) = false := by simp at h2 ⊢; omega
      rw [h1, h2] at h0
      simp only [Bool.or_false, cond_false] at h0 ⊢
      cases h3 : ab (-1) 1000 p
      · simp only [Bool.false_and, cond_false]
        clear h0
        go_enter Tryz.func26, Tryz.ntmps26
        go_wp2_with fail
        refine (between_any oa p c (-1) 1000 _ HA.out HP.out).mono ?_
        rw [h3]
        rintro r w1 ⟨rfl, rfl⟩
        go_wp2_with fail
        go_ret2
        exact ⟨rfl, rfl⟩
      · cases h4 : ab 0 1000 d
        · simp only [Bool.and_false, cond_false]
          clear h0
          go_enter Tryz.func26, Tryz.ntmps26
          go_wp2_with fail
          refine (between_any oa p c (-1) 1000 _ HA.out HP.out).mono ?_
          rw [h3]
          rintro r w1 ⟨rfl, rfl⟩
          go_wp2_with fail
          refine (between_any ob d e 0 1000 _ HB.out HD.out).mono ?_
          rw [h4]
          rintro r w1 ⟨rfl, rfl⟩
          go_wp2_with fail
          go_ret2
          exact ⟨rfl, rfl⟩
        · rw [h3, h4] at h0
          exact absurd rfl h0
    · have g2 : decide (64 < (d.length : Int)) = true := by simp at h2 ⊢; omega
      simp only [Bool.or_true, cond_true]
      clear h0
      go_enter Tryz.func26, Tryz.ntmps26
      go_wp2_with fail
      go_ret2
      exact ⟨rfl, rfl⟩
  · have g1 : decide (200 < (p.length : Int)) = true := by simp at h1 ⊢; omega
    simp only [Bool.true_or, cond_true]
    clear h0
    go_enter Tryz.func26, Tryz.ntmps26
    go_wp2_with fail
    go_ret2
    exact ⟨rfl, rfl⟩
theorem ne_zero {p d : List Int} (h : ne p d = 0) : p.length ≤ 200 ∧ d.length ≤ 64 ∧ ab (-1) 1000 p = true ∧ ab 0 1000 d = true := by
  unfold ne at h
  cases h1 : decide (200 < p.length) <;> cases h2 : decide (64 < d.length) <;> cases h3 : ab (-1) 1000 p <;> cases h4 : ab 0 1000 d <;> rw [h1, h2, h3, h4] at h <;> simp at h h1 h2 ⊢
  exact ⟨h1, h2⟩
theorem new_ok (oa ob : Option Addr) (p d : List Int) (c e : Nat) (w : World) (hA : At w oa p) (hB : At w ob d) (h0 : ne p d = 0) :
    Calls Tryz.prog 26 #[.slice oa p.length c, .slice ob d.length e] w fun r w' => ∃ C, r = .returned (.tuple #[.pointer (some ⟨C, 0, none⟩), .int .i64 0]) ∧ w.heap.size ≤ C ∧ Cur w' C p d ∧ Below w.heap.size w w' := by
  obtain ⟨hp, hd, h3, h4⟩ := ne_zero h0
  have HA := hide hA
  have HB := hide hB
  clear hA hB h0
  have g1 : decide (200 < (p.length : Int)) = false := by simp; omega
  have g2 : decide (64 < (d.length : Int)) = false := by simp; omega
  go_enter Tryz.func26, Tryz.ntmps26
  go_wp2_with fail
  refine (between_any oa p c (-1) 1000 _ HA.out (by unfold maxLen; omega)).mono ?_
  rw [h3]
  rintro r w1 ⟨rfl, rfl⟩
  go_wp2_with fail
  refine (between_any ob d e 0 1000 _ HB.out (by unfold maxLen; omega)).mono ?_
  rw [h4]
  rintro r w1 ⟨rfl, rfl⟩
  go_wp2_with fail
  refine (fresh_any oa p c _ HA.out (by omega)).mono ?_
  rintro r w2 ⟨o1, c1, rfl, k1, k2, k3, k4⟩
  have K2 := hide k2
  have K4 := hide k4
  clear k2 k4
  go_wp2_with fail
  refine (fresh_any ob d e _ (HB.out.below K4.out) (by omega)).mono ?_
  rintro r w3 ⟨o2, c2, rfl, l1, l2, l3, l4⟩
  have L2 := hide l2
  have L4 := hide l4
  clear l2 l4
  go_wp2_with fail
  go_ret2
  have s1 := K4.out.size
  have s2 := L4.out.size
  exact ⟨w3.heap.size, rfl, by omega, ⟨o1, c1, o2, c2, heap_new _ _, ⟨(K2.out.below L4.out).below (below_alloc _ _), k1, fun a e => by have := k3 a e; omega⟩, L2.out.below (below_alloc _ _), l1, l3⟩, btr (btr K4.out L4.out) (below_alloc _ _)⟩

end Pk
end Go.Proofs.YtddchcekljndmaaGreat
/- Package pick: Copy, and the laws' own draws(), over this seat's program. -/
namespace Go.Proofs.YtddchcekljndmaaGreat
open Go.ChangeShapes Go.WideShapes Go.ChangeAt Go.RowKit
namespace Pk
open Ba

set_option maxRecDepth 100000 in
set_option maxHeartbeats 1600000 in
theorem copy_any (C : Nat) (p d : List Int) (w : World) (h : Cur w C p d) (hp : p.length ≤ 1000) (hd : d.length ≤ 1000) :
    Calls Tryz.prog 31 #[.pointer (some ⟨C, 0, none⟩)] w fun r w' => ∃ D, r = .returned (.pointer (some ⟨D, 0, none⟩)) ∧ w.heap.size ≤ D ∧ Cur w' D p d ∧ Below w.heap.size w w' := by
  obtain ⟨oa, ca, ob, cb, h0, ⟨h1, h2, h4⟩, h5, h6, h8⟩ := h
  have c0 := cell_of h0 0
  have c1 := cell_of h0 1
  simp at c0 c1
  have H := hide h0
  have H1 := hide h1
  have H5 := hide h5
  clear h0 h1 h5 h2 h4 h6 h8
  go_enter Tryz.func31, Tryz.ntmps31
  go_wp2_with fail
  go_region_with (first
    | (go_at_call_of 62 oa; refine (fresh_any oa p ca w.drew (H1.out.below (bdrew1 _)) hp).mono ?_; rintro r w1 ⟨o1, e1, rfl, k1, k2, k3, k4⟩; have K2 := hide k2; have K4 := hide k4; have d0 := (k4.cell (World.block_lt_of_cell? w _ c0)).trans c0; have d1 := (k4.cell (World.block_lt_of_cell? w _ c1)).trans c1; clear k2 k4)
    | (go_at_call_of 62 ob; refine (fresh_any ob d cb w.drew (H5.out.below (bdrew1 _)) hd).mono ?_; rintro r w1 ⟨o1, e1, rfl, k1, k2, k3, k4⟩; have K2 := hide k2; have K4 := hide k4; have d0 := (k4.cell (World.block_lt_of_cell? w _ c0)).trans c0; have d1 := (k4.cell (World.block_lt_of_cell? w _ c1)).trans c1; clear k2 k4)
    | (go_at_call_of 62 oa; refine (fresh_any oa p ca _ ((H1.out.below (bdrew1 _)).below K4.out) hp).mono ?_; rintro r w2 ⟨o2, e2, rfl, l1, l2, l3, l4⟩; have L2 := hide l2; have L4 := hide l4; clear l2 l4)
    | (go_at_call_of 62 ob; refine (fresh_any ob d cb _ ((H5.out.below (bdrew1 _)).below K4.out) hd).mono ?_; rintro r w2 ⟨o2, e2, rfl, l1, l2, l3, l4⟩; have L2 := hide l2; have L4 := hide l4; clear l2 l4))
  all_goals
    go_wp2_with fail
    go_ret
    have s1 := K4.out.size
    have s2 := L4.out.size
    have s0 : w.drew.heap.size = w.heap.size := rfl
    refine ⟨w2.heap.size, rfl, by omega, ?_, btr (btr (btr (bdrew1 w) K4.out) L4.out) (below_alloc _ _)⟩
    first
      | exact ⟨o1, e1, o2, e2, heap_new _ _, ⟨(K2.out.below L4.out).below (below_alloc _ _), k1, fun a e => by have := k3 a e; omega⟩, L2.out.below (below_alloc _ _), l1, l3⟩
      | exact ⟨o2, e2, o1, e1, heap_new _ _, ⟨L2.out.below (below_alloc _ _), l1, l3⟩, (K2.out.below L4.out).below (below_alloc _ _), k1, fun a e => by have := k3 a e; omega⟩

end Pk
end Go.Proofs.YtddchcekljndmaaGreat
/- Package pick: Of, and the reference's, over this seat's program. -/
namespace Go.Proofs.YtddchcekljndmaaGreat
open Go.ChangeShapes Go.WideShapes Go.ChangeAt Go.RowKit
namespace Pk
open Ba

theorem of_neg (p : Int) (oa : Option Addr) (n c : Nat) (w : World) (h : p < 0) :
    Calls Tryz.prog 33 #[.int .i64 p, .slice oa n c] w fun r w' => r = .returned (.tuple #[.int .i64 0, .int .i64 1]) ∧ w' = w := by
  go_enter Tryz.func33, Tryz.ntmps33
  go_wp2_with fail
  go_ret2
  exact ⟨rfl, rfl⟩
theorem of_none (p : Nat) (oa : Option Addr) (c : Nat) (w : World) :
    Calls Tryz.prog 33 #[.int .i64 (p : Int), .slice oa 0 c] w fun r w' => r = .returned (.tuple #[.int .i64 0, .int .i64 6]) ∧ w' = w := by
  have h : ¬ ((p : Int) < 0) := by omega
  go_enter Tryz.func33, Tryz.ntmps33
  go_wp2_with fail
  go_ret2
  exact ⟨rfl, rfl⟩
theorem of_ok (p : Nat) (oa : Option Addr) (l : List Int) (c : Nat) (w : World) (hA : At w oa l) (h0 : 0 < l.length) (hm : l.length ≤ maxLen) :
    Calls Tryz.prog 33 #[.int .i64 (p : Int), .slice oa l.length c] w fun r w' => r = .returned (.tuple #[.int .i64 (nth l (p % l.length)), .int .i64 0]) ∧ w' = w := by
  have hlt := Nat.mod_lt p h0
  obtain ⟨b, off, rfl, hc⟩ := hA _ hlt
  unfold maxLen at hm
  have h : ¬ ((p : Int) < 0) := by omega
  have h1 : ((l.length : Int) == 0) = false := by rw [beq_eq_false_iff_ne]; omega
  have h2 : (0 : Int) < (l.length : Int) := by omega
  have h3 : ((p : Int) % (l.length : Int)) = ((p % l.length : Nat) : Int) := by simp
  have h4 : ((p : Int).tmod (l.length : Int)) = ((p % l.length : Nat) : Int) := by rw [Int.tmod_eq_emod_of_nonneg (by omega), h3]
  have hlt' : ((p % l.length : Nat) : Int) < (l.length : Int) := by omega
  generalize p % l.length = q at *
  clear hA
  go_enter Tryz.func33, Tryz.ntmps33
  go_wp2_with fail
  go_ret2
  exact ⟨rfl, rfl⟩
end Pk
end Go.Proofs.YtddchcekljndmaaGreat
/- Package pick: Next and Draw of whatever cursor; the reference's, over this seat's program. -/
namespace Go.Proofs.YtddchcekljndmaaGreat
open Go.ChangeShapes Go.WideShapes Go.ChangeAt Go.RowKit
namespace Pk
open Ba

def nok (p : List Int) : Bool := !p.isEmpty
def dv (d : List Int) (n : Int) : Int := if n < 1 ∨ 64 < n then 0 else if n = 1 then 0 else nth d 0 % n
def de (n : Int) : Int := if n < 1 ∨ 64 < n then 1 else 0
def dr (d : List Int) (n : Int) : List Int := if n < 1 ∨ 64 < n ∨ n = 1 then d else d.tail
theorem dr_sub {d : List Int} {n x : Int} (h : x ∈ dr d n) : x ∈ d := by
  unfold dr at h
  split at h
  · exact h
  · exact List.mem_of_mem_tail h
theorem next_any (C : Nat) (p d : List Int) (w : World) (h : Cur w C p d) :
    Calls Tryz.prog 32 #[.pointer (some ⟨C, 0, none⟩)] w fun r w' => r = .returned (.tuple #[.int .i64 (nth p 0), .bool (nok p)]) ∧ Cur w' C p.tail d ∧ KB C w w' := by
  cases p with
  | nil =>
    refine (next_none C d w h).mono ?_
    rintro r w1 ⟨rfl, b1⟩
    exact ⟨rfl, h.below b1, KB.of b1⟩
  | cons x p => exact next_some C x p d w h
/-- the reference's cursor lies in block R: of lists below N, p and d are left -/
def RCur (w : World) (R N : Nat) (p d : List Int) : Prop :=
  ∃ oa ca ob cb P D p0 d0, w.heap[R]? = some (.cells #[.slice oa (p0 : List Int).length ca, .slice ob (d0 : List Int).length cb, .int .i64 ((P : Nat) : Int), .int .i64 ((D : Nat) : Int)] 89 (0, 0)) ∧ (At w oa p0 ∧ P ≤ p0.length ∧ p = p0.drop P ∧ p0.length ≤ 200 ∧ (0 < p0.length → ∀ a, oa = some a → a.block < N)) ∧ At w ob d0 ∧ D ≤ d0.length ∧ d = d0.drop D ∧ d0.length ≤ 64 ∧ (0 < d0.length → ∀ a, ob = some a → a.block < N)
theorem RCur.kb {w w' : World} {R N Q : Nat} {p d : List Int} (h : RCur w R N p d) (k : KB Q w w') (h1 : R ≠ Q) (h2 : N ≤ Q) : RCur w' R N p d := by
  obtain ⟨oa, ca, ob, cb, P, D, p0, d0, q0, ⟨q1, q2, q3, q4, q5⟩, q6, q7, q8, q9, q10⟩ := h
  exact ⟨oa, ca, ob, cb, P, D, p0, d0, k.heap q0 h1, ⟨k.at' q1 fun h a e => by have := q5 h a e; omega, q2, q3, q4, q5⟩, k.at' q6 fun h a e => by have := q10 h a e; omega, q7, q8, q9, q10⟩
theorem RCur.below {w w' : World} {R N : Nat} {p d : List Int} (h : RCur w R N p d) (hb : Below w.heap.size w w') : RCur w' R N p d := by
  obtain ⟨oa, ca, ob, cb, P, D, p0, d0, q0, ⟨q1, q2, q3, q4, q5⟩, q6, q7, q8, q9, q10⟩ := h
  exact ⟨oa, ca, ob, cb, P, D, p0, d0, heap_below q0 hb, ⟨q1.below hb, q2, q3, q4, q5⟩, q6.below hb, q7, q8, q9, q10⟩
theorem nth_drop (l : List Int) (P : Nat) : nth (l.drop P) 0 = nth l P := by simp [nth]
theorem nok_drop (l : List Int) (P : Nat) : nok (l.drop P) = decide (P < l.length) := by
  unfold nok
  cases h : l.drop P with
  | nil =>
    rw [List.drop_eq_nil_iff] at h
    simp [h]
  | cons x t =>
    have := congrArg List.length h
    simp at this
    simp
    omega

set_option maxHeartbeats 1600000 in
theorem rnext_any (R N : Nat) (p d : List Int) (w : World) (h : RCur w R N p d) (hN : N ≤ R) :
    Calls Tryz.prog 44 #[.pointer (some ⟨R, 0, none⟩)] w fun r w' => r = .returned (.tuple #[.int .i64 (nth p 0), .bool (nok p)]) ∧ RCur w' R N p.tail d ∧ KB R w w' := by
  obtain ⟨oa, ca, ob, cb, P, D, p0, d0, q0, ⟨q1, q2, q3, q4, q5⟩, q6, q7, q8, q9, q10⟩ := h
  subst q3 q8
  rw [nth_drop, nok_drop]
  have c0 := cell_of q0 0
  have c2 := cell_of q0 2
  have f2 := frozen_of q0 2
  simp at c0 c2
  have H := hide q0
  have H1 := hide q1
  have H6 := hide q6
  by_cases hP : P < p0.length
  · have hP' : decide ((p0.length : Int) ≤ (P : Int)) = false := by simp; omega
    have hPd : decide (P < p0.length) = true := by simp; omega
    rw [hPd]
    obtain ⟨b, off, rfl, hc⟩ := q1 P hP
    have hb : b < N := q5 (by omega) _ rfl
    have hc' : (w.setCell ⟨R, 2, none⟩ (.int .i64 ((P : Int) + 1))).cell? ⟨b, off + P, none⟩ = some (.int .i64 (nth p0 P)) := ((KB.refl R w).setCell 2 _).cell hc (by omega)
    have hlt' : (P : Int) < (p0.length : Int) := by omega
    have X := hide (Ba.heap_setCell_same q0 (i := 2) (.int .i64 ((P : Int) + 1)))
    have x0 := cell_of X.out 0
    have x2 := cell_of X.out 2
    simp at x0 x2
    clear q0 q1 q6
    go_enter Tryz.func44, Tryz.ntmps44
    go_wp2_with fail
    go_quiet (fail)
    go_wp2_with fail
    go_quiet (fail)
    go_wp2_with fail
    go_ret2
    refine ⟨rfl, ?_, by first | exact ((KB.refl R w).setCell 2 _).trans (KB.of (bdrew _ _)) | exact ((KB.of (bdrew _ _)).setCell 2 _).trans (KB.of (bdrew _ _))⟩
    refine RCur.below (w := w.setCell ⟨R, 2, none⟩ (.int .i64 ((P : Int) + 1))) ⟨some ⟨b, off, none⟩, ca, ob, cb, P + 1, D, p0, d0, ?_, ⟨((KB.refl R w).setCell 2 _).at' H1.out fun h a e => by have := q5 h a e; omega, by omega, by simp, q4, q5⟩, ((KB.refl R w).setCell 2 _).at' H6.out fun h a e => by have := q10 h a e; omega, q7, rfl, q9, q10⟩ (by first | exact bdrew _ _ | exact Below.refl _ _ | exact ⟨rfl, rfl, rfl, Nat.le_refl _, fun _ _ => rfl⟩)
    rw [X.out]
    rfl
  · have hP' : decide ((p0.length : Int) ≤ (P : Int)) = true := by simp; omega
    have hPd : decide (P < p0.length) = false := by simp; omega
    rw [hPd, nth_out p0 P (by omega)]
    clear q0 q1 q6
    go_enter Tryz.func44, Tryz.ntmps44
    go_wp2_with fail
    go_quiet (fail)
    go_wp2_with fail
    go_ret2
    refine ⟨rfl, RCur.below (w := w) ⟨oa, ca, ob, cb, P, D, p0, d0, H.out, ⟨H1.out, q2, ?_, q4, q5⟩, H6.out, q7, rfl, q9, q10⟩ (bdrew _ _), KB.of (bdrew _ _)⟩
    rw [List.drop_eq_nil_of_le (by omega)]
    rfl

set_option maxHeartbeats 1600000 in
theorem rdraw_any (R N : Nat) (p d : List Int) (n : Int) (w : World) (h : RCur w R N p d) (hN : N ≤ R) (hd : ∀ x ∈ d, 0 ≤ x) :
    Calls Tryz.prog 84 #[.pointer (some ⟨R, 0, none⟩), .int .i64 n] w fun r w' => r = .returned (.tuple #[.int .i64 (dv d n), .int .i64 (de n)]) ∧ RCur w' R N p (dr d n) ∧ KB R w w' := by
  by_cases h1 : n < 1 ∨ 64 < n
  · simp only [dv, de, dr, if_pos h1, if_pos (show n < 1 ∨ 64 < n ∨ n = 1 by omega)]
    have H := hide h
    clear h
    cases e1 : decide (n < 1)
    · have e2 : decide (64 < n) = true := by simp at e1 ⊢; omega
      clear h1
      go_enter Tryz.func84, Tryz.ntmps84
      go_wp2_with fail
      go_ret2
      exact ⟨rfl, H.out, KB.refl _ _⟩
    · clear h1
      go_enter Tryz.func84, Tryz.ntmps84
      go_wp2_with fail
      go_ret2
      exact ⟨rfl, H.out, KB.refl _ _⟩
  have e1 : decide (n < 1) = false := by simp; omega
  have e2 : decide (64 < n) = false := by simp; omega
  obtain ⟨oa, ca, ob, cb, P, D, p0, d0, q0, ⟨q1, q2, q3, q4, q5⟩, q6, q7, q8, q9, q10⟩ := h
  subst q3 q8
  have c1 := cell_of q0 1
  have c3 := cell_of q0 3
  have f3 := frozen_of q0 3
  simp at c1 c3
  have H := hide q0
  have H1 := hide q1
  have H6 := hide q6
  by_cases h2 : n = 1
  · subst h2
    simp only [dv, de, dr]
    clear q0 q1 q6
    go_enter Tryz.func84, Tryz.ntmps84
    go_wp2_with fail
    go_quiet (fail)
    go_wp2_with fail
    go_ret2
    exact ⟨rfl, RCur.below (w := w) ⟨oa, ca, ob, cb, P, D, p0, d0, H.out, ⟨H1.out, q2, rfl, q4, q5⟩, H6.out, q7, rfl, q9, q10⟩ (bdrew _ _), KB.of (bdrew _ _)⟩
  have e3 : (n == 1) = false := by rw [beq_eq_false_iff_ne]; exact h2
  simp only [dv, de, dr, if_neg h1, if_neg h2, if_neg (show ¬ (n < 1 ∨ 64 < n ∨ n = 1) by omega)]
  rw [nth_drop]
  have n1 : 2 ≤ n := by omega
  have n2 : n ≤ 64 := by omega
  clear h1 h2
  by_cases hP : D < d0.length
  · have hP' : decide ((d0.length : Int) ≤ (D : Int)) = false := by simp; omega
    obtain ⟨b, off, rfl, hc⟩ := q6 D hP
    have hb : b < N := q10 (by omega) _ rfl
    have hx : 0 ≤ nth d0 D := by
      refine hd _ ?_
      rw [← nth_drop, nth_lt _ 0 (by simp; omega)]
      exact List.getElem_mem _
    have hc' : (w.setCell ⟨R, 3, none⟩ (.int .i64 ((D : Int) + 1))).cell? ⟨b, off + D, none⟩ = some (.int .i64 (nth d0 D)) := ((KB.refl R w).setCell 3 _).cell hc (by omega)
    have hlt' : (D : Int) < (d0.length : Int) := by omega
    have X := hide (Ba.heap_setCell_same q0 (i := 3) (.int .i64 ((D : Int) + 1)))
    have x0 := cell_of X.out 1
    have x2 := cell_of X.out 3
    simp at x0 x2
    clear q0 q1 q6 hd
    go_enter Tryz.func84, Tryz.ntmps84
    go_wp2_with fail
    go_quiet (fail)
    go_wp2_with fail
    go_quiet (fail)
    go_wp2_with fail
    go_ret2
    refine ⟨by first | rfl | (rw [Int.tmod_eq_emod_of_nonneg hx]), ?_, by first | exact ((KB.refl R w).setCell 3 _).trans (KB.of (bdrew _ _)) | exact ((KB.of (bdrew _ _)).setCell 3 _).trans (KB.of (bdrew _ _))⟩
    refine RCur.below (w := w.setCell ⟨R, 3, none⟩ (.int .i64 ((D : Int) + 1))) ⟨oa, ca, some ⟨b, off, none⟩, cb, P, D + 1, p0, d0, ?_, ⟨((KB.refl R w).setCell 3 _).at' H1.out fun h a e => by have := q5 h a e; omega, by omega, rfl, q4, q5⟩, ((KB.refl R w).setCell 3 _).at' H6.out fun h a e => by have := q10 h a e; omega, by omega, by simp, q9, q10⟩ (by first | exact bdrew _ _ | exact Below.refl _ _ | exact ⟨rfl, rfl, rfl, Nat.le_refl _, fun _ _ => rfl⟩)
    rw [X.out]
    rfl
  · have hP' : decide ((d0.length : Int) ≤ (D : Int)) = true := by simp; omega
    rw [nth_out d0 D (by omega)]
    clear q0 q1 q6 hd
    go_enter Tryz.func84, Tryz.ntmps84
    go_wp2_with fail
    go_quiet (fail)
    go_wp2_with fail
    go_ret2
    refine ⟨by simp, RCur.below (w := w) ⟨oa, ca, ob, cb, P, D, p0, d0, H.out, ⟨H1.out, q2, rfl, q4, q5⟩, H6.out, q7, ?_, q9, q10⟩ (bdrew _ _), KB.of (bdrew _ _)⟩
    rw [List.drop_eq_nil_of_le (by omega)]
    rfl
end Pk
end Go.Proofs.YtddchcekljndmaaGreat
