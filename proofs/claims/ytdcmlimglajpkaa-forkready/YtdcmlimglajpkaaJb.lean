/- Package fork: gather, Ready, over this seat's program. -/
import Derived.Test.YtdcmlimglajpkaaJa
import Derived.Deep.RegionHeld3
namespace Go.Proofs.Ytdcmlimglajpkaa
open Go.ChangeShapes Go.WideShapes Go.ChangeAt Go.RowKit
namespace Fk
open Ba Pe _root_.Go.Proofs.Ytdcmlimglajpkaa.Pi Rp

/-- the places below n that are so -/
def ps (P : Nat → Bool) (n : Nat) : List Int := ((List.range n).filter P).map fun (i : Nat) => (i : Int)
theorem ps_zero (P : Nat → Bool) : ps P 0 = [] := rfl
theorem ps_succ (P : Nat → Bool) (n : Nat) : ps P (n + 1) = if P n = true then ps P n ++ [(n : Int)] else ps P n := by
  unfold ps
  rw [List.range_succ, List.filter_append]
  cases h : P n <;> simp [h]
theorem ps_len (P : Nat → Bool) (n : Nat) : (ps P n).length ≤ n := by
  unfold ps
  rw [List.length_map]
  have := List.length_filter_le P (List.range n)
  rw [List.length_range] at this
  exact this
set_option maxRecDepth 100000 in
set_option maxHeartbeats 3200000 in
theorem gather_r (P : Nat → Bool) (oc : Option Addr) (l : List Ca) (cc : Nat) (oa : Option Addr) (bs : List (Option Nat)) (cp : Nat) (w : World) (hC : CaAt w oc l) (hR : PR w oa bs) (hl : l.length ≤ 1000)
    (CL : ∀ (i : Nat) (c : Ca) (u : World), l[i]? = some c → Below w.heap.size w u → Calls Try.prog 33 #[cv c, pt (nmB bs c.ch)] u fun r w' => r = .returned (.bool (P i)) ∧ Below u.heap.size u w') :
    Calls Try.prog 32 #[.slice oc l.length cc, .slice oa bs.length cp, .func (.func 33) #[] #[]] w fun r w' => ∃ ob d, r = .returned (.slice ob (ps P l.length).length d) ∧ w'.ownsRow w.heap.size 3 1 (.slice ob (ps P l.length).length d) (ps P l.length).length (ic (ps P l.length)) ∧ Below w.heap.size w w' := by
  cases hi : Try.prog.info? 3 with
  | none => have := info_i; rw [hi] at this; cases this
  | some i0 =>
  have hx2 := info_i
  rw [hi] at hx2
  simp at hx2
  have INF := hide (And.intro hi hx2)
  clear hx2 hi
  have HC := hide hC
  have HR := hide hR
  have HL := hide CL
  clear hC hR CL
  go_enter Try.func32, Try.ntmps32
  go_wp2_with fail
  go_loopw [7, 12] (fun rv i wr => ∃ (v : Value) (k : Nat), k ≤ l.length ∧ i = .int .i64 k ∧ rv = v ∧ wr.ownsRow w.heap.size 3 1 v (ps P k).length (ic (ps P k)) ∧ Below w.heap.size w wr) (fun _ i _ => l.length - (intOf i).toNat)
  case atStart => exact ⟨_, 0, Nat.zero_le _, rfl, rfl, World.ownsRow_nil _ _ _ _, Below.refl _ _⟩
  case round =>
    obtain ⟨v, k, hk, rfl, rfl, ho, hb⟩ := hrel
    by_cases hlt : k < l.length
    · have hlt' : (k : Int) < (l.length : Int) := by omega
      obtain ⟨x, hx⟩ : ∃ x, l[k]? = some x := ⟨_, List.getElem?_eq_getElem hlt⟩
      obtain ⟨b, off, rfl, q0, q1, q2⟩ := HC.out.below hb k x hx
      have SU := hide (ps_succ P k)
      have hpl := ps_len P k
      have BX := below_alloc wr (.cells #[.bool x.sd, .int .i64 x.ch, .int .i64 x.v] 32)
      have XN := hide (heap_new wr (.cells #[.bool x.sd, .int .i64 x.ch, .int .i64 x.v] 32))
      have HB := hide (btr hb BX)
      have OW := hide (own_below ho BX)
      have NM := hide (named_any oa bs x.ch cp ((wr.alloc (.cells #[.bool x.sd, .int .i64 x.ch, .int .i64 x.v] 32)).drew) (HR.out.below (btr HB.out (bdrew1 _))))
      have CLK := hide fun u hu => HL.out k x u hx hu
      unfold cv pt at CLK
      unfold pt at NM
      generalize (nmB bs x.ch).map (fun b => (⟨b, 0, none⟩ : Addr)) = pp at NM CLK
      clear hb hx BX ho
      obtain ⟨X, hX⟩ : ∃ X, X = ps P k := ⟨_, rfl⟩
      rw [← hX] at SU hpl OW
      clear hX
      go_wp2_with fail
      have e0 : (wr.alloc (.cells #[.bool x.sd, .int .i64 x.ch, .int .i64 x.v] 32)).cell? ⟨wr.heap.size, 0, none⟩ = some (.bool x.sd) := cell_of XN.out 0
      have e1 : (wr.alloc (.cells #[.bool x.sd, .int .i64 x.ch, .int .i64 x.v] 32)).cell? ⟨wr.heap.size, 1, none⟩ = some (.int .i64 x.ch) := cell_of XN.out 1
      have e2 : (wr.alloc (.cells #[.bool x.sd, .int .i64 x.ch, .int .i64 x.v] 32)).cell? ⟨wr.heap.size, 2, none⟩ = some (.int .i64 x.v) := cell_of XN.out 2
      generalize wr.alloc (.cells #[.bool x.sd, .int .i64 x.ch, .int .i64 x.v] 32) = W1 at XN HB OW NM e0 e1 e2 ⊢
      generalize wr.heap.size = A at XN e0 e1 e2 ⊢
      go_region_held3 (fun w' => w'.cell? ⟨A, 0, none⟩ = some (.bool x.sd) ∧ w'.cell? ⟨A, 1, none⟩ = some (.int .i64 x.ch) ∧ w'.cell? ⟨A, 2, none⟩ = some (.int .i64 x.v))
        (first
          | go_keep
          | (go_split_ands
             refine ⟨?_, ?_, ?_⟩ <;> (refine cellB ?_ k2; assumption)))
        (first
          | (go_at_call 40; refine NM.out.mono ?_; rintro r z1 ⟨rfl, rfl⟩)
          | (go_at_call 33; refine (CLK.out _ (btr HB.out (bdrew1 _))).mono ?_; rintro r z2 ⟨rfl, k2⟩))
      have HB2 := hide (btr HB.out (btr (bdrew1 _) k2))
      have OW2 := hide (own_below OW.out (btr (bdrew1 _) k2))
      clear k2 HB OW NM CLK e0 e1 e2 XN
      cases hP : P k
      · have EX : Hid (ps P (k + 1) = X) := by show _ = _; rw [SU.out, hP]; simp
        have O3 : Hid (z2.ownsRow w.heap.size 3 1 u7 (ps P (k + 1)).length (ic (ps P (k + 1)))) := by
          show World.ownsRow _ _ _ _ _ _ _
          rw [EX.out]
          exact OW2.out
        go_wp2_with fail
        go_roundw
        case rel =>
          first
            | exact ⟨_, k + 1, by omega, by go_num, rfl, O3.out, HB2.out⟩
            | exact ⟨k + 1, by omega, by go_num, O3.out, HB2.out⟩
        case measure => simp [intOf]; omega
      · have EX : Hid (ps P (k + 1) = X ++ [(k : Int)]) := by show _ = _; rw [SU.out, hP]; simp
        have BY := below_alloc z2 (.cells #[.int .i64 (k : Int)] 3)
        have OW3 := hide (own_below OW2.out BY)
        have HB3 := hide (btr HB2.out BY)
        have SRC := hide (cell_one_new z2 (.int .i64 (k : Int)) 3)
        clear BY OW2 HB2
        go_wp2_with (at_builtin; refine wpList_append_own _ rfl _ _ 22 rfl w.heap.size 3 i0 (.int .i64 0) 1 8 Try.underlying22 INF.out.1 INF.out.2.1 INF.out.2.2.1 INF.out.2.2.2 rfl (by decide) _ _ _ rfl OW3.out ⟨z2.heap.size, 0, none⟩ 1 1 [.int .i64 (k : Int)] rfl rfl ?c1 ?c2 ?c3 ?c4 ?c5 ?_)
        case c1 => exact SRC.out
        case c2 => exact ic_one [(k : Int)]
        case c3 => unfold maxLen; omega
        case c4 => omega
        case c5 => exact HB3.out.size
        intro v' w3 ho hg3 _
        have B3 : Hid (Below w.heap.size w w3) := HB3.out.grown hg3 HB3.out.size (fun x hx => (OW3.out.lt x hx).1)
        have O3 : Hid (w3.ownsRow w.heap.size 3 1 v' (ps P (k + 1)).length (ic (ps P (k + 1)))) := by
          show World.ownsRow _ _ _ _ _ _ _
          rw [EX.out, ic_app, List.length_append]
          exact ho
        clear ho hg3
        go_wp2_with fail
        go_roundw
        case rel =>
          first
            | exact ⟨v', k + 1, by omega, by go_num, rfl, O3.out, B3.out⟩
            | ((repeat apply Exists.intro); exact ⟨⟨v', k + 1, by omega, by go_num, rfl, O3.out, B3.out⟩, rfl⟩)
        case measure => simp [intOf]; omega
    · have hlt' : ¬ ((k : Int) < (l.length : Int)) := by omega
      obtain rfl : k = l.length := by omega
      obtain ⟨oa', c', hv', _, _⟩ := own_at ho
      subst hv'
      have HO := hide ho
      have HB := hide hb
      clear ho hb
      go_wp2_with fail
      go_ret
      exact ⟨oa', c', rfl, HO.out, HB.out⟩
/-- is the case ready? -/
def crdy (sts : List (Option St)) (c : Ca) : Bool := match nmB sts c.ch with | none => false | some st => rdy st c.sd
/-- the places of all ready cases -/
def rdyL (l : List Ca) (sts : List (Option St)) : List Int := ps (fun i => match l[i]? with | none => false | some c => crdy sts c) l.length
theorem ready1_any (c : Ca) (o : Option Nat) (sts : List (Option St)) (oa : Option Addr) (bs : List (Option Nat)) (Fs : Nat → Nat → Prop) (w : World) (h : Qs Pp w oa bs Fs sts) (ho : o = nmB bs c.ch) :
    Calls Try.prog 33 #[cv c, pt o] w fun r w' => r = .returned (.bool (crdy sts c)) ∧ Below w.heap.size w w' := by
  subst ho
  have BA := hide (below_alloc w (.cells #[.bool c.sd, .int .i64 c.ch, .int .i64 c.v] 32))
  unfold cv crdy
  rcases h.nm c.ch with ⟨e1, e2⟩ | ⟨B, st, e1, e2, _, _, _, _, q⟩
  · rw [e1, e2]
    simp only [pt, Option.map_none]
    clear h
    go_enter Try.func33, Try.ntmps33
    go_wp2_with fail
    refine (Ready_nil c.sd _).mono ?_
    rintro r w2 ⟨rfl, b2⟩
    have B2 := hide (btr BA.out b2)
    clear b2
    go_wp2_with fail
    go_ret
    exact ⟨rfl, B2.out⟩
  · rw [e1, e2]
    have RD := hide (Ready_any B _ st c.sd _ (q.below BA.out))
    simp only [pt, Option.map_some]
    clear h q
    go_enter Try.func33, Try.ntmps33
    go_wp2_with fail
    refine RD.out.mono ?_
    rintro r w2 ⟨rfl, b2⟩
    have B2 := hide (btr BA.out b2)
    clear b2
    go_wp2_with fail
    go_ret
    exact ⟨rfl, B2.out⟩
theorem fready_any (oc : Option Addr) (l : List Ca) (cc : Nat) (oa : Option Addr) (bs : List (Option Nat)) (cp : Nat) (Fs : Nat → Nat → Prop) (sts : List (Option St)) (w : World) (hC : CaAt w oc l) (h : Qs Pp w oa bs Fs sts) (hl : l.length ≤ 1000) :
    Calls Try.prog 12 #[.slice oc l.length cc, .slice oa bs.length cp] w fun r w' => ∃ ob d, r = .returned (.slice ob (rdyL l sts).length d) ∧ w'.ownsRow w.heap.size 3 1 (.slice ob (rdyL l sts).length d) (rdyL l sts).length (ic (rdyL l sts)) ∧ Below w.heap.size w w' := by
  have GA := hide (gather_r (fun i => match l[i]? with | none => false | some c => crdy sts c) oc l cc oa bs cp w hC h.row hl (fun i c u hi hu => by
    simp only [hi]
    exact ready1_any c _ sts oa bs Fs u (h.below frP hu) rfl))
  clear hC h
  unfold rdyL
  generalize ps (fun i => match l[i]? with | none => false | some c => crdy sts c) l.length = R at GA ⊢
  go_enter Try.func12, Try.ntmps12
  go_wp2_with fail
  refine GA.out.mono ?_
  rintro r w1 ⟨ob, d, rfl, o1, b1⟩
  have O1 := hide o1
  have B1 := hide b1
  clear o1 b1
  go_wp2_with fail
  go_ret
  exact ⟨ob, d, rfl, O1.out, B1.out⟩
end Fk
end Go.Proofs.Ytdcmlimglajpkaa
