/- Package fork: gather, for Park, over this seat's program. -/
import Derived.Test.YtdcmlimglajpkaaJb
import Derived.Deep.RegionHeld3
namespace Go.Proofs.Ytdcmlimglajpkaa
open Go.ChangeShapes Go.WideShapes Go.ChangeAt Go.RowKit
namespace Fk
open Ba Pe _root_.Go.Proofs.Ytdcmlimglajpkaa.Pi Rp

set_option maxRecDepth 100000 in
set_option maxHeartbeats 3200000 in
theorem gather_p (P : Nat → Bool) (oc : Option Addr) (l : List Ca) (cc : Nat) (oa : Option Addr) (bs : List (Option Nat)) (cp : Nat) (w : World) (hC : CaAt w oc l) (hR : PR w oa bs) (hl : l.length ≤ 1000)
    (CL : ∀ (i : Nat) (c : Ca) (u : World), l[i]? = some c → Below w.heap.size w u → Calls Try.prog 38 #[cv c, pt (nmB bs c.ch)] u fun r w' => r = .returned (.bool (P i)) ∧ Below u.heap.size u w') :
    Calls Try.prog 32 #[.slice oc l.length cc, .slice oa bs.length cp, .func (.func 38) #[] #[]] w fun r w' => ∃ ob d, r = .returned (.slice ob (ps P l.length).length d) ∧ w'.ownsRow w.heap.size 3 1 (.slice ob (ps P l.length).length d) (ps P l.length).length (ic (ps P l.length)) ∧ Below w.heap.size w w' := by
  cases hi : Try.prog.info? 3 with
  | none => have := info_i; rw [hi] at this; cases this
  | some i0 =>
  have hx2 := info_i
  rw [hi] at hx2
  simp at hx2
  have INF := hide (And.intro hi hx2)
  clear hx2 hi
  have HC := hide hC
  have HR := hide hR
  have HL := hide CL
  clear hC hR CL
  go_enter Try.func32, Try.ntmps32
  go_wp2_with fail
  go_loopw [7, 12] (fun rv i wr => ∃ (v : Value) (k : Nat), k ≤ l.length ∧ i = .int .i64 k ∧ rv = v ∧ wr.ownsRow w.heap.size 3 1 v (ps P k).length (ic (ps P k)) ∧ Below w.heap.size w wr) (fun _ i _ => l.length - (intOf i).toNat)
  case atStart => exact ⟨_, 0, Nat.zero_le _, rfl, rfl, World.ownsRow_nil _ _ _ _, Below.refl _ _⟩
  case round =>
    obtain ⟨v, k, hk, rfl, rfl, ho, hb⟩ := hrel
    by_cases hlt : k < l.length
    · have hlt' : (k : Int) < (l.length : Int) := by omega
      obtain ⟨x, hx⟩ : ∃ x, l[k]? = some x := ⟨_, List.getElem?_eq_getElem hlt⟩
      obtain ⟨b, off, rfl, q0, q1, q2⟩ := HC.out.below hb k x hx
      have SU := hide (ps_succ P k)
      have hpl := ps_len P k
      have BX := below_alloc wr (.cells #[.bool x.sd, .int .i64 x.ch, .int .i64 x.v] 32)
      have XN := hide (heap_new wr (.cells #[.bool x.sd, .int .i64 x.ch, .int .i64 x.v] 32))
      have HB := hide (btr hb BX)
      have OW := hide (own_below ho BX)
      have NM := hide (named_any oa bs x.ch cp ((wr.alloc (.cells #[.bool x.sd, .int .i64 x.ch, .int .i64 x.v] 32)).drew) (HR.out.below (btr HB.out (bdrew1 _))))
      have CLK := hide fun u hu => HL.out k x u hx hu
      unfold cv pt at CLK
      unfold pt at NM
      generalize (nmB bs x.ch).map (fun b => (⟨b, 0, none⟩ : Addr)) = pp at NM CLK
      clear hb hx BX ho
      obtain ⟨X, hX⟩ : ∃ X, X = ps P k := ⟨_, rfl⟩
      rw [← hX] at SU hpl OW
      clear hX
      go_wp2_with fail
      have e0 : (wr.alloc (.cells #[.bool x.sd, .int .i64 x.ch, .int .i64 x.v] 32)).cell? ⟨wr.heap.size, 0, none⟩ = some (.bool x.sd) := cell_of XN.out 0
      have e1 : (wr.alloc (.cells #[.bool x.sd, .int .i64 x.ch, .int .i64 x.v] 32)).cell? ⟨wr.heap.size, 1, none⟩ = some (.int .i64 x.ch) := cell_of XN.out 1
      have e2 : (wr.alloc (.cells #[.bool x.sd, .int .i64 x.ch, .int .i64 x.v] 32)).cell? ⟨wr.heap.size, 2, none⟩ = some (.int .i64 x.v) := cell_of XN.out 2
      generalize wr.alloc (.cells #[.bool x.sd, .int .i64 x.ch, .int .i64 x.v] 32) = W1 at XN HB OW NM e0 e1 e2 ⊢
      generalize wr.heap.size = A at XN e0 e1 e2 ⊢
      go_region_held3 (fun w' => w'.cell? ⟨A, 0, none⟩ = some (.bool x.sd) ∧ w'.cell? ⟨A, 1, none⟩ = some (.int .i64 x.ch) ∧ w'.cell? ⟨A, 2, none⟩ = some (.int .i64 x.v))
        (first
          | go_keep
          | (go_split_ands
             refine ⟨?_, ?_, ?_⟩ <;> (refine cellB ?_ k2; assumption)))
        (first
          | (go_at_call 40; refine NM.out.mono ?_; rintro r z1 ⟨rfl, rfl⟩)
          | (go_at_call 38; refine (CLK.out _ (btr HB.out (bdrew1 _))).mono ?_; rintro r z2 ⟨rfl, k2⟩))
      have HB2 := hide (btr HB.out (btr (bdrew1 _) k2))
      have OW2 := hide (own_below OW.out (btr (bdrew1 _) k2))
      clear k2 HB OW NM CLK e0 e1 e2 XN
      cases hP : P k
      · have EX : Hid (ps P (k + 1) = X) := by show _ = _; rw [SU.out, hP]; simp
        have O3 : Hid (z2.ownsRow w.heap.size 3 1 u7 (ps P (k + 1)).length (ic (ps P (k + 1)))) := by
          show World.ownsRow _ _ _ _ _ _ _
          rw [EX.out]
          exact OW2.out
        go_wp2_with fail
        go_roundw
        case rel =>
          first
            | exact ⟨_, k + 1, by omega, by go_num, rfl, O3.out, HB2.out⟩
            | exact ⟨k + 1, by omega, by go_num, O3.out, HB2.out⟩
        case measure => simp [intOf]; omega
      · have EX : Hid (ps P (k + 1) = X ++ [(k : Int)]) := by show _ = _; rw [SU.out, hP]; simp
        have BY := below_alloc z2 (.cells #[.int .i64 (k : Int)] 3)
        have OW3 := hide (own_below OW2.out BY)
        have HB3 := hide (btr HB2.out BY)
        have SRC := hide (cell_one_new z2 (.int .i64 (k : Int)) 3)
        clear BY OW2 HB2
        go_wp2_with (at_builtin; refine wpList_append_own _ rfl _ _ 22 rfl w.heap.size 3 i0 (.int .i64 0) 1 8 Try.underlying22 INF.out.1 INF.out.2.1 INF.out.2.2.1 INF.out.2.2.2 rfl (by decide) _ _ _ rfl OW3.out ⟨z2.heap.size, 0, none⟩ 1 1 [.int .i64 (k : Int)] rfl rfl ?c1 ?c2 ?c3 ?c4 ?c5 ?_)
        case c1 => exact SRC.out
        case c2 => exact ic_one [(k : Int)]
        case c3 => unfold maxLen; omega
        case c4 => omega
        case c5 => exact HB3.out.size
        intro v' w3 ho hg3 _
        have B3 : Hid (Below w.heap.size w w3) := HB3.out.grown hg3 HB3.out.size (fun x hx => (OW3.out.lt x hx).1)
        have O3 : Hid (w3.ownsRow w.heap.size 3 1 v' (ps P (k + 1)).length (ic (ps P (k + 1)))) := by
          show World.ownsRow _ _ _ _ _ _ _
          rw [EX.out, ic_app, List.length_append]
          exact ho
        clear ho hg3
        go_wp2_with fail
        go_roundw
        case rel =>
          first
            | exact ⟨v', k + 1, by omega, by go_num, rfl, O3.out, B3.out⟩
            | ((repeat apply Exists.intro); exact ⟨⟨v', k + 1, by omega, by go_num, rfl, O3.out, B3.out⟩, rfl⟩)
        case measure => simp [intOf]; omega
    · have hlt' : ¬ ((k : Int) < (l.length : Int)) := by omega
      obtain rfl : k = l.length := by omega
      obtain ⟨oa', c', hv', _, _⟩ := own_at ho
      subst hv'
      have HO := hide ho
      have HB := hide hb
      clear ho hb
      go_wp2_with fail
      go_ret
      exact ⟨oa', c', rfl, HO.out, HB.out⟩
set_option maxRecDepth 100000 in
set_option maxHeartbeats 3200000 in
theorem gather_s (X Y : Nat) (P : Nat → Bool) (oc : Option Addr) (l : List Ca) (cc : Nat) (oa : Option Addr) (bs : List (Option Nat)) (cp : Nat) (w : World) (hC : CaAt w oc l) (hR : PR w oa bs) (hl : l.length ≤ 1000)
    (CL : ∀ (i : Nat) (c : Ca) (u : World), l[i]? = some c → Below w.heap.size w u → Calls Try.prog 61 #[cv c, pt (nmB bs c.ch), .pointer (some ⟨X, 0, none⟩), .pointer (some ⟨Y, 0, none⟩)] u fun r w' => r = .returned (.bool (P i)) ∧ Below u.heap.size u w') :
    Calls Try.prog 32 #[.slice oc l.length cc, .slice oa bs.length cp, .func (.func 61) #[] #[.pointer (some ⟨X, 0, none⟩), .pointer (some ⟨Y, 0, none⟩)]] w fun r w' => ∃ ob d, r = .returned (.slice ob (ps P l.length).length d) ∧ w'.ownsRow w.heap.size 3 1 (.slice ob (ps P l.length).length d) (ps P l.length).length (ic (ps P l.length)) ∧ Below w.heap.size w w' := by
  cases hi : Try.prog.info? 3 with
  | none => have := info_i; rw [hi] at this; cases this
  | some i0 =>
  have hx2 := info_i
  rw [hi] at hx2
  simp at hx2
  have INF := hide (And.intro hi hx2)
  clear hx2 hi
  have HC := hide hC
  have HR := hide hR
  have HL := hide CL
  clear hC hR CL
  go_enter Try.func32, Try.ntmps32
  go_wp2_with fail
  go_loopw [7, 12] (fun rv i wr => ∃ (v : Value) (k : Nat), k ≤ l.length ∧ i = .int .i64 k ∧ rv = v ∧ wr.ownsRow w.heap.size 3 1 v (ps P k).length (ic (ps P k)) ∧ Below w.heap.size w wr) (fun _ i _ => l.length - (intOf i).toNat)
  case atStart => exact ⟨_, 0, Nat.zero_le _, rfl, rfl, World.ownsRow_nil _ _ _ _, Below.refl _ _⟩
  case round =>
    obtain ⟨v, k, hk, rfl, rfl, ho, hb⟩ := hrel
    by_cases hlt : k < l.length
    · have hlt' : (k : Int) < (l.length : Int) := by omega
      obtain ⟨x, hx⟩ : ∃ x, l[k]? = some x := ⟨_, List.getElem?_eq_getElem hlt⟩
      obtain ⟨b, off, rfl, q0, q1, q2⟩ := HC.out.below hb k x hx
      have SU := hide (ps_succ P k)
      have hpl := ps_len P k
      have BX := below_alloc wr (.cells #[.bool x.sd, .int .i64 x.ch, .int .i64 x.v] 32)
      have XN := hide (heap_new wr (.cells #[.bool x.sd, .int .i64 x.ch, .int .i64 x.v] 32))
      have HB := hide (btr hb BX)
      have OW := hide (own_below ho BX)
      have NM := hide (named_any oa bs x.ch cp ((wr.alloc (.cells #[.bool x.sd, .int .i64 x.ch, .int .i64 x.v] 32)).drew) (HR.out.below (btr HB.out (bdrew1 _))))
      have CLK := hide fun u hu => HL.out k x u hx hu
      unfold cv pt at CLK
      unfold pt at NM
      generalize (nmB bs x.ch).map (fun b => (⟨b, 0, none⟩ : Addr)) = pp at NM CLK
      clear hb hx BX ho
      obtain ⟨X, hX⟩ : ∃ X, X = ps P k := ⟨_, rfl⟩
      rw [← hX] at SU hpl OW
      clear hX
      go_wp2_with fail
      have e0 : (wr.alloc (.cells #[.bool x.sd, .int .i64 x.ch, .int .i64 x.v] 32)).cell? ⟨wr.heap.size, 0, none⟩ = some (.bool x.sd) := cell_of XN.out 0
      have e1 : (wr.alloc (.cells #[.bool x.sd, .int .i64 x.ch, .int .i64 x.v] 32)).cell? ⟨wr.heap.size, 1, none⟩ = some (.int .i64 x.ch) := cell_of XN.out 1
      have e2 : (wr.alloc (.cells #[.bool x.sd, .int .i64 x.ch, .int .i64 x.v] 32)).cell? ⟨wr.heap.size, 2, none⟩ = some (.int .i64 x.v) := cell_of XN.out 2
      generalize wr.alloc (.cells #[.bool x.sd, .int .i64 x.ch, .int .i64 x.v] 32) = W1 at XN HB OW NM e0 e1 e2 ⊢
      generalize wr.heap.size = A at XN e0 e1 e2 ⊢
      go_region_held3 (fun w' => w'.cell? ⟨A, 0, none⟩ = some (.bool x.sd) ∧ w'.cell? ⟨A, 1, none⟩ = some (.int .i64 x.ch) ∧ w'.cell? ⟨A, 2, none⟩ = some (.int .i64 x.v))
        (first
          | go_keep
          | (go_split_ands
             refine ⟨?_, ?_, ?_⟩ <;> (refine cellB ?_ k2; assumption)))
        (first
          | (go_at_call 40; refine NM.out.mono ?_; rintro r z1 ⟨rfl, rfl⟩)
          | (go_at_call 61; refine (CLK.out _ (btr HB.out (bdrew1 _))).mono ?_; rintro r z2 ⟨rfl, k2⟩))
      have HB2 := hide (btr HB.out (btr (bdrew1 _) k2))
      have OW2 := hide (own_below OW.out (btr (bdrew1 _) k2))
      clear k2 HB OW NM CLK e0 e1 e2 XN
      cases hP : P k
      · have EX : Hid (ps P (k + 1) = X) := by show _ = _; rw [SU.out, hP]; simp
        have O3 : Hid (z2.ownsRow w.heap.size 3 1 u7 (ps P (k + 1)).length (ic (ps P (k + 1)))) := by
          show World.ownsRow _ _ _ _ _ _ _
          rw [EX.out]
          exact OW2.out
        go_wp2_with fail
        go_roundw
        case rel =>
          first
            | exact ⟨_, k + 1, by omega, by go_num, rfl, O3.out, HB2.out⟩
            | exact ⟨k + 1, by omega, by go_num, O3.out, HB2.out⟩
        case measure => simp [intOf]; omega
      · have EX : Hid (ps P (k + 1) = X ++ [(k : Int)]) := by show _ = _; rw [SU.out, hP]; simp
        have BY := below_alloc z2 (.cells #[.int .i64 (k : Int)] 3)
        have OW3 := hide (own_below OW2.out BY)
        have HB3 := hide (btr HB2.out BY)
        have SRC := hide (cell_one_new z2 (.int .i64 (k : Int)) 3)
        clear BY OW2 HB2
        go_wp2_with (at_builtin; refine wpList_append_own _ rfl _ _ 22 rfl w.heap.size 3 i0 (.int .i64 0) 1 8 Try.underlying22 INF.out.1 INF.out.2.1 INF.out.2.2.1 INF.out.2.2.2 rfl (by decide) _ _ _ rfl OW3.out ⟨z2.heap.size, 0, none⟩ 1 1 [.int .i64 (k : Int)] rfl rfl ?c1 ?c2 ?c3 ?c4 ?c5 ?_)
        case c1 => exact SRC.out
        case c2 => exact ic_one [(k : Int)]
        case c3 => unfold maxLen; omega
        case c4 => omega
        case c5 => exact HB3.out.size
        intro v' w3 ho hg3 _
        have B3 : Hid (Below w.heap.size w w3) := HB3.out.grown hg3 HB3.out.size (fun x hx => (OW3.out.lt x hx).1)
        have O3 : Hid (w3.ownsRow w.heap.size 3 1 v' (ps P (k + 1)).length (ic (ps P (k + 1)))) := by
          show World.ownsRow _ _ _ _ _ _ _
          rw [EX.out, ic_app, List.length_append]
          exact ho
        clear ho hg3
        go_wp2_with fail
        go_roundw
        case rel =>
          first
            | exact ⟨v', k + 1, by omega, by go_num, rfl, O3.out, B3.out⟩
            | ((repeat apply Exists.intro); exact ⟨⟨v', k + 1, by omega, by go_num, rfl, O3.out, B3.out⟩, rfl⟩)
        case measure => simp [intOf]; omega
    · have hlt' : ¬ ((k : Int) < (l.length : Int)) := by omega
      obtain rfl : k = l.length := by omega
      obtain ⟨oa', c', hv', _, _⟩ := own_at ho
      subst hv'
      have HO := hide ho
      have HB := hide hb
      clear ho hb
      go_wp2_with fail
      go_ret
      exact ⟨oa', c', rfl, HO.out, HB.out⟩
end Fk
end Go.Proofs.Ytdcmlimglajpkaa
