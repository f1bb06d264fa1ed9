/- For every list of steps, the law PewSteps returns true, so a pew answers, step by step, as the document does: under no condition. -/
import Derived.Test.YtiefaihflmogpabVl
import Derived.ShutString
import Derived.ChangeOld
import Derived.Below
namespace Go.Proofs.Ytiefaihflmogpab.pewSteps
open Go.ChangeShapes Go.WideShapes Go.ChangeAt Go.RowKit
open Go.ChangeMaps (open_string shut_string)
open Pe Ba

theorem own : ownKnob Try.prog.godebug = none := by kernel_rfl
theorem laidOut : laidOutB Try.prog = true := by kernel_rfl

/-- both pews, at one place of the law's walk -/
structure Tw (w wr : World) (P G : Nat) (l : List Wt) : Prop where
  p : Pw wr P l
  r : RP wr G l
  lo : w.heap.size ≤ P
  hi : P < G
  b : Below w.heap.size w wr
theorem Tw.below {w a c : World} {P G : Nat} {l : List Wt} (h : Tw w a P G l) (hb : Below a.heap.size a c) : Tw w c P G l := ⟨h.p.below hb, h.r.below hb, h.lo, h.hi, btr h.b hb⟩
/-- behind a step of the pew, the reference's yet to come -/
structure Tm (w wr : World) (P G : Nat) (l m : List Wt) : Prop where
  p : Pw wr P m
  r : RP wr G l
  lo : w.heap.size ≤ P
  hi : P < G
  b : Below w.heap.size w wr
theorem Tw.mine {w a c : World} {P G : Nat} {l m : List Wt} (h : Tw w a P G l) (hp : Pw c P m) (hk : FT P 58 a c) : Tm w c P G l m := ⟨hp, h.r.ft hk h.hi, h.lo, h.hi, hk.under h.b h.lo⟩
theorem Tm.below {w a c : World} {P G : Nat} {l m : List Wt} (h : Tm w a P G l m) (hb : Below a.heap.size a c) : Tm w c P G l m := ⟨h.p.below hb, h.r.below hb, h.lo, h.hi, btr h.b hb⟩
theorem Tm.ref {w a c : World} {P G : Nat} {l m : List Wt} (h : Tm w a P G l m) (hr : RP c G m) (hk : FT G 37 a c) : Tw w c P G m := by
  obtain ⟨v, h1, _⟩ := h.r
  refine ⟨h.p.ft hk h.hi (by decide) ?_, hr, h.lo, h.hi, hk.under h.b (by have := h.lo; have := h.hi; omega)⟩
  intro n c fr hn e
  rw [e, h1] at hn
  cases hn

set_option maxRecDepth 100000 in
set_option maxHeartbeats 12800000 in
theorem core {w : World} (oa : Option Addr) (l : List (List Int)) (c : Nat) (hA : RAt w oa 4 l) (hl : l.length ≤ maxLen) :
    Calls Try.prog 3 #[.slice oa l.length c] w fun r w' => r = .returned (.bool true) ∧ Below w.heap.size w w' := by
  have HA := hide hA
  unfold maxLen at hl
  clear hA
  go_enter Try.func3, Try.ntmps3
  go_wp2_with fail
  refine (new_any _).mono ?_
  rintro r w1 ⟨rfl, p1, b1⟩
  have P1 := hide p1
  have B1 := hide b1
  clear p1 b1
  by_cases h3 : 300 < l.length
  · have h3' : decide ((300 : Int) < (l.length : Int)) = true := decide_eq_true (by omega)
    go_wp2_with fail
    refine (three_any _).mono ?_
    rintro r w5 ⟨rfl, b5⟩
    have B5 := hide (btr B1.out b5)
    clear b5
    go_wp2_with fail
    go_ret
    exact ⟨rfl, B5.out⟩
  have h3' : decide ((300 : Int) < (l.length : Int)) = false := decide_eq_false (by omega)
  have T2 : Hid (Tw w (w1.alloc (.cells #[.slice none 0 0] 29)) w.heap.size w1.heap.size []) := ⟨P1.out.below (below_alloc _ _), ⟨_, heap_new _ _, World.ownsRow_nil _ _ _ _, by decide⟩, Nat.le_refl _, P1.out.lt, btr B1.out (below_alloc _ _)⟩
  clear P1 B1
  go_wp2_with fail
  generalize w1.alloc (.cells #[.slice none 0 0] 29) = w2 at T2 ⊢
  generalize w1.heap.size = G at T2 ⊢
  go_loopw [32] (fun j wr => ∃ (k : Nat) (m : List Wt), k ≤ l.length ∧ j = .int .i64 k ∧ Tw w wr w.heap.size G m) (fun j _ => l.length - (intOf j).toNat)
  case atStart => exact ⟨0, [], Nat.zero_le _, rfl, T2.out⟩
  case round =>
    clear T2
    obtain ⟨k, m0, hk, rfl, t3⟩ := hrel
    have T3 := hide t3
    clear t3
    by_cases hlt : k < l.length
    · have hlt' : (k : Int) < (l.length : Int) := by omega
      obtain ⟨z, hz⟩ : ∃ z, l[k]? = some z := ⟨_, List.getElem?_eq_getElem hlt⟩
      obtain ⟨b', o', rfl, hc⟩ := (HA.out.below T3.out.b) k z hz
      have q0 := hc 0 (by decide)
      have q1 := hc 1 (by decide)
      have q2 := hc 2 (by decide)
      have q3 := hc 3 (by decide)
      rw [Nat.add_zero] at q0
      clear hc hz
      generalize nth z 0 = what at q0
      generalize nth z 1 = xg at q1
      generalize nth z 2 = xc at q2
      generalize nth z 3 = xv at q3
      have hSP : wr.heap.size ≠ w.heap.size := by have := T3.out.p.lt; omega
      have hSG : wr.heap.size ≠ G := by have := T3.out.r.lt; omega
      have Q := hide (heap_new wr (.cells #[.int .i64 what, .int .i64 xg, .int .i64 xc, .int .i64 xv] 33))
      have T4 := hide (T3.out.below (below_alloc wr (.cells #[.int .i64 what, .int .i64 xg, .int .i64 xc, .int .i64 xv] 33)))
      generalize hS : wr.heap.size = S at Q hSP hSG
      have HS := hide hS
      clear T3 hS
      cases h0 : what == 0
      · cases h1 : what == 1
        · cases h2 : what == 2
          · cases h4 : what == 3
            · skip
              go_wp2_with fail
              rw [HS.out] at *
              generalize wr.alloc (.cells #[.int .i64 what, .int .i64 xg, .int .i64 xc, .int .i64 xv] 33) = W4 at Q T4 ⊢
              (obtain ⟨m, hm⟩ : ∃ m, m = m0 := ⟨_, rfl⟩); subst hm
              refine (first_any _ m _ T4.out.p).mono ?_
              rintro r v1 ⟨rfl, c1⟩
              have T5 := hide ((T4.out.below c1).below (below_alloc _ (.cells #[.int .i64 (fw m).g, .int .i64 (fw m).c, .int .i64 (fw m).v] 31)))
              have Q5 := hide (heap_below (heap_below Q.out c1) (below_alloc _ (.cells #[.int .i64 (fw m).g, .int .i64 (fw m).c, .int .i64 (fw m).v] 31)))
              have A5 := hide (heap_new v1 (.cells #[.int .i64 (fw m).g, .int .i64 (fw m).c, .int .i64 (fw m).v] 31))
              clear c1 T4 Q
              unfold wv
              go_wp2_with fail
              generalize v1.alloc (.cells #[.int .i64 (fw m).g, .int .i64 (fw m).c, .int .i64 (fw m).v] 31) = V5 at T5 Q5 A5 ⊢
              generalize v1.heap.size = S5 at A5 ⊢
              refine (rfirst_any G m _ T5.out.r).mono ?_
              rintro r v2 ⟨rfl, c2⟩
              have T6 := hide ((T5.out.below c2).below (below_alloc _ (.cells #[.int .i64 (fw m).g, .int .i64 (fw m).c, .int .i64 (fw m).v] 37)))
              have Q6 := hide (heap_below (heap_below Q5.out c2) (below_alloc _ (.cells #[.int .i64 (fw m).g, .int .i64 (fw m).c, .int .i64 (fw m).v] 37)))
              have A6 := hide (heap_below (heap_below A5.out c2) (below_alloc _ (.cells #[.int .i64 (fw m).g, .int .i64 (fw m).c, .int .i64 (fw m).v] 37)))
              have A7 := hide (heap_new v2 (.cells #[.int .i64 (fw m).g, .int .i64 (fw m).c, .int .i64 (fw m).v] 37))
              clear c2 T5 Q5 A5
              unfold wv
              go_wp2_with fail
              generalize v2.alloc (.cells #[.int .i64 (fw m).g, .int .i64 (fw m).c, .int .i64 (fw m).v] 37) = V6 at T6 Q6 A6 A7 ⊢
              generalize v2.heap.size = S6 at A7 ⊢
              have s1 := cell_of Q6.out 1
              have a0 := cell_of A6.out 0
              have a1 := cell_of A6.out 1
              have a2 := cell_of A6.out 2
              have b0 := cell_of A7.out 0
              have b1 := cell_of A7.out 1
              have b2 := cell_of A7.out 2
              simp at s1 a0 a1 a2 b0 b1 b2
              obtain ⟨oq, cq, hg, hat, _⟩ := T6.out.r.at
              have HAT := hide hat
              have g0 := cell_of hg 0
              simp at g0
              have hm4 := T6.out.p.le
              clear hg hat
              have RF := hide fun u => ref_any (fw m) u
              unfold wv at RF
              generalize fo m = bo
              generalize (fw m).g = y0 at *
              generalize (fw m).c = y1 at *
              generalize (fw m).v = y2 at *
              go_region_held3 (fun w' => w'.cell? ⟨S5, 0, none⟩ = some (.int .i64 y0) ∧ w'.cell? ⟨S5, 1, none⟩ = some (.int .i64 y1) ∧ w'.cell? ⟨S5, 2, none⟩ = some (.int .i64 y2) ∧ w'.cell? ⟨S6, 0, none⟩ = some (.int .i64 y0) ∧ w'.cell? ⟨S6, 1, none⟩ = some (.int .i64 y1) ∧ w'.cell? ⟨S6, 2, none⟩ = some (.int .i64 y2) ∧ w'.cell? ⟨S, 1, none⟩ = some (.int .i64 xg) ∧ w'.cell? ⟨G, 0, none⟩ = some (.slice oq m.length cq))
                (first
                  | go_keep
                  | (go_split_ands
                     first
                       | (refine ⟨?_, ?_, ?_, ?_, ?_, ?_, ?_, ?_⟩ <;> (refine cellB ?_ k4; assumption))
                       | (refine ⟨?_, ?_, ?_, ?_, ?_, ?_, ?_, ?_⟩ <;> (refine cellB ?_ k3; assumption))
                       | (refine ⟨?_, ?_, ?_, ?_, ?_, ?_, ?_, ?_⟩ <;> (refine cellB ?_ k2; assumption))
                       | (refine ⟨?_, ?_, ?_, ?_, ?_, ?_, ?_, ?_⟩ <;> (refine cellB ?_ k1; assumption))))
                (first
                  | (go_at_call 12; refine (RF.out _).mono ?_; rintro r z1 ⟨rfl, k1⟩)
                  | (go_at_call 19; refine (len_any _ m _ ((T6.out.p.below (bdrew1 _)).below k1)).mono ?_; rintro r z0 ⟨rfl, rfl⟩)
                  | (go_at_call 20; refine (has_any _ m xg _ ((T6.out.p.below (bdrew1 _)).below k1)).mono ?_; rintro r z0 ⟨rfl, rfl⟩)
                  | (go_at_call 21; refine (rhas_any G m xg _ ((T6.out.r.below (bdrew1 _)).below k1)).mono ?_; rintro r z2 ⟨rfl, k2⟩)
                  | (go_at_call 23; refine (list_any _ m _ (((T6.out.p.below (bdrew1 _)).below k1).below k2)).mono ?_; rintro r z3 ⟨ol, cl, rfl, at3, k3⟩)
                  | (go_at_call 22; refine (same_any _ _ m _ _ _ at3 ((((HAT.out.below (bdrew1 _)).below k1).below k2).below k3) hm4).mono ?_; rintro r z4 ⟨rfl, k4⟩))
              have T8 := hide (T6.out.below (btr (bdrew1 _) (btr k1 (btr k2 (btr k3 k4)))))
              clear k1 k2 k3 k4 at3
              go_wp2_with fail
              go_roundw
              case rel => exact ⟨k + 1, m, by omega, by go_num, T8.out⟩
              case measure => simp [intOf]; omega
            · skip
              go_wp2_with fail
              rw [HS.out] at *
              generalize wr.alloc (.cells #[.int .i64 what, .int .i64 xg, .int .i64 xc, .int .i64 xv] 33) = W4 at Q T4 ⊢
              have e1 := cell_of Q.out 1
              simp at e1
              go_region_held3 (fun w' => w'.cell? ⟨S, 1, none⟩ = some (.int .i64 xg))
                (first
                  | go_keep
                  | exact (cell_of K2.out 1).trans rfl
                  | exact (cell_of K1.out 1).trans rfl)
                (first
                  | (go_at_call 15; refine (drop_any _ m0 xg _ (T4.out.p.below (bdrew1 _))).mono ?_; rintro r v1 ⟨rfl, g1, c1⟩; have K1 := hide (c1.2 _ _ _ _ (heap_below Q.out (bdrew1 _)) (by decide) hSP); have M1 := hide ((T4.out.below (bdrew1 _)).mine g1 c1))
                  | (go_at_call 16; refine (rdrop_any G m0 xg _ M1.out.r).mono ?_; rintro r v2 ⟨rfl, g2, c2⟩; have K2 := hide (c2.2 _ _ _ _ K1.out (by decide) hSG)))
              have T4 := hide (M1.out.ref g2 c2)
              have Q := hide K2.out
              clear M1 K1 K2 g1 g2 c1 c2 e1
              generalize hdd : ((m0.length : Int) - ((dr xg m0).length : Int)) = dd
              clear hdd
              generalize dr xg m0 = m at T4
              go_wp2_with fail
              refine (first_any _ m _ T4.out.p).mono ?_
              rintro r v1 ⟨rfl, c1⟩
              have T5 := hide ((T4.out.below c1).below (below_alloc _ (.cells #[.int .i64 (fw m).g, .int .i64 (fw m).c, .int .i64 (fw m).v] 31)))
              have Q5 := hide (heap_below (heap_below Q.out c1) (below_alloc _ (.cells #[.int .i64 (fw m).g, .int .i64 (fw m).c, .int .i64 (fw m).v] 31)))
              have A5 := hide (heap_new v1 (.cells #[.int .i64 (fw m).g, .int .i64 (fw m).c, .int .i64 (fw m).v] 31))
              clear c1 T4 Q
              unfold wv
              go_wp2_with fail
              generalize v1.alloc (.cells #[.int .i64 (fw m).g, .int .i64 (fw m).c, .int .i64 (fw m).v] 31) = V5 at T5 Q5 A5 ⊢
              generalize v1.heap.size = S5 at A5 ⊢
              refine (rfirst_any G m _ T5.out.r).mono ?_
              rintro r v2 ⟨rfl, c2⟩
              have T6 := hide ((T5.out.below c2).below (below_alloc _ (.cells #[.int .i64 (fw m).g, .int .i64 (fw m).c, .int .i64 (fw m).v] 37)))
              have Q6 := hide (heap_below (heap_below Q5.out c2) (below_alloc _ (.cells #[.int .i64 (fw m).g, .int .i64 (fw m).c, .int .i64 (fw m).v] 37)))
              have A6 := hide (heap_below (heap_below A5.out c2) (below_alloc _ (.cells #[.int .i64 (fw m).g, .int .i64 (fw m).c, .int .i64 (fw m).v] 37)))
              have A7 := hide (heap_new v2 (.cells #[.int .i64 (fw m).g, .int .i64 (fw m).c, .int .i64 (fw m).v] 37))
              clear c2 T5 Q5 A5
              unfold wv
              go_wp2_with fail
              generalize v2.alloc (.cells #[.int .i64 (fw m).g, .int .i64 (fw m).c, .int .i64 (fw m).v] 37) = V6 at T6 Q6 A6 A7 ⊢
              generalize v2.heap.size = S6 at A7 ⊢
              have s1 := cell_of Q6.out 1
              have a0 := cell_of A6.out 0
              have a1 := cell_of A6.out 1
              have a2 := cell_of A6.out 2
              have b0 := cell_of A7.out 0
              have b1 := cell_of A7.out 1
              have b2 := cell_of A7.out 2
              simp at s1 a0 a1 a2 b0 b1 b2
              obtain ⟨oq, cq, hg, hat, _⟩ := T6.out.r.at
              have HAT := hide hat
              have g0 := cell_of hg 0
              simp at g0
              have hm4 := T6.out.p.le
              clear hg hat
              have RF := hide fun u => ref_any (fw m) u
              unfold wv at RF
              generalize fo m = bo
              generalize (fw m).g = y0 at *
              generalize (fw m).c = y1 at *
              generalize (fw m).v = y2 at *
              go_region_held3 (fun w' => w'.cell? ⟨S5, 0, none⟩ = some (.int .i64 y0) ∧ w'.cell? ⟨S5, 1, none⟩ = some (.int .i64 y1) ∧ w'.cell? ⟨S5, 2, none⟩ = some (.int .i64 y2) ∧ w'.cell? ⟨S6, 0, none⟩ = some (.int .i64 y0) ∧ w'.cell? ⟨S6, 1, none⟩ = some (.int .i64 y1) ∧ w'.cell? ⟨S6, 2, none⟩ = some (.int .i64 y2) ∧ w'.cell? ⟨S, 1, none⟩ = some (.int .i64 xg) ∧ w'.cell? ⟨G, 0, none⟩ = some (.slice oq m.length cq))
                (first
                  | go_keep
                  | (go_split_ands
                     first
                       | (refine ⟨?_, ?_, ?_, ?_, ?_, ?_, ?_, ?_⟩ <;> (refine cellB ?_ k4; assumption))
                       | (refine ⟨?_, ?_, ?_, ?_, ?_, ?_, ?_, ?_⟩ <;> (refine cellB ?_ k3; assumption))
                       | (refine ⟨?_, ?_, ?_, ?_, ?_, ?_, ?_, ?_⟩ <;> (refine cellB ?_ k2; assumption))
                       | (refine ⟨?_, ?_, ?_, ?_, ?_, ?_, ?_, ?_⟩ <;> (refine cellB ?_ k1; assumption))))
                (first
                  | (go_at_call 12; refine (RF.out _).mono ?_; rintro r z1 ⟨rfl, k1⟩)
                  | (go_at_call 19; refine (len_any _ m _ ((T6.out.p.below (bdrew1 _)).below k1)).mono ?_; rintro r z0 ⟨rfl, rfl⟩)
                  | (go_at_call 20; refine (has_any _ m xg _ ((T6.out.p.below (bdrew1 _)).below k1)).mono ?_; rintro r z0 ⟨rfl, rfl⟩)
                  | (go_at_call 21; refine (rhas_any G m xg _ ((T6.out.r.below (bdrew1 _)).below k1)).mono ?_; rintro r z2 ⟨rfl, k2⟩)
                  | (go_at_call 23; refine (list_any _ m _ (((T6.out.p.below (bdrew1 _)).below k1).below k2)).mono ?_; rintro r z3 ⟨ol, cl, rfl, at3, k3⟩)
                  | (go_at_call 22; refine (same_any _ _ m _ _ _ at3 ((((HAT.out.below (bdrew1 _)).below k1).below k2).below k3) hm4).mono ?_; rintro r z4 ⟨rfl, k4⟩))
              have T8 := hide (T6.out.below (btr (bdrew1 _) (btr k1 (btr k2 (btr k3 k4)))))
              clear k1 k2 k3 k4 at3
              go_wp2_with fail
              go_roundw
              case rel => exact ⟨k + 1, m, by omega, by go_num, T8.out⟩
              case measure => simp [intOf]; omega
          · skip
            go_wp2_with fail
            rw [HS.out] at *
            generalize wr.alloc (.cells #[.int .i64 what, .int .i64 xg, .int .i64 xc, .int .i64 xv] 33) = W4 at Q T4 ⊢
            refine (take_any _ m0 _ T4.out.p).mono ?_
            rintro r v1 ⟨rfl, g1, c1⟩
            have M1 := hide ((T4.out.mine g1 c1).below (below_alloc _ (.cells #[.int .i64 (fw m0).g, .int .i64 (fw m0).c, .int .i64 (fw m0).v] 31)))
            have K1 := hide (heap_below (c1.2 _ _ _ _ Q.out (by decide) hSP) (below_alloc _ (.cells #[.int .i64 (fw m0).g, .int .i64 (fw m0).c, .int .i64 (fw m0).v] 31)))
            have A1 := hide (heap_new v1 (.cells #[.int .i64 (fw m0).g, .int .i64 (fw m0).c, .int .i64 (fw m0).v] 31))
            clear g1 c1 T4 Q
            unfold wv
            go_wp2_with fail
            generalize v1.alloc (.cells #[.int .i64 (fw m0).g, .int .i64 (fw m0).c, .int .i64 (fw m0).v] 31) = V1 at M1 K1 A1 ⊢
            generalize v1.heap.size = SA at A1 ⊢
            have hAG : SA ≠ G := by
              intro e
              obtain ⟨_, q, _⟩ := M1.out.r
              rw [← e, A1.out] at q
              cases q
            refine (rtake_any G m0 _ M1.out.r).mono ?_
            rintro r v2 ⟨rfl, g2, c2⟩
            have T4 := hide ((M1.out.ref g2 c2).below (below_alloc _ (.cells #[.int .i64 (fw m0).g, .int .i64 (fw m0).c, .int .i64 (fw m0).v] 37)))
            have Q := hide (heap_below (c2.2 _ _ _ _ K1.out (by decide) hSG) (below_alloc _ (.cells #[.int .i64 (fw m0).g, .int .i64 (fw m0).c, .int .i64 (fw m0).v] 37)))
            have A2 := hide (heap_below (c2.2 _ _ _ _ A1.out (by decide) hAG) (below_alloc _ (.cells #[.int .i64 (fw m0).g, .int .i64 (fw m0).c, .int .i64 (fw m0).v] 37)))
            have A3 := hide (heap_new v2 (.cells #[.int .i64 (fw m0).g, .int .i64 (fw m0).c, .int .i64 (fw m0).v] 37))
            clear g2 c2 M1 K1 A1
            unfold wv
            go_wp2_with fail
            generalize v2.alloc (.cells #[.int .i64 (fw m0).g, .int .i64 (fw m0).c, .int .i64 (fw m0).v] 37) = V2 at T4 Q A2 A3 ⊢
            generalize v2.heap.size = SB at A3 ⊢
            have a0 := cell_of A2.out 0
            have a1 := cell_of A2.out 1
            have a2 := cell_of A2.out 2
            have b0 := cell_of A3.out 0
            have b1 := cell_of A3.out 1
            have b2 := cell_of A3.out 2
            simp at a0 a1 a2 b0 b1 b2
            have RF := hide fun u => ref_any (fw m0) u
            unfold wv at RF
            generalize fo m0 = bo
            generalize (fw m0).g = y0 at *
            generalize (fw m0).c = y1 at *
            generalize (fw m0).v = y2 at *
            go_region_held3 (fun w' => w'.cell? ⟨SA, 0, none⟩ = some (.int .i64 y0) ∧ w'.cell? ⟨SA, 1, none⟩ = some (.int .i64 y1) ∧ w'.cell? ⟨SA, 2, none⟩ = some (.int .i64 y2) ∧ w'.cell? ⟨SB, 0, none⟩ = some (.int .i64 y0) ∧ w'.cell? ⟨SB, 1, none⟩ = some (.int .i64 y1) ∧ w'.cell? ⟨SB, 2, none⟩ = some (.int .i64 y2))
              (first
                | go_keep
                | (go_split_ands
                   refine ⟨?_, ?_, ?_, ?_, ?_, ?_⟩ <;> (refine cellB ?_ c1; assumption)))
              (first
                | (go_at_call 12; refine (RF.out _).mono ?_; rintro r v3 ⟨rfl, c1⟩))
            have T4 := hide (T4.out.below (btr (bdrew1 _) c1))
            have Q := hide (heap_below Q.out (btr (bdrew1 _) c1))
            clear c1 a0 a1 a2 b0 b1 b2 A2 A3 RF
            generalize m0.tail = m at T4
            go_wp2_with fail
            refine (first_any _ m _ T4.out.p).mono ?_
            rintro r v1 ⟨rfl, c1⟩
            have T5 := hide ((T4.out.below c1).below (below_alloc _ (.cells #[.int .i64 (fw m).g, .int .i64 (fw m).c, .int .i64 (fw m).v] 31)))
            have Q5 := hide (heap_below (heap_below Q.out c1) (below_alloc _ (.cells #[.int .i64 (fw m).g, .int .i64 (fw m).c, .int .i64 (fw m).v] 31)))
            have A5 := hide (heap_new v1 (.cells #[.int .i64 (fw m).g, .int .i64 (fw m).c, .int .i64 (fw m).v] 31))
            clear c1 T4 Q
            unfold wv
            go_wp2_with fail
            generalize v1.alloc (.cells #[.int .i64 (fw m).g, .int .i64 (fw m).c, .int .i64 (fw m).v] 31) = V5 at T5 Q5 A5 ⊢
            generalize v1.heap.size = S5 at A5 ⊢
            refine (rfirst_any G m _ T5.out.r).mono ?_
            rintro r v2 ⟨rfl, c2⟩
            have T6 := hide ((T5.out.below c2).below (below_alloc _ (.cells #[.int .i64 (fw m).g, .int .i64 (fw m).c, .int .i64 (fw m).v] 37)))
            have Q6 := hide (heap_below (heap_below Q5.out c2) (below_alloc _ (.cells #[.int .i64 (fw m).g, .int .i64 (fw m).c, .int .i64 (fw m).v] 37)))
            have A6 := hide (heap_below (heap_below A5.out c2) (below_alloc _ (.cells #[.int .i64 (fw m).g, .int .i64 (fw m).c, .int .i64 (fw m).v] 37)))
            have A7 := hide (heap_new v2 (.cells #[.int .i64 (fw m).g, .int .i64 (fw m).c, .int .i64 (fw m).v] 37))
            clear c2 T5 Q5 A5
            unfold wv
            go_wp2_with fail
            generalize v2.alloc (.cells #[.int .i64 (fw m).g, .int .i64 (fw m).c, .int .i64 (fw m).v] 37) = V6 at T6 Q6 A6 A7 ⊢
            generalize v2.heap.size = S6 at A7 ⊢
            have s1 := cell_of Q6.out 1
            have a0 := cell_of A6.out 0
            have a1 := cell_of A6.out 1
            have a2 := cell_of A6.out 2
            have b0 := cell_of A7.out 0
            have b1 := cell_of A7.out 1
            have b2 := cell_of A7.out 2
            simp at s1 a0 a1 a2 b0 b1 b2
            obtain ⟨oq, cq, hg, hat, _⟩ := T6.out.r.at
            have HAT := hide hat
            have g0 := cell_of hg 0
            simp at g0
            have hm4 := T6.out.p.le
            clear hg hat
            have RF := hide fun u => ref_any (fw m) u
            unfold wv at RF
            generalize fo m = bo
            generalize (fw m).g = y0 at *
            generalize (fw m).c = y1 at *
            generalize (fw m).v = y2 at *
            go_region_held3 (fun w' => w'.cell? ⟨S5, 0, none⟩ = some (.int .i64 y0) ∧ w'.cell? ⟨S5, 1, none⟩ = some (.int .i64 y1) ∧ w'.cell? ⟨S5, 2, none⟩ = some (.int .i64 y2) ∧ w'.cell? ⟨S6, 0, none⟩ = some (.int .i64 y0) ∧ w'.cell? ⟨S6, 1, none⟩ = some (.int .i64 y1) ∧ w'.cell? ⟨S6, 2, none⟩ = some (.int .i64 y2) ∧ w'.cell? ⟨S, 1, none⟩ = some (.int .i64 xg) ∧ w'.cell? ⟨G, 0, none⟩ = some (.slice oq m.length cq))
              (first
                | go_keep
                | (go_split_ands
                   first
                     | (refine ⟨?_, ?_, ?_, ?_, ?_, ?_, ?_, ?_⟩ <;> (refine cellB ?_ k4; assumption))
                     | (refine ⟨?_, ?_, ?_, ?_, ?_, ?_, ?_, ?_⟩ <;> (refine cellB ?_ k3; assumption))
                     | (refine ⟨?_, ?_, ?_, ?_, ?_, ?_, ?_, ?_⟩ <;> (refine cellB ?_ k2; assumption))
                     | (refine ⟨?_, ?_, ?_, ?_, ?_, ?_, ?_, ?_⟩ <;> (refine cellB ?_ k1; assumption))))
              (first
                | (go_at_call 12; refine (RF.out _).mono ?_; rintro r z1 ⟨rfl, k1⟩)
                | (go_at_call 19; refine (len_any _ m _ ((T6.out.p.below (bdrew1 _)).below k1)).mono ?_; rintro r z0 ⟨rfl, rfl⟩)
                | (go_at_call 20; refine (has_any _ m xg _ ((T6.out.p.below (bdrew1 _)).below k1)).mono ?_; rintro r z0 ⟨rfl, rfl⟩)
                | (go_at_call 21; refine (rhas_any G m xg _ ((T6.out.r.below (bdrew1 _)).below k1)).mono ?_; rintro r z2 ⟨rfl, k2⟩)
                | (go_at_call 23; refine (list_any _ m _ (((T6.out.p.below (bdrew1 _)).below k1).below k2)).mono ?_; rintro r z3 ⟨ol, cl, rfl, at3, k3⟩)
                | (go_at_call 22; refine (same_any _ _ m _ _ _ at3 ((((HAT.out.below (bdrew1 _)).below k1).below k2).below k3) hm4).mono ?_; rintro r z4 ⟨rfl, k4⟩))
            have T8 := hide (T6.out.below (btr (bdrew1 _) (btr k1 (btr k2 (btr k3 k4)))))
            clear k1 k2 k3 k4 at3
            go_wp2_with fail
            go_roundw
            case rel => exact ⟨k + 1, m, by omega, by go_num, T8.out⟩
            case measure => simp [intOf]; omega
        · skip
          go_wp2_with fail
          rw [HS.out] at *
          generalize wr.alloc (.cells #[.int .i64 what, .int .i64 xg, .int .i64 xc, .int .i64 xv] 33) = W4 at Q T4 ⊢
          have e1 := cell_of Q.out 1
          have e2 := cell_of Q.out 2
          have e3 := cell_of Q.out 3
          simp at e1 e2 e3
          have AD := hide fun u h => add_any w.heap.size m0 ⟨xg, xc, xv⟩ u h
          have RF := hide fun u => ref_any ⟨xg, xc, xv⟩ u
          have RA := hide fun u h => radd_any G m0 ⟨xg, xc, xv⟩ u h
          unfold wv at AD RF RA
          go_region_held3 (fun w' => w'.cell? ⟨S, 1, none⟩ = some (.int .i64 xg) ∧ w'.cell? ⟨S, 2, none⟩ = some (.int .i64 xc) ∧ w'.cell? ⟨S, 3, none⟩ = some (.int .i64 xv))
            (first
              | go_keep
              | exact ⟨(cell_of K3.out 1).trans rfl, (cell_of K3.out 2).trans rfl, (cell_of K3.out 3).trans rfl⟩
              | exact ⟨(cell_of K2.out 1).trans rfl, (cell_of K2.out 2).trans rfl, (cell_of K2.out 3).trans rfl⟩
              | exact ⟨(cell_of K1.out 1).trans rfl, (cell_of K1.out 2).trans rfl, (cell_of K1.out 3).trans rfl⟩)
            (first
              | (go_at_call 10; refine (AD.out _ (T4.out.p.below (bdrew1 _))).mono ?_; rintro r v1 ⟨rfl, g1, c1⟩; have K1 := hide (c1.2 _ _ _ _ (heap_below Q.out (bdrew1 _)) (by decide) hSP); have M1 := hide ((T4.out.below (bdrew1 _)).mine g1 c1))
              | (go_at_call 12; refine (RF.out _).mono ?_; rintro r v2 ⟨rfl, c2⟩; have K2 := hide (heap_below K1.out c2); have M2 := hide (M1.out.below c2))
              | (go_at_call 11; refine (RA.out _ M2.out.r).mono ?_; rintro r v3 ⟨rfl, g3, c3⟩; have K3 := hide (c3.2 _ _ _ _ K2.out (by decide) hSG)))
          have T4 := hide (M2.out.ref g3 c3)
          have Q := hide K3.out
          clear M1 M2 K1 K2 K3 g1 g3 c1 c2 c3 e1 e2 e3 AD RF RA
          generalize al m0 ⟨xg, xc, xv⟩ = m at T4
          generalize ae m0 ⟨xg, xc, xv⟩ = ae0
          go_wp2_with fail
          refine (first_any _ m _ T4.out.p).mono ?_
          rintro r v1 ⟨rfl, c1⟩
          have T5 := hide ((T4.out.below c1).below (below_alloc _ (.cells #[.int .i64 (fw m).g, .int .i64 (fw m).c, .int .i64 (fw m).v] 31)))
          have Q5 := hide (heap_below (heap_below Q.out c1) (below_alloc _ (.cells #[.int .i64 (fw m).g, .int .i64 (fw m).c, .int .i64 (fw m).v] 31)))
          have A5 := hide (heap_new v1 (.cells #[.int .i64 (fw m).g, .int .i64 (fw m).c, .int .i64 (fw m).v] 31))
          clear c1 T4 Q
          unfold wv
          go_wp2_with fail
          generalize v1.alloc (.cells #[.int .i64 (fw m).g, .int .i64 (fw m).c, .int .i64 (fw m).v] 31) = V5 at T5 Q5 A5 ⊢
          generalize v1.heap.size = S5 at A5 ⊢
          refine (rfirst_any G m _ T5.out.r).mono ?_
          rintro r v2 ⟨rfl, c2⟩
          have T6 := hide ((T5.out.below c2).below (below_alloc _ (.cells #[.int .i64 (fw m).g, .int .i64 (fw m).c, .int .i64 (fw m).v] 37)))
          have Q6 := hide (heap_below (heap_below Q5.out c2) (below_alloc _ (.cells #[.int .i64 (fw m).g, .int .i64 (fw m).c, .int .i64 (fw m).v] 37)))
          have A6 := hide (heap_below (heap_below A5.out c2) (below_alloc _ (.cells #[.int .i64 (fw m).g, .int .i64 (fw m).c, .int .i64 (fw m).v] 37)))
          have A7 := hide (heap_new v2 (.cells #[.int .i64 (fw m).g, .int .i64 (fw m).c, .int .i64 (fw m).v] 37))
          clear c2 T5 Q5 A5
          unfold wv
          go_wp2_with fail
          generalize v2.alloc (.cells #[.int .i64 (fw m).g, .int .i64 (fw m).c, .int .i64 (fw m).v] 37) = V6 at T6 Q6 A6 A7 ⊢
          generalize v2.heap.size = S6 at A7 ⊢
          have s1 := cell_of Q6.out 1
          have a0 := cell_of A6.out 0
          have a1 := cell_of A6.out 1
          have a2 := cell_of A6.out 2
          have b0 := cell_of A7.out 0
          have b1 := cell_of A7.out 1
          have b2 := cell_of A7.out 2
          simp at s1 a0 a1 a2 b0 b1 b2
          obtain ⟨oq, cq, hg, hat, _⟩ := T6.out.r.at
          have HAT := hide hat
          have g0 := cell_of hg 0
          simp at g0
          have hm4 := T6.out.p.le
          clear hg hat
          have RF := hide fun u => ref_any (fw m) u
          unfold wv at RF
          generalize fo m = bo
          generalize (fw m).g = y0 at *
          generalize (fw m).c = y1 at *
          generalize (fw m).v = y2 at *
          go_region_held3 (fun w' => w'.cell? ⟨S5, 0, none⟩ = some (.int .i64 y0) ∧ w'.cell? ⟨S5, 1, none⟩ = some (.int .i64 y1) ∧ w'.cell? ⟨S5, 2, none⟩ = some (.int .i64 y2) ∧ w'.cell? ⟨S6, 0, none⟩ = some (.int .i64 y0) ∧ w'.cell? ⟨S6, 1, none⟩ = some (.int .i64 y1) ∧ w'.cell? ⟨S6, 2, none⟩ = some (.int .i64 y2) ∧ w'.cell? ⟨S, 1, none⟩ = some (.int .i64 xg) ∧ w'.cell? ⟨G, 0, none⟩ = some (.slice oq m.length cq))
            (first
              | go_keep
              | (go_split_ands
                 first
                   | (refine ⟨?_, ?_, ?_, ?_, ?_, ?_, ?_, ?_⟩ <;> (refine cellB ?_ k4; assumption))
                   | (refine ⟨?_, ?_, ?_, ?_, ?_, ?_, ?_, ?_⟩ <;> (refine cellB ?_ k3; assumption))
                   | (refine ⟨?_, ?_, ?_, ?_, ?_, ?_, ?_, ?_⟩ <;> (refine cellB ?_ k2; assumption))
                   | (refine ⟨?_, ?_, ?_, ?_, ?_, ?_, ?_, ?_⟩ <;> (refine cellB ?_ k1; assumption))))
            (first
              | (go_at_call 12; refine (RF.out _).mono ?_; rintro r z1 ⟨rfl, k1⟩)
              | (go_at_call 19; refine (len_any _ m _ ((T6.out.p.below (bdrew1 _)).below k1)).mono ?_; rintro r z0 ⟨rfl, rfl⟩)
              | (go_at_call 20; refine (has_any _ m xg _ ((T6.out.p.below (bdrew1 _)).below k1)).mono ?_; rintro r z0 ⟨rfl, rfl⟩)
              | (go_at_call 21; refine (rhas_any G m xg _ ((T6.out.r.below (bdrew1 _)).below k1)).mono ?_; rintro r z2 ⟨rfl, k2⟩)
              | (go_at_call 23; refine (list_any _ m _ (((T6.out.p.below (bdrew1 _)).below k1).below k2)).mono ?_; rintro r z3 ⟨ol, cl, rfl, at3, k3⟩)
              | (go_at_call 22; refine (same_any _ _ m _ _ _ at3 ((((HAT.out.below (bdrew1 _)).below k1).below k2).below k3) hm4).mono ?_; rintro r z4 ⟨rfl, k4⟩))
          have T8 := hide (T6.out.below (btr (bdrew1 _) (btr k1 (btr k2 (btr k3 k4)))))
          clear k1 k2 k3 k4 at3
          go_wp2_with fail
          go_roundw
          case rel => exact ⟨k + 1, m, by omega, by go_num, T8.out⟩
          case measure => simp [intOf]; omega
      · skip
        go_wp2_with fail
        rw [HS.out] at *
        generalize wr.alloc (.cells #[.int .i64 what, .int .i64 xg, .int .i64 xc, .int .i64 xv] 33) = W4 at Q T4 ⊢
        have e1 := cell_of Q.out 1
        have e2 := cell_of Q.out 2
        have e3 := cell_of Q.out 3
        simp at e1 e2 e3
        have AD := hide fun u h => add_any w.heap.size m0 ⟨xg, xc, xv⟩ u h
        have RF := hide fun u => ref_any ⟨xg, xc, xv⟩ u
        have RA := hide fun u h => radd_any G m0 ⟨xg, xc, xv⟩ u h
        unfold wv at AD RF RA
        go_region_held3 (fun w' => w'.cell? ⟨S, 1, none⟩ = some (.int .i64 xg) ∧ w'.cell? ⟨S, 2, none⟩ = some (.int .i64 xc) ∧ w'.cell? ⟨S, 3, none⟩ = some (.int .i64 xv))
          (first
            | go_keep
            | exact ⟨(cell_of K3.out 1).trans rfl, (cell_of K3.out 2).trans rfl, (cell_of K3.out 3).trans rfl⟩
            | exact ⟨(cell_of K2.out 1).trans rfl, (cell_of K2.out 2).trans rfl, (cell_of K2.out 3).trans rfl⟩
            | exact ⟨(cell_of K1.out 1).trans rfl, (cell_of K1.out 2).trans rfl, (cell_of K1.out 3).trans rfl⟩)
          (first
            | (go_at_call 10; refine (AD.out _ (T4.out.p.below (bdrew1 _))).mono ?_; rintro r v1 ⟨rfl, g1, c1⟩; have K1 := hide (c1.2 _ _ _ _ (heap_below Q.out (bdrew1 _)) (by decide) hSP); have M1 := hide ((T4.out.below (bdrew1 _)).mine g1 c1))
            | (go_at_call 12; refine (RF.out _).mono ?_; rintro r v2 ⟨rfl, c2⟩; have K2 := hide (heap_below K1.out c2); have M2 := hide (M1.out.below c2))
            | (go_at_call 11; refine (RA.out _ M2.out.r).mono ?_; rintro r v3 ⟨rfl, g3, c3⟩; have K3 := hide (c3.2 _ _ _ _ K2.out (by decide) hSG)))
        have T4 := hide (M2.out.ref g3 c3)
        have Q := hide K3.out
        clear M1 M2 K1 K2 K3 g1 g3 c1 c2 c3 e1 e2 e3 AD RF RA
        generalize al m0 ⟨xg, xc, xv⟩ = m at T4
        generalize ae m0 ⟨xg, xc, xv⟩ = ae0
        go_wp2_with fail
        refine (first_any _ m _ T4.out.p).mono ?_
        rintro r v1 ⟨rfl, c1⟩
        have T5 := hide ((T4.out.below c1).below (below_alloc _ (.cells #[.int .i64 (fw m).g, .int .i64 (fw m).c, .int .i64 (fw m).v] 31)))
        have Q5 := hide (heap_below (heap_below Q.out c1) (below_alloc _ (.cells #[.int .i64 (fw m).g, .int .i64 (fw m).c, .int .i64 (fw m).v] 31)))
        have A5 := hide (heap_new v1 (.cells #[.int .i64 (fw m).g, .int .i64 (fw m).c, .int .i64 (fw m).v] 31))
        clear c1 T4 Q
        unfold wv
        go_wp2_with fail
        generalize v1.alloc (.cells #[.int .i64 (fw m).g, .int .i64 (fw m).c, .int .i64 (fw m).v] 31) = V5 at T5 Q5 A5 ⊢
        generalize v1.heap.size = S5 at A5 ⊢
        refine (rfirst_any G m _ T5.out.r).mono ?_
        rintro r v2 ⟨rfl, c2⟩
        have T6 := hide ((T5.out.below c2).below (below_alloc _ (.cells #[.int .i64 (fw m).g, .int .i64 (fw m).c, .int .i64 (fw m).v] 37)))
        have Q6 := hide (heap_below (heap_below Q5.out c2) (below_alloc _ (.cells #[.int .i64 (fw m).g, .int .i64 (fw m).c, .int .i64 (fw m).v] 37)))
        have A6 := hide (heap_below (heap_below A5.out c2) (below_alloc _ (.cells #[.int .i64 (fw m).g, .int .i64 (fw m).c, .int .i64 (fw m).v] 37)))
        have A7 := hide (heap_new v2 (.cells #[.int .i64 (fw m).g, .int .i64 (fw m).c, .int .i64 (fw m).v] 37))
        clear c2 T5 Q5 A5
        unfold wv
        go_wp2_with fail
        generalize v2.alloc (.cells #[.int .i64 (fw m).g, .int .i64 (fw m).c, .int .i64 (fw m).v] 37) = V6 at T6 Q6 A6 A7 ⊢
        generalize v2.heap.size = S6 at A7 ⊢
        have s1 := cell_of Q6.out 1
        have a0 := cell_of A6.out 0
        have a1 := cell_of A6.out 1
        have a2 := cell_of A6.out 2
        have b0 := cell_of A7.out 0
        have b1 := cell_of A7.out 1
        have b2 := cell_of A7.out 2
        simp at s1 a0 a1 a2 b0 b1 b2
        obtain ⟨oq, cq, hg, hat, _⟩ := T6.out.r.at
        have HAT := hide hat
        have g0 := cell_of hg 0
        simp at g0
        have hm4 := T6.out.p.le
        clear hg hat
        have RF := hide fun u => ref_any (fw m) u
        unfold wv at RF
        generalize fo m = bo
        generalize (fw m).g = y0 at *
        generalize (fw m).c = y1 at *
        generalize (fw m).v = y2 at *
        go_region_held3 (fun w' => w'.cell? ⟨S5, 0, none⟩ = some (.int .i64 y0) ∧ w'.cell? ⟨S5, 1, none⟩ = some (.int .i64 y1) ∧ w'.cell? ⟨S5, 2, none⟩ = some (.int .i64 y2) ∧ w'.cell? ⟨S6, 0, none⟩ = some (.int .i64 y0) ∧ w'.cell? ⟨S6, 1, none⟩ = some (.int .i64 y1) ∧ w'.cell? ⟨S6, 2, none⟩ = some (.int .i64 y2) ∧ w'.cell? ⟨S, 1, none⟩ = some (.int .i64 xg) ∧ w'.cell? ⟨G, 0, none⟩ = some (.slice oq m.length cq))
          (first
            | go_keep
            | (go_split_ands
               first
                 | (refine ⟨?_, ?_, ?_, ?_, ?_, ?_, ?_, ?_⟩ <;> (refine cellB ?_ k4; assumption))
                 | (refine ⟨?_, ?_, ?_, ?_, ?_, ?_, ?_, ?_⟩ <;> (refine cellB ?_ k3; assumption))
                 | (refine ⟨?_, ?_, ?_, ?_, ?_, ?_, ?_, ?_⟩ <;> (refine cellB ?_ k2; assumption))
                 | (refine ⟨?_, ?_, ?_, ?_, ?_, ?_, ?_, ?_⟩ <;> (refine cellB ?_ k1; assumption))))
          (first
            | (go_at_call 12; refine (RF.out _).mono ?_; rintro r z1 ⟨rfl, k1⟩)
            | (go_at_call 19; refine (len_any _ m _ ((T6.out.p.below (bdrew1 _)).below k1)).mono ?_; rintro r z0 ⟨rfl, rfl⟩)
            | (go_at_call 20; refine (has_any _ m xg _ ((T6.out.p.below (bdrew1 _)).below k1)).mono ?_; rintro r z0 ⟨rfl, rfl⟩)
            | (go_at_call 21; refine (rhas_any G m xg _ ((T6.out.r.below (bdrew1 _)).below k1)).mono ?_; rintro r z2 ⟨rfl, k2⟩)
            | (go_at_call 23; refine (list_any _ m _ (((T6.out.p.below (bdrew1 _)).below k1).below k2)).mono ?_; rintro r z3 ⟨ol, cl, rfl, at3, k3⟩)
            | (go_at_call 22; refine (same_any _ _ m _ _ _ at3 ((((HAT.out.below (bdrew1 _)).below k1).below k2).below k3) hm4).mono ?_; rintro r z4 ⟨rfl, k4⟩))
        have T8 := hide (T6.out.below (btr (bdrew1 _) (btr k1 (btr k2 (btr k3 k4)))))
        clear k1 k2 k3 k4 at3
        go_wp2_with fail
        go_roundw
        case rel => exact ⟨k + 1, m, by omega, by go_num, T8.out⟩
        case measure => simp [intOf]; omega
    · have hlt' : ¬ ((k : Int) < (l.length : Int)) := by omega
      go_wp2_with fail
      refine (three_any _).mono ?_
      rintro r w8 ⟨rfl, b8⟩
      have B8 := hide (btr T3.out.b b8)
      clear b8
      go_wp2_with fail
      go_ret
      exact ⟨rfl, B8.out⟩

/-! ### the row -/
set_option maxRecDepth 100000 in
theorem lifted (os : Os) (started : os.Started) (H : Type) (enc : TypeId × Value → H) :
    ReturnsInHanded {} Try.checked os 3 .any (Rows.pewStepsSpec.pre6 enc Try.prog Try.f3 Rows.pewStepsRow.domain false) (Rows.pewStepsSpec.post enc Try.prog Try.f3 false true false false) := by
  refine returnsInHanded_of_change (C := Try.checked) own started (by kernel_rfl) Try.func3
    (ChangeSpec.witness6 (enc := enc) (C := Try.checked) false ⟨#[], #[.slice none 0 0], []⟩ 8 (by kernel_rfl) (by kernel_rfl) (by kernel_rfl) (by kernel_rfl)) ?_
  intro W base args ds gs before hval0 hW hcnd _
  have hval : ∀ (j : Nat) t v, Try.f3.params[j]? = some t → args[j]? = some v → Value.okWide Try.prog W .any base t v := hval0
  have hW' := hW
  obtain ⟨p, q, hA0, hV, rfl, hfz, hnd⟩ := hW
  have hA : DataW.TrodAll enc Try.prog W 0 (fun _ => true) true Try.f3.params.toList args.toList ds p := hA0
  rw [Try.params3] at hA hval
  obtain ⟨v0, vs0, d0, ds0, p0, q0, hargs, rfl, rfl, h0, r0⟩ := trodAll_cons hA
  obtain ⟨rfl, rfl, rfl⟩ := trodAll_nil r0
  obtain rfl : args = #[v0] := by cases args; simp_all
  obtain ⟨rfl, rfl⟩ := trodVars_none hV
  obtain ⟨oa0, n0, c0, rfl⟩ := okWide_slice Try.underlying22 (hval 0 22 v0 rfl rfl)
  have k0 := h0
  have lt0 : ∀ x ∈ p0, x.block < W.heap.size := by obtain ⟨m, hm⟩ := k0; exact DataW.trod_lt m _ _ _ hm
  obtain ⟨l0, rfl, A0, C0, M0⟩ := h0.elim fun _ hf => steps_open hf
  clear hA0 hval0
  refine (core (w := W) oa0 l0 c0 A0 (Nat.le_trans C0 M0)).mono fun e W' ⟨he, bel⟩ => ?_
  subst he
  exact ⟨_, rfl, _, _, _, [], _, [], hW', trodAll_mk1 (shut_bool Try.underlying4 _), (trodAll_cons_mk (Below.trod laidOut (by kernel_rfl) (of_decide_eq_true (by kernel_rfl)) k0 bel lt0) trodAll_mk0), rfl, bel.frame _, fun h => by cases h⟩

theorem over : Rows.pewStepsRow.holds Try.pinned (OpenSpec.ofChange Rows.pewStepsSpec) :=
  OpenClaim.holds_of_wide 3 Try.f3 rfl rfl rfl rfl rfl rfl rfl ⟨rfl, rfl, rfl, rfl, rfl⟩ rfl rfl rfl rfl rfl (by kernel_rfl) Try.func3 (by kernel_rfl)
    (of_decide_eq_true (by kernel_rfl)) (by unfold Func.isWrapper; first | (rw [if_pos (by decide +kernel)]; kernel_rfl) | (rw [if_neg (by decide +kernel)]; exact ⟨rfl, rfl⟩))
    (fun os started H enc _ => lifted os started H enc)

/-- the statement -/
theorem proved : Rows.PewStepsSaid := over
#print axioms proved
end Go.Proofs.Ytiefaihflmogpab.pewSteps
