/- For every size, every list of steps and every place, the law RingSteps returns true, so a ring answers, step by step, as the document does: under no condition. -/
import Derived.Test.YtiefaihflmogpaaGd
import Derived.Test.YtiefaihflmogpaaGe
import Derived.Test.YtiefaihflmogpaaGf
import Derived.ShutString
import Derived.ChangeOld
import Derived.Below
namespace Go.Proofs.Ytiefaihflmogpaa.ringSteps
open Go.ChangeShapes Go.WideShapes Go.ChangeAt Go.RowKit
open Go.ChangeMaps (open_string shut_string)
open Rn Ba

theorem own : ownKnob Try.prog.godebug = none := by kernel_rfl
theorem laidOut : laidOutB Try.prog = true := by kernel_rfl

theorem cellB {w w' : World} {b i : Nat} {v : Value} (h : w.cell? ⟨b, i, none⟩ = some v) (hb : Below w.heap.size w w') : w'.cell? ⟨b, i, none⟩ = some v := (hb.cell (World.block_lt_of_cell? w _ h)).trans h
/-- both rings, at one place of the law's walk -/
structure Two (w wr : World) (R G s : Nat) (l : List Int) : Prop where
  g : Rg wr R s l
  r : RR wr G s l
  lo : w.heap.size ≤ R
  hi : R < G
  b : Below w.heap.size w wr
theorem Two.below {w a c : World} {R G s : Nat} {l : List Int} (h : Two w a R G s l) (hb : Below a.heap.size a c) : Two w c R G s l := ⟨h.g.below hb, h.r.below hb, h.lo, h.hi, btr h.b hb⟩
theorem Two.mine {w a c : World} {R G s : Nat} {l m : List Int} (h : Two w a R G s l) (hg : Rg c R s m) (hk : KB R a c) : Rg c R s m ∧ RR c G s l ∧ Below w.heap.size w c := ⟨hg, h.r.kb hk h.hi, KB.below h.b hk h.lo⟩
theorem Two.ref {w a c : World} {R G s : Nat} {m : List Int} (hg : Rg a R s m) (hb : Below w.heap.size w a) (lo : w.heap.size ≤ R) (hi : R < G) (hr : RR c G s m) (hk : Below G a c) : Two w c R G s m := ⟨rg_lt hg hk hi, hr, lo, hi, hb.trans (hk.mono (by omega))⟩

set_option maxRecDepth 100000 in
set_option maxHeartbeats 3200000 in
theorem err_walk {w : World} (s : Int) (oa : Option Addr) (n c : Nat) (i : Int) (hs : s < 0 ∨ 4 < s) :
    Calls Try.prog 5 #[.int .i64 s, .slice oa n c, .int .i64 i] w fun r w' => r = .returned (.bool true) ∧ Below w.heap.size w w' := by
  have NW := hide (new_err s w hs)
  have RW := hide (rnew_err s w hs)
  clear hs
  go_enter Try.func5, Try.ntmps5
  go_wp2_with fail
  refine NW.out.mono ?_
  rintro r w1 ⟨rfl, rfl⟩
  go_wp2_with fail
  refine RW.out.mono ?_
  rintro r w1 ⟨rfl, rfl⟩
  go_wp2_with fail
  refine (two_any _).mono ?_
  rintro r w5 ⟨rfl, b5⟩
  have B5 := hide b5
  clear b5
  go_wp2_with fail
  go_ret
  exact ⟨rfl, B5.out⟩

set_option maxRecDepth 100000 in
set_option maxHeartbeats 6400000 in
theorem core {w : World} (s0 : Int) (oa : Option Addr) (l : List (List Int)) (c : Nat) (hA : RAt w oa 2 l) (hl : l.length ≤ maxLen) (i : Int) :
    Calls Try.prog 5 #[.int .i64 s0, .slice oa l.length c, .int .i64 i] w fun r w' => r = .returned (.bool true) ∧ Below w.heap.size w w' := by
  by_cases hs : s0 < 0 ∨ 4 < s0
  · exact err_walk s0 oa l.length c i hs
  obtain ⟨s, rfl⟩ := Int.eq_ofNat_of_zero_le (show 0 ≤ s0 by omega)
  have hs4 : s ≤ 4 := by omega
  have HA := hide hA
  unfold maxLen at hl
  clear hA hs
  go_enter Try.func5, Try.ntmps5
  go_wp2_with fail
  refine (new_ok s _ hs4).mono ?_
  rintro r w1 ⟨rfl, g1, b1⟩
  have G1 := hide g1
  have B1 := hide b1
  clear g1 b1
  go_wp2_with fail
  refine (rnew_ok s _ hs4).mono ?_
  rintro r w2 ⟨rfl, g2, b2⟩
  have T2 : Hid (Two w w2 w.heap.size w1.heap.size s []) := ⟨G1.out.below b2, g2, Nat.le_refl _, G1.out.lt, btr B1.out b2⟩
  clear g2 b2 G1 B1
  generalize w1.heap.size = G at T2 ⊢
  by_cases h3 : 300 < l.length
  · have h3' : decide ((300 : Int) < (l.length : Int)) = true := decide_eq_true (by omega)
    go_wp2_with fail
    refine (two_any _).mono ?_
    rintro r w5 ⟨rfl, b5⟩
    have B5 := hide (btr T2.out.b b5)
    clear b5
    go_wp2_with fail
    go_ret
    exact ⟨rfl, B5.out⟩
  have h3' : decide ((300 : Int) < (l.length : Int)) = false := decide_eq_false (by omega)
  go_wp2_with fail
  go_loopw [55] (fun j wr => ∃ (k : Nat) (m : List Int), k ≤ l.length ∧ j = .int .i64 k ∧ Two w wr w.heap.size G s m) (fun j _ => l.length - (intOf j).toNat)
  case atStart => exact ⟨0, [], Nat.zero_le _, rfl, T2.out⟩
  case round =>
    clear T2
    obtain ⟨k, m0, hk, rfl, t3⟩ := hrel
    have T3 := hide t3
    clear t3
    by_cases hlt : k < l.length
    · have hlt' : (k : Int) < (l.length : Int) := by omega
      obtain ⟨x, hx⟩ : ∃ x, l[k]? = some x := ⟨_, List.getElem?_eq_getElem hlt⟩
      obtain ⟨b', o', rfl, hc⟩ := (HA.out.below T3.out.b) k x hx
      have q0 := hc 0 (by decide)
      have q1 := hc 1 (by decide)
      rw [Nat.add_zero] at q0
      clear hc hx
      generalize nth x 0 = what at q0
      generalize nth x 1 = v at q1
      have hSR : wr.heap.size ≠ w.heap.size := by have := T3.out.g.lt; omega
      have hSG : wr.heap.size ≠ G := by obtain ⟨_, q, _⟩ := T3.out.r; have := heap_lt q; omega
      have Q := hide (heap_new wr (.cells #[.int .i64 what, .int .i64 v] 52))
      have T4 := hide (T3.out.below (below_alloc wr (.cells #[.int .i64 what, .int .i64 v] 52)))
      clear T3
      cases h0 : what == 0
      · cases h1 : what == 1
        · cases h2 : what == 2
          · cases h4 : what == 3
            · go_wp2_with fail
              generalize wr.alloc (.cells #[.int .i64 what, .int .i64 v] 52) = W4 at Q T4 ⊢
              clear Q
              (obtain ⟨m, hm⟩ : ∃ m, m = m0 := ⟨_, rfl⟩); subst hm
              refine (at_any _ s m i _ T4.out.g).mono ?_
              rintro r u1 ⟨rfl, c1⟩
              have T5 := hide (T4.out.below c1)
              clear c1 T4
              go_wp2_with fail
              refine (rat_any G s m i _ T5.out.r).mono ?_
              rintro r u2 ⟨rfl, rfl⟩
              generalize atv m i = xv
              generalize ate m i = xe
              obtain ⟨ob, d, hg, hat, _⟩ := T5.out.r.at
              have HAT := hide hat
              have y1 := cell_of hg 1
              simp at y1
              have hm4 : m.length ≤ 4 := by have := T5.out.r.le; omega
              clear hg hat
              go_wp2_with fail
              go_region_held3 (fun w' => w'.cell? ⟨G, 1, none⟩ = some (.slice ob m.length d))
                (first
                  | go_keep
                  | (refine cellB ?_ c4; assumption)
                  | (refine cellB ?_ c3; assumption))
                (first
                  | (go_at_call 29; refine (len_any _ s m _ (T5.out.g.below (bdrew1 _))).mono ?_; rintro r v1 ⟨rfl, rfl⟩)
                  | (go_at_call 30; refine (cap_any _ s m _ (T5.out.g.below (bdrew1 _))).mono ?_; rintro r v1 ⟨rfl, rfl⟩)
                  | (go_at_call 31; refine (list_any _ s m _ (T5.out.g.below (bdrew1 _))).mono ?_; rintro r v3 ⟨rfl, a3, c3⟩)
                  | (go_at_call 16; refine (ints_is _ _ m m _ _ _ _ true (by simp) rfl rfl _ a3 ((HAT.out.below (bdrew1 _)).below c3) (by omega) (by omega)).mono ?_; rintro r v4 ⟨rfl, c4⟩))
              have T6 := hide (T5.out.below (btr (bdrew1 _) (btr c3 c4)))
              clear c3 c4 a3
              go_wp2_with fail
              go_roundw
              case rel => exact ⟨k + 1, m, by omega, by go_num, T6.out⟩
              case measure => simp [intOf]; omega
            · go_wp2_with fail
              generalize wr.alloc (.cells #[.int .i64 what, .int .i64 v] 52) = W4 at Q T4 ⊢
              have e1 := cell_of Q.out 1
              simp at e1
              refine (turn_any _ s m0 v _ T4.out.g).mono ?_
              rintro r v1 ⟨rfl, g1, c1⟩
              have M1 := hide (T4.out.mine g1 c1)
              have e2 := c1.cell e1 hSR
              clear g1 c1
              go_wp2_with fail
              refine (rturn_any G s m0 v _ M1.out.2.1).mono ?_
              rintro r v2 ⟨rfl, g2, c2⟩
              have T4 := hide (Two.ref M1.out.1 M1.out.2.2 T4.out.lo T4.out.hi g2 c2)
              clear M1 Q g2 c2 e1 e2
              generalize tl m0 v = m at T4
              generalize oe m0 = oe0
              generalize nth m0 0 = n0
              go_wp2_with fail
              refine (at_any _ s m i _ T4.out.g).mono ?_
              rintro r u1 ⟨rfl, c1⟩
              have T5 := hide (T4.out.below c1)
              clear c1 T4
              go_wp2_with fail
              refine (rat_any G s m i _ T5.out.r).mono ?_
              rintro r u2 ⟨rfl, rfl⟩
              generalize atv m i = xv
              generalize ate m i = xe
              obtain ⟨ob, d, hg, hat, _⟩ := T5.out.r.at
              have HAT := hide hat
              have y1 := cell_of hg 1
              simp at y1
              have hm4 : m.length ≤ 4 := by have := T5.out.r.le; omega
              clear hg hat
              go_wp2_with fail
              go_region_held3 (fun w' => w'.cell? ⟨G, 1, none⟩ = some (.slice ob m.length d))
                (first
                  | go_keep
                  | (refine cellB ?_ c4; assumption)
                  | (refine cellB ?_ c3; assumption))
                (first
                  | (go_at_call 29; refine (len_any _ s m _ (T5.out.g.below (bdrew1 _))).mono ?_; rintro r v1 ⟨rfl, rfl⟩)
                  | (go_at_call 30; refine (cap_any _ s m _ (T5.out.g.below (bdrew1 _))).mono ?_; rintro r v1 ⟨rfl, rfl⟩)
                  | (go_at_call 31; refine (list_any _ s m _ (T5.out.g.below (bdrew1 _))).mono ?_; rintro r v3 ⟨rfl, a3, c3⟩)
                  | (go_at_call 16; refine (ints_is _ _ m m _ _ _ _ true (by simp) rfl rfl _ a3 ((HAT.out.below (bdrew1 _)).below c3) (by omega) (by omega)).mono ?_; rintro r v4 ⟨rfl, c4⟩))
              have T6 := hide (T5.out.below (btr (bdrew1 _) (btr c3 c4)))
              clear c3 c4 a3
              go_wp2_with fail
              go_roundw
              case rel => exact ⟨k + 1, m, by omega, by go_num, T6.out⟩
              case measure => simp [intOf]; omega
          · go_wp2_with fail
            generalize wr.alloc (.cells #[.int .i64 what, .int .i64 v] 52) = W4 at Q T4 ⊢
            refine (pop_any _ s m0 _ T4.out.g).mono ?_
            rintro r v1 ⟨rfl, g1, c1⟩
            have M1 := hide (T4.out.mine g1 c1)
            clear g1 c1
            go_wp2_with fail
            refine (rpop_any G s m0 _ M1.out.2.1).mono ?_
            rintro r v2 ⟨rfl, g2, c2⟩
            have T4 := hide (Two.ref M1.out.1 M1.out.2.2 T4.out.lo T4.out.hi g2 c2)
            clear M1 Q g2 c2
            generalize m0.tail = m at T4
            generalize oe m0 = oe0
            generalize nth m0 0 = n0
            go_wp2_with fail
            refine (at_any _ s m i _ T4.out.g).mono ?_
            rintro r u1 ⟨rfl, c1⟩
            have T5 := hide (T4.out.below c1)
            clear c1 T4
            go_wp2_with fail
            refine (rat_any G s m i _ T5.out.r).mono ?_
            rintro r u2 ⟨rfl, rfl⟩
            generalize atv m i = xv
            generalize ate m i = xe
            obtain ⟨ob, d, hg, hat, _⟩ := T5.out.r.at
            have HAT := hide hat
            have y1 := cell_of hg 1
            simp at y1
            have hm4 : m.length ≤ 4 := by have := T5.out.r.le; omega
            clear hg hat
            go_wp2_with fail
            go_region_held3 (fun w' => w'.cell? ⟨G, 1, none⟩ = some (.slice ob m.length d))
              (first
                | go_keep
                | (refine cellB ?_ c4; assumption)
                | (refine cellB ?_ c3; assumption))
              (first
                | (go_at_call 29; refine (len_any _ s m _ (T5.out.g.below (bdrew1 _))).mono ?_; rintro r v1 ⟨rfl, rfl⟩)
                | (go_at_call 30; refine (cap_any _ s m _ (T5.out.g.below (bdrew1 _))).mono ?_; rintro r v1 ⟨rfl, rfl⟩)
                | (go_at_call 31; refine (list_any _ s m _ (T5.out.g.below (bdrew1 _))).mono ?_; rintro r v3 ⟨rfl, a3, c3⟩)
                | (go_at_call 16; refine (ints_is _ _ m m _ _ _ _ true (by simp) rfl rfl _ a3 ((HAT.out.below (bdrew1 _)).below c3) (by omega) (by omega)).mono ?_; rintro r v4 ⟨rfl, c4⟩))
            have T6 := hide (T5.out.below (btr (bdrew1 _) (btr c3 c4)))
            clear c3 c4 a3
            go_wp2_with fail
            go_roundw
            case rel => exact ⟨k + 1, m, by omega, by go_num, T6.out⟩
            case measure => simp [intOf]; omega
        · go_wp2_with fail
          generalize wr.alloc (.cells #[.int .i64 what, .int .i64 v] 52) = W4 at Q T4 ⊢
          have e1 := cell_of Q.out 1
          simp at e1
          have hGl := hide T4.out.hi
          go_region_held3 (fun w' => w'.cell? ⟨wr.heap.size, 1, none⟩ = some (.int .i64 v))
            (first
              | go_keep
              | exact (cell_of (c2.2 _ _ _ _ K1.out (by decide) hSG) 1).trans rfl
              | exact (cell_of K1.out 1).trans rfl)
            (first
              | (go_at_call 21; refine (push_any _ s m0 v _ (T4.out.g.below (bdrew1 _))).mono ?_; rintro r v1 ⟨rfl, g1, c1⟩; have K1 := hide (c1.heap (heap_below Q.out (bdrew1 _)) hSR); have M1 := hide ((T4.out.below (bdrew1 _)).mine g1 c1))
              | (go_at_call 22; refine (rpush_any G s m0 v _ M1.out.2.1).mono ?_; rintro r v2 ⟨rfl, g2, c2⟩))
          have T4 := hide (Two.ref M1.out.1 M1.out.2.2 T4.out.lo T4.out.hi g2 c2.1)
          clear M1 K1 Q g2 c2 g1 c1 e1
          generalize pl s m0 v = m at T4
          generalize pe s m0 = pe0
          go_wp2_with fail
          refine (at_any _ s m i _ T4.out.g).mono ?_
          rintro r u1 ⟨rfl, c1⟩
          have T5 := hide (T4.out.below c1)
          clear c1 T4
          go_wp2_with fail
          refine (rat_any G s m i _ T5.out.r).mono ?_
          rintro r u2 ⟨rfl, rfl⟩
          generalize atv m i = xv
          generalize ate m i = xe
          obtain ⟨ob, d, hg, hat, _⟩ := T5.out.r.at
          have HAT := hide hat
          have y1 := cell_of hg 1
          simp at y1
          have hm4 : m.length ≤ 4 := by have := T5.out.r.le; omega
          clear hg hat
          go_wp2_with fail
          go_region_held3 (fun w' => w'.cell? ⟨G, 1, none⟩ = some (.slice ob m.length d))
            (first
              | go_keep
              | (refine cellB ?_ c4; assumption)
              | (refine cellB ?_ c3; assumption))
            (first
              | (go_at_call 29; refine (len_any _ s m _ (T5.out.g.below (bdrew1 _))).mono ?_; rintro r v1 ⟨rfl, rfl⟩)
              | (go_at_call 30; refine (cap_any _ s m _ (T5.out.g.below (bdrew1 _))).mono ?_; rintro r v1 ⟨rfl, rfl⟩)
              | (go_at_call 31; refine (list_any _ s m _ (T5.out.g.below (bdrew1 _))).mono ?_; rintro r v3 ⟨rfl, a3, c3⟩)
              | (go_at_call 16; refine (ints_is _ _ m m _ _ _ _ true (by simp) rfl rfl _ a3 ((HAT.out.below (bdrew1 _)).below c3) (by omega) (by omega)).mono ?_; rintro r v4 ⟨rfl, c4⟩))
          have T6 := hide (T5.out.below (btr (bdrew1 _) (btr c3 c4)))
          clear c3 c4 a3
          go_wp2_with fail
          go_roundw
          case rel => exact ⟨k + 1, m, by omega, by go_num, T6.out⟩
          case measure => simp [intOf]; omega
      · go_wp2_with fail
        generalize wr.alloc (.cells #[.int .i64 what, .int .i64 v] 52) = W4 at Q T4 ⊢
        have e1 := cell_of Q.out 1
        simp at e1
        have hGl := hide T4.out.hi
        go_region_held3 (fun w' => w'.cell? ⟨wr.heap.size, 1, none⟩ = some (.int .i64 v))
          (first
            | go_keep
            | exact (cell_of (c2.2 _ _ _ _ K1.out (by decide) hSG) 1).trans rfl
            | exact (cell_of K1.out 1).trans rfl)
          (first
            | (go_at_call 21; refine (push_any _ s m0 v _ (T4.out.g.below (bdrew1 _))).mono ?_; rintro r v1 ⟨rfl, g1, c1⟩; have K1 := hide (c1.heap (heap_below Q.out (bdrew1 _)) hSR); have M1 := hide ((T4.out.below (bdrew1 _)).mine g1 c1))
            | (go_at_call 22; refine (rpush_any G s m0 v _ M1.out.2.1).mono ?_; rintro r v2 ⟨rfl, g2, c2⟩))
        have T4 := hide (Two.ref M1.out.1 M1.out.2.2 T4.out.lo T4.out.hi g2 c2.1)
        clear M1 K1 Q g2 c2 g1 c1 e1
        generalize pl s m0 v = m at T4
        generalize pe s m0 = pe0
        go_wp2_with fail
        refine (at_any _ s m i _ T4.out.g).mono ?_
        rintro r u1 ⟨rfl, c1⟩
        have T5 := hide (T4.out.below c1)
        clear c1 T4
        go_wp2_with fail
        refine (rat_any G s m i _ T5.out.r).mono ?_
        rintro r u2 ⟨rfl, rfl⟩
        generalize atv m i = xv
        generalize ate m i = xe
        obtain ⟨ob, d, hg, hat, _⟩ := T5.out.r.at
        have HAT := hide hat
        have y1 := cell_of hg 1
        simp at y1
        have hm4 : m.length ≤ 4 := by have := T5.out.r.le; omega
        clear hg hat
        go_wp2_with fail
        go_region_held3 (fun w' => w'.cell? ⟨G, 1, none⟩ = some (.slice ob m.length d))
          (first
            | go_keep
            | (refine cellB ?_ c4; assumption)
            | (refine cellB ?_ c3; assumption))
          (first
            | (go_at_call 29; refine (len_any _ s m _ (T5.out.g.below (bdrew1 _))).mono ?_; rintro r v1 ⟨rfl, rfl⟩)
            | (go_at_call 30; refine (cap_any _ s m _ (T5.out.g.below (bdrew1 _))).mono ?_; rintro r v1 ⟨rfl, rfl⟩)
            | (go_at_call 31; refine (list_any _ s m _ (T5.out.g.below (bdrew1 _))).mono ?_; rintro r v3 ⟨rfl, a3, c3⟩)
            | (go_at_call 16; refine (ints_is _ _ m m _ _ _ _ true (by simp) rfl rfl _ a3 ((HAT.out.below (bdrew1 _)).below c3) (by omega) (by omega)).mono ?_; rintro r v4 ⟨rfl, c4⟩))
        have T6 := hide (T5.out.below (btr (bdrew1 _) (btr c3 c4)))
        clear c3 c4 a3
        go_wp2_with fail
        go_roundw
        case rel => exact ⟨k + 1, m, by omega, by go_num, T6.out⟩
        case measure => simp [intOf]; omega
    · have hlt' : ¬ ((k : Int) < (l.length : Int)) := by omega
      go_wp2_with fail
      refine (two_any _).mono ?_
      rintro r w8 ⟨rfl, b8⟩
      have B8 := hide (btr T3.out.b b8)
      clear b8
      go_wp2_with fail
      go_ret
      exact ⟨rfl, B8.out⟩

/-! ### the row -/
set_option maxRecDepth 100000 in
theorem lifted (os : Os) (started : os.Started) (H : Type) (enc : TypeId × Value → H) :
    ReturnsInHanded {} Try.checked os 5 .any (Rows.ringStepsSpec.pre6 enc Try.prog Try.f5 Rows.ringStepsRow.domain false) (Rows.ringStepsSpec.post enc Try.prog Try.f5 false true false false) := by
  refine returnsInHanded_of_change (C := Try.checked) own started (by kernel_rfl) Try.func5
    (ChangeSpec.witness6 (enc := enc) (C := Try.checked) false ⟨#[], #[.int .i64 0, .slice none 0 0, .int .i64 0], []⟩ 8 (by kernel_rfl) (by kernel_rfl) (by kernel_rfl) (by kernel_rfl)) ?_
  intro W base args ds gs before hval0 hW hcnd _
  have hval : ∀ (j : Nat) t v, Try.f5.params[j]? = some t → args[j]? = some v → Value.okWide Try.prog W .any base t v := hval0
  have hW' := hW
  obtain ⟨p, q, hA0, hV, rfl, hfz, hnd⟩ := hW
  have hA : DataW.TrodAll enc Try.prog W 0 (fun _ => true) true Try.f5.params.toList args.toList ds p := hA0
  rw [Try.params5] at hA hval
  obtain ⟨v0, vs0, d0, ds0, p0, q0, hargs, rfl, rfl, h0, r0⟩ := trodAll_cons hA
  obtain ⟨v1, vs1, d1, ds1, p1, q1, rfl, rfl, rfl, h1, r1⟩ := trodAll_cons r0
  obtain ⟨v2, vs2, d2, ds2, p2, q2, rfl, rfl, rfl, h2, r2⟩ := trodAll_cons r1
  obtain ⟨rfl, rfl, rfl⟩ := trodAll_nil r2
  obtain rfl : args = #[v0, v1, v2] := by cases args; simp_all
  obtain ⟨rfl, rfl⟩ := trodVars_none hV
  obtain ⟨a0, rfl, rfl, rfl, w0⟩ := open_int Try.underlying3 (hval 0 3 v0 rfl rfl) h0
  obtain ⟨oa1, n1, c1, rfl⟩ := okWide_slice Try.underlying44 (hval 1 44 v1 rfl rfl)
  have k1 := h1
  have lt1 : ∀ x ∈ p1, x.block < W.heap.size := by obtain ⟨m, hm⟩ := k1; exact DataW.trod_lt m _ _ _ hm
  obtain ⟨l1, rfl, A1, C1, M1⟩ := h1.elim fun _ hf => steps_open hf
  obtain ⟨a2, rfl, rfl, rfl, w2⟩ := open_int Try.underlying3 (hval 2 3 v2 rfl rfl) h2
  clear hA0 hval0
  refine (core (w := W) a0 oa1 l1 c1 A1 (Nat.le_trans C1 M1) a2).mono fun e W' ⟨he, bel⟩ => ?_
  subst he
  exact ⟨_, rfl, _, _, _, [], _, [], hW', trodAll_mk1 (shut_bool Try.underlying4 _), (trodAll_cons_mk (shut_int Try.underlying3 w0) (trodAll_cons_mk (Below.trod laidOut (by kernel_rfl) (of_decide_eq_true (by kernel_rfl)) k1 bel lt1) (trodAll_cons_mk (shut_int Try.underlying3 w2) trodAll_mk0))), rfl, bel.frame _, fun h => by cases h⟩

theorem over : Rows.ringStepsRow.holds Try.pinned (OpenSpec.ofChange Rows.ringStepsSpec) :=
  OpenClaim.holds_of_wide 5 Try.f5 rfl rfl rfl rfl rfl rfl rfl ⟨rfl, rfl, rfl, rfl, rfl⟩ rfl rfl rfl rfl rfl (by kernel_rfl) Try.func5 (by kernel_rfl)
    (of_decide_eq_true (by kernel_rfl)) (by unfold Func.isWrapper; first | (rw [if_pos (by decide +kernel)]; kernel_rfl) | (rw [if_neg (by decide +kernel)]; exact ⟨rfl, rfl⟩))
    (fun os started H enc _ => lifted os started H enc)

/-- the statement -/
theorem proved : Rows.RingStepsSaid := over
#print axioms proved
end Go.Proofs.Ytiefaihflmogpaa.ringSteps
