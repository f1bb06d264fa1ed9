/- Layer 27 (walk), over this seat's program: Index, Twice; the reference's Double; the laws' own large(), places(). -/
import Derived.Test.YtgmkknaagbjcmaaFw8
namespace Go.Proofs.Ytgmkknaagbjcmaa
open Go.ChangeShapes Go.WideShapes Go.ChangeAt Go.RowKit
namespace Fw
open Ba Fl

theorem eq_bits {p q u v : Nat} {x y x' y' : Int} (h1 : Hi p x) (h2 : Hi q y) (h3 : Hi u x') (h4 : Hi v y') : ((FloatKind.f64.format.order p u == some .eq) && (FloatKind.f64.format.order q v == some .eq)) = decide ((x, y) = (x', y')) := by
  rw [h1.eq h3, h2.eq h4, Bool.eq_iff_iff]; simp
/-- the first place of k that is z -/
def IxR (f : Nat → Int × Int) (k : Nat) (z : Int × Int) (i : Int) : Prop := (i = -1 ∧ ∀ j, j < k → f j ≠ z) ∨ ∃ j : Nat, i = (j : Int) ∧ j < k ∧ f j = z ∧ ∀ m, m < j → f m ≠ z
set_option maxRecDepth 100000 in
set_option maxHeartbeats 1600000 in
theorem index_any (oa : Option Addr) (n c : Nat) (f : Nat → Int × Int) (p q : Nat) (z : Int × Int) (w : World) (hA : ZAt w oa n f) (hn : n ≤ 500) (h1 : Hi p z.1) (h2 : Hi q z.2) :
    Calls Try.prog 24 #[.slice oa n c, .complex .f64 p q] w fun r w' => (∃ i, r = .returned (.int .i64 i) ∧ IxR f n z i) ∧ w' = w := by
  have HA := hide hA
  clear hA
  go_enter Try.func24, Try.ntmps24
  go_wp2_with fail
  go_loopw [8] (fun i wr => ∃ k : Nat, k ≤ n ∧ i = .int .i64 (k : Int) ∧ (∀ j, j < k → f j ≠ z) ∧ wr = w) (fun i _ => n - (intOf i).toNat)
  case atStart => exact ⟨0, Nat.zero_le _, rfl, fun j hj => absurd hj (Nat.not_lt_zero _), rfl⟩
  case round =>
    obtain ⟨k, hk, rfl, hno, rfl⟩ := hrel
    have NO := hide hno
    clear hno
    by_cases hlt : k < n
    · have hlt' : (k : Int) < (n : Int) := by omega
      obtain ⟨b, o, u, v, rfl, c1, h3, h4⟩ := HA.out k hlt
      have EQ := eq_bits h1 h2 h3 h4
      by_cases he : z = f k
      · have e1 : ((FloatKind.f64.format.order p u == some .eq) && (FloatKind.f64.format.order q v == some .eq)) = true := by rw [EQ]; exact decide_eq_true (show (z.1, z.2) = ((f k).1, (f k).2) from he)
        have FIN : Hid (IxR f n z (k : Int)) := .inr ⟨k, rfl, hlt, he.symm, NO.out⟩
        rw [Bool.and_eq_true] at e1
        obtain ⟨e1, e2⟩ := e1
        clear EQ he h3 h4
        go_wp2_with fail
        go_ret
        exact ⟨⟨_, rfl, FIN.out⟩, rfl⟩
      · have e1 : ((FloatKind.f64.format.order p u == some .eq) && (FloatKind.f64.format.order q v == some .eq)) = false := by rw [EQ]; exact decide_eq_false (show ¬ (z.1, z.2) = ((f k).1, (f k).2) from he)
        have FIN : Hid (∀ j, j < k + 1 → f j ≠ z) := fun j hj => by
          by_cases ej : j = k
          · subst ej; exact fun e => he e.symm
          · exact NO.out j (by omega)
        clear EQ he h3 h4
        go_wp2_with fail
        go_roundw
        case rel => exact ⟨k + 1, by omega, by go_num, FIN.out, by first | rfl | trivial⟩
        case measure => simp [intOf]; omega
    · have hlt' : ¬ ((k : Int) < (n : Int)) := by omega
      obtain rfl : k = n := by omega
      go_wp2_with fail
      go_ret
      exact ⟨⟨-1, rfl, .inl ⟨rfl, NO.out⟩⟩, rfl⟩
/-- no two of the first k are the same -/
def Un (f : Nat → Int × Int) (k : Nat) : Prop := ∀ a b, a < b → b < k → f a ≠ f b
/-- what Twice hands back -/
def TwR (w : World) (n : Nat) (f : Nat → Int × Int) (r : Ending) (w' : World) : Prop := ((r = .returned (.tuple #[.int .i64 0, .int .i64 0, .bool false]) ∧ Un f n) ∨ ∃ i k : Nat, r = .returned (.tuple #[.int .i64 (i : Int), .int .i64 (k : Int), .bool true]) ∧ i < k ∧ k < n ∧ f i = f k ∧ (∀ m, m < i → f m ≠ f k) ∧ Un f k) ∧ w' = w
theorem Un.succ {f : Nat → Int × Int} {k : Nat} (h : Un f k) (h2 : ∀ j, j < k → f j ≠ f k) : Un f (k + 1) := fun a b hab hb => by
  by_cases e : b = k
  · subst e; exact h2 a hab
  · exact h a b hab (by omega)
set_option maxRecDepth 100000 in
set_option maxHeartbeats 1600000 in
theorem twice_any (oa : Option Addr) (n c : Nat) (f : Nat → Int × Int) (w : World) (hA : ZAt w oa n f) (hn : n ≤ 500) (hc : n ≤ c) :
    Calls Try.prog 18 #[.slice oa n c] w fun r w' => TwR w n f r w' := by
  have HA := hide hA
  clear hA
  go_enter Try.func18, Try.ntmps18
  go_wp2_with fail
  go_loopw [10] (fun i wr => ∃ k : Nat, k ≤ n ∧ i = .int .i64 (k : Int) ∧ Un f k ∧ wr = w) (fun i _ => n - (intOf i).toNat)
  case atStart => exact ⟨0, Nat.zero_le _, rfl, fun a b _ hb => absurd hb (Nat.not_lt_zero _), rfl⟩
  case round =>
    obtain ⟨k, hk, rfl, hun, rfl⟩ := hrel
    have NO := hide hun
    clear hun
    by_cases hlt : k < n
    · have hlt' : (k : Int) < (n : Int) := by omega
      have hkc : (k : Int) ≤ (c : Int) := by omega
      have hkc2 : k ≤ c := by omega
      obtain ⟨b, o, u, v, rfl, c1, h3, h4⟩ := HA.out k hlt
      have IX := hide (index_any (some ⟨b, o, none⟩) k c f u v (f k) wr (fun i hi => HA.out i (by omega)) (by omega) h3 h4)
      clear h3 h4
      go_wp2_with fail
      refine IX.out.mono ?_
      rintro r w1 ⟨⟨i, rfl, hi⟩, e1⟩
      obtain rfl := e1.symm
      rcases hi with ⟨rfl, hi⟩ | ⟨j, rfl, hj, he, hm⟩
      · have FIN := hide (NO.out.succ hi)
        clear hi
        go_wp2_with fail
        go_roundw
        case rel => exact ⟨k + 1, by omega, by go_num, FIN.out, by first | rfl | trivial⟩
        case measure => simp [intOf]; omega
      · have FIN : Hid (TwR wr n f (.returned (.tuple #[.int .i64 (j : Int), .int .i64 (k : Int), .bool true])) wr) := ⟨.inr ⟨j, k, rfl, hj, hlt, he, hm, NO.out⟩, rfl⟩
        have hj0 : decide ((0 : Int) ≤ (j : Int)) = true := by simp
        clear he hm
        go_wp2_with fail
        go_ret3
        exact FIN.out
    · have hlt' : ¬ ((k : Int) < (n : Int)) := by omega
      obtain rfl : k = n := by omega
      go_wp2_with fail
      go_ret3
      exact ⟨.inl ⟨rfl, NO.out⟩, rfl⟩
/-- far places -/
def far (x : Int × Int) : Bool := decide (x.1 < -10000) || decide (10000 < x.1) || decide (x.2 < -10000) || decide (10000 < x.2)
theorem far_no {x : Int × Int} (h : far x = false) : (-10000 ≤ x.1 ∧ x.1 ≤ 10000) ∧ (-10000 ≤ x.2 ∧ x.2 ≤ 10000) := by
  unfold far at h; simp at h; omega
set_option maxRecDepth 100000 in
set_option maxHeartbeats 3200000 in
theorem large_any (oa : Option Addr) (n c : Nat) (f : Nat → Int × Int) (w : World) (hA : QAt w oa n f) (hm : n ≤ maxLen) :
    Calls Try.prog 15 #[.slice oa n c] w fun r w' => (r = .returned (.bool true) ∨ (r = .returned (.bool false) ∧ n ≤ 500 ∧ Bd n f)) ∧ Below w.heap.size w w' := by
  unfold maxLen at hm
  by_cases hb : 500 < n
  · have d1 : decide ((500 : Int) < (n : Int)) = true := by simp; omega
    have d2 : decide (500 < n) = true := by simp; omega
    clear hA
    go_enter Try.func15, Try.ntmps15
    go_wp2_with fail
    go_ret
    exact ⟨.inl rfl, Below.refl _ _⟩
  · have d1 : decide ((500 : Int) < (n : Int)) = false := by simp; omega
    have d2 : decide (500 < n) = false := by simp; omega
    have HA := hide hA
    clear hA
    go_enter Try.func15, Try.ntmps15
    go_wp2_with fail
    go_loopw [10] (fun i wr => ∃ k : Nat, k ≤ n ∧ i = .int .i64 (k : Int) ∧ Bd k f ∧ Below w.heap.size w wr) (fun i _ => n - (intOf i).toNat)
    case atStart => exact ⟨0, Nat.zero_le _, rfl, fun a hb => absurd hb (Nat.not_lt_zero _), Below.refl _ _⟩
    case round =>
      obtain ⟨k, hk, rfl, hbd, bl⟩ := hrel
      have BD := hide hbd
      have BL := hide bl
      clear hbd bl
      by_cases hlt : k < n
      · have hlt' : (k : Int) < (n : Int) := by omega
        obtain ⟨b, o, rfl, c1, c2⟩ := HA.out.below BL.out k hlt
        have FA := far_no (x := f k)
        unfold far at FA
        have SU : Hid (((-10000 ≤ (f k).1 ∧ (f k).1 ≤ 10000) ∧ (-10000 ≤ (f k).2 ∧ (f k).2 ≤ 10000)) → Bd (k + 1) f) := fun h j hj => by
          by_cases e : j = k
          · subst e; exact h
          · exact BD.out j (by omega)
        generalize (f k).1 = X at *
        generalize (f k).2 = Y at *
        have B2 := hide (btr BL.out (below_alloc wr (.cells #[.int .i64 X, .int .i64 Y] 33)))
        cases e1 : decide (X < -10000)
        · cases e2 : decide (10000 < X)
          · cases e3 : decide (Y < -10000)
            · cases e4 : decide (10000 < Y)
              · have FIN := hide (SU.out (FA (by rw [e1, e2, e3, e4]; rfl)))
                clear FA SU
                go_wp2_with fail
                go_roundw
                case rel => exact ⟨k + 1, by omega, by go_num, FIN.out, B2.out⟩
                case measure => simp [intOf]; omega
              · clear FA SU
                go_wp2_with fail
                go_ret
                exact ⟨.inl rfl, B2.out⟩
            · clear FA SU
              go_wp2_with fail
              go_ret
              exact ⟨.inl rfl, B2.out⟩
          · clear FA SU
            go_wp2_with fail
            go_ret
            exact ⟨.inl rfl, B2.out⟩
        · clear FA SU
          go_wp2_with fail
          go_ret
          exact ⟨.inl rfl, B2.out⟩
      · have hlt' : ¬ ((k : Int) < (n : Int)) := by omega
        obtain rfl : k = n := by omega
        go_wp2_with fail
        go_ret
        exact ⟨.inr ⟨rfl, by omega, BD.out⟩, BL.out⟩
set_option maxRecDepth 100000 in
set_option maxHeartbeats 3200000 in
theorem places_any (oa : Option Addr) (n c : Nat) (f : Nat → Int × Int) (w : World) (hA : QAt w oa n f) (hn : n ≤ 500) (hb : Bd n f) :
    Calls Try.prog 16 #[.slice oa n c] w fun r w' => ∃ oa c, r = .returned (.slice oa n c) ∧ n ≤ c ∧ ZAt w' oa n f ∧ Below w.heap.size w w' := by
  obtain ⟨i0, hi, hz0, hz1, hz2⟩ := info_parts info_cx
  have INF := hide (And.intro hi (And.intro hz0 (And.intro hz1 hz2)))
  clear hi hz0 hz1 hz2
  have HA := hide hA
  have HB := hide hb
  clear hA hb
  go_enter Try.func16, Try.ntmps16
  go_wp2_with fail
  go_loopw [3, 8] (fun rv i wr => ∃ (v : Value) (k : Nat), k ≤ n ∧ i = .int .i64 (k : Int) ∧ rv = v ∧ ZR wr w.heap.size v k f ∧ Below w.heap.size w wr) (fun _ i _ => n - (intOf i).toNat)
  case atStart => exact ⟨_, 0, Nat.zero_le _, rfl, rfl, ZR.nil _ _ _, Below.refl _ _⟩
  case round =>
    obtain ⟨v, k, hk, rfl, rfl, zr, bl⟩ := hrel
    have BL := hide bl
    clear bl
    by_cases hlt : k < n
    · have hlt' : (k : Int) < (n : Int) := by omega
      obtain ⟨b, o, rfl, c1, c2⟩ := HA.out.below BL.out k hlt
      have BD := HB.out k hlt
      have H1 := hide (Hi.ofInt (n := (f k).1) (by omega))
      have H2 := hide (Hi.ofInt (n := (f k).2) (by omega))
      obtain ⟨X, hX⟩ : ∃ X, (f k).1 = X := ⟨_, rfl⟩
      obtain ⟨Y, hY⟩ : ∃ Y, (f k).2 = Y := ⟨_, rfl⟩
      have HX := hide hX
      have HY := hide hY
      rw [hX] at c1 H1
      rw [hY] at c2 H2
      clear hX hY BD
      obtain ⟨ws, wl, ow, wh⟩ := zr
      obtain ⟨va, vc, rfl⟩ := own_sl ow
      have WH := hide wh
      have WL := hide wl
      have OW := hide (own_below ow (below_alloc wr (.cells #[.int .i64 X, .int .i64 Y] 33)))
      have BL1 := hide (btr BL.out (below_alloc wr (.cells #[.int .i64 X, .int .i64 Y] 33)))
      have PC := hide (heap_new wr (.cells #[.int .i64 X, .int .i64 Y] 33))
      clear ow wh wl BL
      go_upto_region 5 with fail
      generalize wr.alloc (.cells #[.int .i64 X, .int .i64 Y] 33) = W1 at *
      have y0 : W1.cell? ⟨wr.heap.size, 0, none⟩ = some (.int .i64 X) := cell_of PC.out 0
      have y1 : W1.cell? ⟨wr.heap.size, 1, none⟩ = some (.int .i64 Y) := cell_of PC.out 1
      have OW2 := hide (own_below OW.out (below_alloc W1 (.cells #[.complex .f64 (floatOfInt .f64 X) (floatOfInt .f64 Y)] 28)))
      have BL2 := hide (btr BL1.out (below_alloc W1 (.cells #[.complex .f64 (floatOfInt .f64 X) (floatOfInt .f64 Y)] 28)))
      have SRC := hide (cell_one_new W1 (.complex .f64 (floatOfInt .f64 X) (floatOfInt .f64 Y)) 28)
      clear OW BL1
      go_wp2_with (at_builtin; refine wpList_append_own _ rfl _ _ 24 rfl w.heap.size 28 i0 (.complex .f64 0 0) 1 16 Try.underlying24 INF.out.1 INF.out.2.1 INF.out.2.2.1 INF.out.2.2.2 rfl (by decide) _ _ _ rfl OW2.out ⟨W1.heap.size, 0, none⟩ 1 1 [.complex .f64 (floatOfInt .f64 X) (floatOfInt .f64 Y)] rfl rfl ?c1 ?c2 ?c3 ?c4 ?c5 ?_)
      case c1 => exact SRC.out
      case c2 => exact cv_one [(floatOfInt .f64 X, floatOfInt .f64 Y)]
      case c3 => unfold maxLen; omega
      case c4 => omega
      case c5 => exact BL2.out.size
      intro v' w3 ho hg3 _
      have B3 : Hid (Below w.heap.size w w3) := BL2.out.grown hg3 BL2.out.size (fun x hx => (OW2.out.lt x hx).1)
      have Z3 : Hid (ZR w3 w.heap.size v' (k + 1) f) := ZR.mk (f := f) WL.out WH.out ho (fun _ _ => rfl) (by rw [HX.out]; exact H1.out) (by rw [HY.out]; exact H2.out)
      clear ho hg3
      go_wp2_with fail
      go_roundw
      case rel =>
        first
          | exact ⟨v', k + 1, by omega, by go_num, rfl, Z3.out, B3.out⟩
          | ((repeat apply Exists.intro); exact ⟨⟨v', k + 1, by omega, by go_num, rfl, Z3.out, B3.out⟩, rfl⟩)
      case measure => simp [intOf]; omega
    · have hlt' : ¬ ((k : Int) < (n : Int)) := by omega
      obtain rfl : k = n := by omega
      obtain ⟨va, vc, rfl, hc, za⟩ := zr.at
      have ZA := hide za
      clear zr za
      go_wp2_with fail
      go_ret
      exact ⟨_, _, rfl, hc, ZA.out, BL.out⟩
set_option maxRecDepth 100000 in
set_option maxHeartbeats 3200000 in
theorem double_any (oa : Option Addr) (n c : Nat) (f : Nat → Int × Int) (w : World) (hA : QAt w oa n f) (hn : n ≤ 500) (hb : Bd n f) :
    Calls Try.prog 20 #[.slice oa n c] w fun r w' => r = .returned (.int .i64 (sm (cr n f) n)) ∧ Below w.heap.size w w' := by
  have HA := hide hA
  have HB := hide hb
  clear hA hb
  go_enter Try.func20, Try.ntmps20
  go_wp2_with fail
  go_loopw [3, 9] (fun s i wr => ∃ k : Nat, k ≤ n ∧ i = .int .i64 (k : Int) ∧ s = .int .i64 (sm (cr n f) k) ∧ Below w.heap.size w wr) (fun _ i _ => n - (intOf i).toNat)
  case atStart => exact ⟨0, Nat.zero_le _, rfl, rfl, Below.refl _ _⟩
  case round =>
    obtain ⟨k, hk, rfl, rfl, bl⟩ := hrel
    have BL := hide bl
    clear bl
    by_cases hlt : k < n
    · have hlt' : (k : Int) < (n : Int) := by omega
      have mn := mod_next k n
      have hm : (k + 1) % n < n := Nat.mod_lt _ (by omega)
      have CR : Hid (sm (cr n f) (k + 1) = sm (cr n f) k + ((f k).1 * (f ((k + 1) % n)).2 - (f k).2 * (f ((k + 1) % n)).1)) := rfl
      have SB := sm_bd HB.out k hk
      have CB := mulb (HB.out k hlt).1 (HB.out _ hm).2
      have CC := mulb (HB.out k hlt).2 (HB.out _ hm).1
      obtain ⟨m, hme⟩ : ∃ m, (k + 1) % n = m := ⟨_, rfl⟩
      rw [hme] at mn hm CR CB CC
      have hm' : (m : Int) < (n : Int) := by omega
      have wm : IntKind.i64.wrap (m : Int) = (m : Int) := wrap_id (by omega) (by omega)
      clear hme
      obtain ⟨b, o, rfl, c1, c2⟩ := HA.out.below BL.out k hlt
      obtain ⟨b2, o2, e, c3, c4⟩ := HA.out.below BL.out m hm
      cases e
      generalize (f k).1 = X at *
      generalize (f k).2 = Y at *
      generalize (f m).1 = X2 at *
      generalize (f m).2 = Y2 at *
      generalize hS : sm (cr n f) k = S at *
      obtain ⟨P, hP⟩ : ∃ P, X * Y2 = P := ⟨_, rfl⟩
      obtain ⟨P2, hP2⟩ : ∃ P, Y * X2 = P := ⟨_, rfl⟩
      rw [hP] at CB CR
      rw [hP2] at CC CR
      have w1 : IntKind.i64.wrap P = P := wrap_id (by omega) (by omega)
      have w2 : IntKind.i64.wrap P2 = P2 := wrap_id (by omega) (by omega)
      have w3 : IntKind.i64.wrap (S + P) = S + P := wrap_id (by omega) (by omega)
      have w4 : IntKind.i64.wrap (S + P - P2) = S + P - P2 := wrap_id (by omega) (by omega)
      have FIN : Hid (sm (cr n f) (k + 1) = S + P - P2) := by show _ = _; rw [CR.out]; omega
      have B3 := hide (btr BL.out (btr (below_alloc wr (.cells #[.int .i64 X, .int .i64 Y] 33)) (below_alloc _ (.cells #[.int .i64 X2, .int .i64 Y2] 33))))
      have k3 : (wr.alloc (.cells #[.int .i64 X, .int .i64 Y] 33)).cell? ⟨b, o + m * 2, none⟩ = some (.int .i64 X2) := cellB c3 (below_alloc _ _)
      have k4 : (wr.alloc (.cells #[.int .i64 X, .int .i64 Y] 33)).cell? ⟨b, o + m * 2 + 1, none⟩ = some (.int .i64 Y2) := cellB c4 (below_alloc _ _)
      clear CR CB CC
      go_wp2_with fail
      go_roundw
      case rel => exact ⟨k + 1, by omega, by go_num, by rw [FIN.out], B3.out⟩
      case measure => simp [intOf]; omega
    · have hlt' : ¬ ((k : Int) < (n : Int)) := by omega
      obtain rfl : k = n := by omega
      go_wp2_with fail
      go_ret
      exact ⟨rfl, BL.out⟩
end Fw
end Go.Proofs.Ytgmkknaagbjcmaa
