/- Layer 27 (walk), over this seat's program: End; the laws' own whole(), two(). -/
import Derived.Test.YtgmkknaagbjcmaaFw3
namespace Go.Proofs.Ytgmkknaagbjcmaa
open Go.ChangeShapes Go.WideShapes Go.ChangeAt Go.RowKit
namespace Fw
open Ba Fl

/-- what End hands back -/
def EnR (w : World) (l : List Ev) (r : Ending) (w' : World) : Prop := ∃ a b, r = .returned (.tuple #[.complex .f64 a b, .complex .f64 (tw (stI l).2.2).1 (tw (stI l).2.2).2, .int .i64 0]) ∧ Hi a (stI l).1 ∧ Hi b (stI l).2.1 ∧ Below w.heap.size w w'
theorem end_long (oa : Option Addr) (n c : Nat) (w : World) (hn : 2000 < n) (hm : n ≤ maxLen) :
    Calls Try.prog 10 #[.slice oa n c] w fun r w' => r = .returned (.tuple #[.complex .f64 0 0, .complex .f64 0 0, .int .i64 2]) ∧ w' = w := by
  unfold maxLen at hm
  have d1 : decide ((2000 : Int) < (n : Int)) = true := by simp; omega
  have d2 : decide (2000 < n) = true := by simp; omega
  go_enter Try.func10, Try.ntmps10
  go_wp2_with fail
  go_ret3
  exact ⟨rfl, rfl⟩
set_option maxRecDepth 100000 in
set_option maxHeartbeats 3200000 in
theorem end_any (oa : Option Addr) (l : List Ev) (c : Nat) (w : World) (hA : EsAt w oa l) (hl : l.length ≤ 2000) :
    Calls Try.prog 10 #[.slice oa l.length c] w fun r w' => EnR w l r w' := by
  have HA := hide hA
  clear hA
  obtain ⟨N, hN⟩ : ∃ N, l.length = N := ⟨_, rfl⟩
  have HN := hide hN
  have d1 : decide ((2000 : Int) < (N : Int)) = false := by simp; omega
  have d2 : decide (2000 < N) = false := by simp; omega
  have TK : Hid (l.take N = l) := by show l.take N = l; rw [← hN]; exact List.take_length
  rw [hN] at hl ⊢
  clear hN
  have p0 : Hid (WA (w.alloc (.cells #[.complex .f64 0 0, .int .i64 0] 56)) w.heap.size 0 0 0) := heap_new _ _
  have B0 := hide (below_alloc w (.cells #[.complex .f64 0 0, .int .i64 0] 56))
  go_enter Try.func10, Try.ntmps10
  go_wp2_with fail
  go_loopw [13] (fun i wr => ∃ (k a b : Nat), k ≤ N ∧ i = .int .i64 (k : Int) ∧ WA wr w.heap.size a b (stI (l.take k)).2.2 ∧ Hi a (stI (l.take k)).1 ∧ Hi b (stI (l.take k)).2.1 ∧ Below w.heap.size w wr) (fun i _ => N - (intOf i).toNat)
  case atStart => exact ⟨0, 0, 0, Nat.zero_le _, rfl, p0.out, Hi.zero, Hi.zero, B0.out⟩
  case round =>
    obtain ⟨k, a, b, hk, rfl, wa, ha, hb, bl⟩ := hrel
    clear p0 B0
    have BL := hide bl
    clear bl
    by_cases hlt : k < N
    · have hlt' : (k : Int) < (N : Int) := by omega
      obtain ⟨x, hx⟩ : ∃ x, l[k]? = some x := ⟨_, List.getElem?_eq_getElem (by rw [HN.out]; omega)⟩
      obtain ⟨b1, o1, rfl, -⟩ := HA.out k x hx
      obtain ⟨q0, q1, q2, q3, q4, q5, q6, q7⟩ := (HA.out.below BL.out).read hx
      have ST := hide (stI_take hx)
      have BD := hide (st_bd l k (by rw [HN.out]; omega))
      clear hx
      obtain ⟨X, hX⟩ : ∃ X, stI (l.take k) = X := ⟨_, rfl⟩
      rw [hX] at ST BD ha hb wa
      clear hX
      obtain ⟨X1, X2, X3⟩ := X
      simp only at ST BD ha hb wa
      have FO := hide (follow_any w.heap.size a b X1 X2 X3 x _ (keepW wa (below_alloc wr (.cells #[.int .i64 x.k, .int .i64 x.g, .int .i64 x.c, .int .i64 x.a, .int .i64 x.v, .int .i64 x.m, .bool x.s, .bool x.o] 54))) ha hb BD.out.2.2 (by have := BD.out.1; omega) (by have := BD.out.2.1; omega))
      unfold evv evc at FO
      have BL1 := hide (btr BL.out (below_alloc wr (.cells #[.int .i64 x.k, .int .i64 x.g, .int .i64 x.c, .int .i64 x.a, .int .i64 x.v, .int .i64 x.m, .bool x.s, .bool x.o] 54)))
      clear wa BL
      go_wp2_with fail
      generalize wr.alloc (.cells #[.int .i64 x.k, .int .i64 x.g, .int .i64 x.c, .int .i64 x.a, .int .i64 x.v, .int .i64 x.m, .bool x.s, .bool x.o] 54) = W1 at *
      refine FO.out.mono ?_
      rintro r w2 ⟨rfl, a', b', y1, y2, y3, y4⟩
      have Y1 := hide y1
      have Y2 := hide y2
      have Y3 := hide y3
      have BL2 := hide (KB.below BL1.out y4 (Nat.le_refl _))
      clear y1 y2 y3 y4 FO
      go_wp2_with fail
      go_roundw
      case rel => exact ⟨k + 1, a', b', by omega, by go_num, by rw [ST.out]; exact Y1.out, by rw [ST.out]; exact Y2.out, by rw [ST.out]; exact Y3.out, BL2.out⟩
      case measure => simp [intOf]; omega
    · have hlt' : ¬ ((k : Int) < (N : Int)) := by omega
      obtain rfl : k = N := by omega
      have BD := hide (st_bd l k (by rw [HN.out]; omega))
      rw [TK.out] at ha hb wa BD
      have HAA := hide ha
      have HBB := hide hb
      have DI := hide (fun q => dir_any w.heap.size a b (stI l).2.2 _ (keepW wa (bdrew wr q)))
      rw [show (stI l).2.2 % 4 = (stI l).2.2 from by have := BD.out.2.2; omega] at DI
      have c0 : wr.cell? ⟨w.heap.size, 0, none⟩ = some (.complex .f64 a b) := cell_of wa 0
      have FIN : Hid (∀ q, EnR w l (.returned (.tuple #[.complex .f64 a b, .complex .f64 (tw (stI l).2.2).1 (tw (stI l).2.2).2, .int .i64 0])) (wr.drewN q)) := fun q => ⟨a, b, rfl, ha, hb, btr BL.out (bdrew _ _)⟩
      clear wa ha hb
      generalize (tw (stI l).2.2).1 = t1 at *
      generalize (tw (stI l).2.2).2 = t2 at *
      go_wp2_with fail
      go_quiet ((go_at_call 22; exact Calls.quiet_of_same (DI.out _)))
      go_wp2_with fail
      go_ret3
      exact FIN.out _
/-- a place on whole numbers -/
theorem whole_any (a b : Nat) (x y X Y : Int) (w : World) (ha : Hi a x) (hb : Hi b y) (hX : X.natAbs ≤ 1000000000000) (hY : Y.natAbs ≤ 1000000000000) :
    Calls Try.prog 12 #[.complex .f64 a b, .agg #[.int .i64 X, .int .i64 Y]] w fun r w' => r = .returned (.bool (decide (x = X) && decide (y = Y))) ∧ Below w.heap.size w w' := by
  have e1 := ha.eq (Hi.ofInt hX)
  have e2 := hb.eq (Hi.ofInt hY)
  have B1 := hide (below_alloc w (.cells #[.int .i64 X, .int .i64 Y] 33))
  clear ha hb hX hY
  cases h1 : decide (x = X)
  · rw [h1] at e1
    clear h1
    go_enter Try.func12, Try.ntmps12
    go_wp2_with fail
    go_ret
    exact ⟨rfl, B1.out⟩
  · rw [h1] at e1
    clear h1
    cases h2 : decide (y = Y)
    · rw [h2] at e2
      clear h2
      go_enter Try.func12, Try.ntmps12
      go_wp2_with fail
      go_ret
      exact ⟨rfl, B1.out⟩
    · rw [h2] at e2
      clear h2
      go_enter Try.func12, Try.ntmps12
      go_wp2_with fail
      go_ret
      exact ⟨rfl, B1.out⟩
def l2 : List Ev := [⟨1, 0, 0, 0, 0, 0, false, false⟩, ⟨9, 1, 0, 0, 0, 0, false, false⟩]
theorem l2_at (w : World) : EsAt (w.alloc (.cells #[.int .i64 1, .int .i64 0, .int .i64 0, .int .i64 0, .int .i64 0, .int .i64 0, .bool false, .bool false, .int .i64 9, .int .i64 1, .int .i64 0, .int .i64 0, .int .i64 0, .int .i64 0, .bool false, .bool false] 54)) (some ⟨w.heap.size, 0, none⟩) l2 := by
  intro k e hk
  refine ⟨w.heap.size, 0, rfl, fun j hj => ?_⟩
  rw [cell_of (heap_new _ _)]
  match k, hk with
  | 0, hk =>
    cases hk
    match j, hj with
    | 0, _ | 1, _ | 2, _ | 3, _ | 4, _ | 5, _ | 6, _ | 7, _ => rfl
  | 1, hk =>
    cases hk
    match j, hj with
    | 0, _ | 1, _ | 2, _ | 3, _ | 4, _ | 5, _ | 6, _ | 7, _ => rfl
  | k + 2, hk => simp [l2] at hk
theorem l2_1 : pl l2 1 = (0, 1) := by decide +kernel
theorem l2_2 : pl l2 2 = (-2, 1) := by decide +kernel
set_option maxRecDepth 100000 in
set_option maxHeartbeats 1600000 in
theorem two_any (w : World) : Calls Try.prog 8 #[] w fun r w' => r = .returned (.bool true) ∧ Below w.heap.size w w' := by
  have PA := hide (fun u c => path_any (some ⟨u.heap.size, 0, none⟩) l2 c _ (l2_at u) (by decide))
  have hl : l2.length = 2 := rfl
  rw [hl] at PA
  have TU := hide (fun u => turn_any 2 u)
  rw [show tw (2 % 4) = (13830554455654793216, 0) from rfl] at TU
  have o1 : (FloatKind.f64.format.order 13830554455654793216 13830554455654793216 == some .eq) = true := Hi.mone.eq Hi.mone
  have o2 : (FloatKind.f64.format.order 0 0 == some .eq) = true := Hi.zero.eq Hi.zero
  have B0 := hide (below_alloc w (.cells #[.int .i64 1, .int .i64 0, .int .i64 0, .int .i64 0, .int .i64 0, .int .i64 0, .bool false, .bool false, .int .i64 9, .int .i64 1, .int .i64 0, .int .i64 0, .int .i64 0, .int .i64 0, .bool false, .bool false] 54))
  clear hl
  go_enter Try.func8, Try.ntmps8
  go_wp2_with fail
  refine (PA.out w 2).mono ?_
  rintro r w1 ⟨oa, c, rfl, -, za, b1⟩
  have B1 := hide (btr B0.out b1)
  obtain ⟨b, off, p, q, rfl, c1, h1, h2⟩ := za 1 (by decide)
  obtain ⟨b', off', p', q', e, c2, h3, h4⟩ := za 2 (by decide)
  cases e
  rw [l2_1] at h1 h2
  rw [l2_2] at h3 h4
  have o3 : (FloatKind.f64.format.order p 0 == some .eq) = true := h1.eq Hi.zero
  have o4 : (FloatKind.f64.format.order q 4607182418800017408 == some .eq) = true := h2.eq Hi.one
  have o5 : (FloatKind.f64.format.order p' 13835058055282163712 == some .eq) = true := h3.eq Hi.mtwo
  have o6 : (FloatKind.f64.format.order q' 4607182418800017408 == some .eq) = true := h4.eq Hi.one
  clear za b1 h1 h2 h3 h4 PA
  go_wp2_with fail
  refine (TU.out _).mono ?_
  rintro r w2 ⟨rfl, rfl⟩
  go_wp2_with fail
  go_ret
  exact ⟨rfl, B1.out⟩
end Fw
end Go.Proofs.Ytgmkknaagbjcmaa
