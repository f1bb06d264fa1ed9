/- What is retired is known to all up to its cut, and to none behind it, for every clock and cut. -/
import Derived.Test.YtnbheejahenejaaAl
import Derived.Test.YtnbheejahenejaaBo
import Derived.ShutString
import Derived.ChangeOld
import Derived.Below
namespace Go.Proofs.Ytnbheejahenejaa.cellCut
open Go.ChangeShapes Go.WideShapes Go.ChangeAt Go.RowKit
open Go.ChangeMaps (open_string shut_string)
open Ce Ck
open Ep (ownB tidOf clkOf)
open Ba (hide)

theorem own : ownKnob Try.prog.godebug = none := by kernel_rfl
theorem laidOut : laidOutB Try.prog = true := by kernel_rfl

set_option maxRecDepth 100000 in
set_option maxHeartbeats 3200000 in
theorem bad {w : World} (n cut : Int) (p q : Bool) (hn : n < 1 ∨ 1048576 < n) :
    Calls Try.prog 5 #[.int .i64 n, .int .i64 cut, .agg #[.bool p, .bool q]] w fun r w' => r = .returned (.bool true) ∧ Below w.heap.size w w' := by
  have PN := hide (fun u => Ep.pack_no 2 n (.inr (.inr hn)) u)
  clear hn
  go_enter Try.func5, Try.ntmps5
  go_wp2_with fail
  refine (new_any _).mono ?_
  rintro r w1 ⟨rfl, -, b1⟩
  have B1 := hide (btr (Ba.below_alloc w (.cells #[.bool p, .bool q] 60)) b1)
  clear b1
  go_wp2_with fail
  refine (PN.out _).mono ?_
  rintro r w0 ⟨rfl, e0⟩
  obtain rfl := e0.symm
  go_wp2_with fail
  refine (of_y _ [0, 5] 2 2 rfl (w1.alloc (.cells #[.int .i64 0, .int .i64 5] 3)) (At.new w1 [0, 5] 3) (by decide) (by decide) (by decide) (by intro k hk; match k, hk with | 0, _ => rfl | 1, _ => rfl)).mono ?_
  rintro r w2 ⟨sb, rfl, b2, -⟩
  have B2 := hide (btr (btr B1.out (Ba.below_alloc w1 (.cells #[.int .i64 0, .int .i64 5] 3))) b2)
  clear b2
  go_wp2_with fail
  refine (Ep.pack_ok 1 5 (by decide) (by decide) (by decide) (by decide) _).mono ?_
  rintro r w0 ⟨rfl, e0⟩
  obtain rfl := e0.symm
  go_wp2_with fail
  refine (races_any _).mono ?_
  rintro r w3 ⟨rfl, b3⟩
  have B3 := hide (btr B2.out b3)
  clear b3
  go_wp2_with fail
  go_ret
  exact ⟨rfl, B3.out⟩
set_option maxRecDepth 100000 in
set_option maxHeartbeats 6400000 in
theorem good {w : World} (n cut : Int) (p q : Bool) (hn : 1 ≤ n) (hn2 : n ≤ 1048576) :
    Calls Try.prog 5 #[.int .i64 n, .int .i64 cut, .agg #[.bool p, .bool q]] w fun r w' => r = .returned (.bool true) ∧ Below w.heap.size w w' := by
  have PN := hide (fun u => Ep.pack_ok 2 n (by decide) (by decide) hn hn2 u)
  obtain ⟨po, pt, pc⟩ := pk_own (t := 2) (c := n) (by decide) (by decide) hn hn2
  obtain ⟨E, hE⟩ : ∃ E : Int, ((2 : Int) + 1) * 4294967296 + n = E := ⟨_, rfl⟩
  rw [hE] at PN po pt pc
  have PO := hide po
  have PT := hide pt
  have PC := hide pc
  clear hE po pt pc hn hn2
  go_enter Try.func5, Try.ntmps5
  go_wp2_with fail
  refine (new_any _).mono ?_
  rintro r w1 ⟨rfl, c1, b1⟩
  have hb0 : (w.alloc (.cells #[.bool p, .bool q] 60)).heap[w.heap.size]? = some (.cells #[.bool p, .bool q] 60 (0, 0)) := heap_new _ _
  have C1 := hide c1
  have B1 := hide b1
  clear c1 b1
  go_wp2_with fail
  refine (PN.out _).mono ?_
  rintro r w0 ⟨rfl, e0⟩
  obtain rfl := e0.symm
  go_wp2_with fail
  refine (of_y _ [0, 5] 2 2 rfl (w1.alloc (.cells #[.int .i64 0, .int .i64 5] 3)) (At.new w1 [0, 5] 3) (by decide) (by decide) (by decide) (by intro k hk; match k, hk with | 0, _ => rfl | 1, _ => rfl)).mono ?_
  rintro r w2 ⟨sb, rfl, b2, n2⟩
  obtain ⟨Y, cy, sy, sub⟩ : ∃ Y : Nat → Prop, CW Y (w.heap.size + 1) w2 ⟨0, [], false⟩ ∧ CL Y w2 sb (trm [0, 5]) ∧ ∀ k, Lw (w.alloc (.cells #[.bool p, .bool q] 60)) k → Y k := by
    rw [World.size_alloc] at C1
    exact ⟨_, (C1.out.new (Ba.below_alloc w1 (.cells #[.int .i64 0, .int .i64 5] 3))).new b2, n2 _, fun k hk => .inl (.inl hk)⟩
  have k2 : KY (Lw (w.alloc (.cells #[.bool p, .bool q] 60))) (w.alloc (.cells #[.bool p, .bool q] 60)) w2 := KY.of (btr (btr B1.out (Ba.below_alloc w1 (.cells #[.int .i64 0, .int .i64 5] 3))) b2) fun _ h => h
  have hbk : ∀ W, KY (Lw (w.alloc (.cells #[.bool p, .bool q] 60))) (w.alloc (.cells #[.bool p, .bool q] 60)) W → W.cell? ⟨w.heap.size, 0, none⟩ = some (.bool p) ∧ W.cell? ⟨w.heap.size, 1, none⟩ = some (.bool q) ∧ ∀ V, Below W.heap.size W V → Below w.heap.size w V := by
    intro W k
    have e := (k.block w.heap.size (by show w.heap.size < _; rw [World.size_alloc]; omega)).trans hb0
    exact ⟨by rw [cell_of e]; rfl, by rw [cell_of e]; rfl, fun V bv => btr (btr (Ba.below_alloc w _) (KY.lw k)) bv⟩
  have HB := hide hbk
  have C2 := hide cy
  have S2 := hide sy
  have SUB := hide sub
  have K2 := hide k2
  clear cy sy sub k2 hbk hb0 b2 n2 C1 B1
  generalize Lw (w.alloc (.cells #[.bool p, .bool q] 60)) = Y0 at *
  generalize w.alloc (.cells #[.bool p, .bool q] 60) = wa at *
  obtain ⟨A, hA⟩ : ∃ A, w.heap.size = A := ⟨_, rfl⟩
  have HA := hide hA
  simp only [hA] at C2 HB ⊢
  clear hA
  obtain ⟨z0, z1, -⟩ := HB.out w2 K2.out
  go_wp2_with fail
  refine (Ep.pack_ok 1 5 (by decide) (by decide) (by decide) (by decide) _).mono ?_
  rintro r w0 ⟨rfl, e0⟩
  obtain rfl := e0.symm
  clear PN
  cases p <;> cases q
  · go_wp2_with fail
    refine (cnew_any _).mono ?_
    rintro r w3 ⟨nb, rfl, b3, n3⟩
    have C3 := hide (C2.out.new b3)
    have N3 := hide (n3 Y)
    have S3 := hide ((S2.out.keep (KY.of b3 C2.out.yl)).mono fun k hk => Yp.sub (w := w2) (w' := w3) hk)
    have K3 := hide (K2.out.trans ((KY.of b3 C2.out.yl).mono SUB.out))
    have SUB3 : Hid (∀ k, Y0 k → Yp Y w2 w3 k) := fun k hk => .inl (SUB.out k hk)
    clear C2 S2 K2 b3 n3 z0 z1 SUB
    generalize Yp Y w2 w3 = Y3 at *
    go_wp2_with fail
    refine (read_ok C3.out E PO.out nb [] N3.out).mono ?_
    rintro r w4 ⟨rfl, c4, k4⟩
    rw [rd_first] at c4
    have C4 := hide c4
    have S4 := hide (S3.out.keep k4)
    have K4 := hide (K3.out.trans (k4.mono SUB3.out))
    clear c4 k4 C3 N3 S3 K3
    by_cases hcut : cut < 0 ∨ 1048576 < cut
    · have RT := hide (fun u => retire_arg (some ⟨A + 1, 0, none⟩) 2 cut (.inr (.inr hcut)) u)
      by_cases hc0 : cut < 0
      · clear hcut
        go_wp2_with fail
        refine (RT.out _).mono ?_
        rintro r w0 ⟨rfl, e0⟩
        obtain rfl := e0.symm
        go_wp2_with fail
        refine (races_any _).mono ?_
        rintro r w5 ⟨rfl, b5⟩
        have B5 := hide ((HB.out w4 K4.out).2.2 _ b5)
        clear b5
        go_wp2_with fail
        go_ret
        exact ⟨rfl, by rw [HA.out]; exact B5.out⟩
      · have hc1 : 1048576 < cut := by omega
        clear hcut
        go_wp2_with fail
        refine (RT.out _).mono ?_
        rintro r w0 ⟨rfl, e0⟩
        obtain rfl := e0.symm
        go_wp2_with fail
        refine (races_any _).mono ?_
        rintro r w5 ⟨rfl, b5⟩
        have B5 := hide ((HB.out w4 K4.out).2.2 _ b5)
        clear b5
        go_wp2_with fail
        go_ret
        exact ⟨rfl, by rw [HA.out]; exact B5.out⟩
    · have RT := hide (retire_ok C4.out 2 cut (by decide) (by decide) (by omega) (by omega))
      unfold RetR at RT
      clear hcut
      go_wp2_with fail
      refine RT.out.mono ?_
      rintro r w5 ⟨rfl, c5, k5⟩
      rw [ret_r PO.out PT.out, PC.out] at c5
      have S5 := hide (S4.out.keep k5)
      have K5 := hide (K4.out.trans (k5.mono SUB3.out))
      obtain ⟨z0, z1, -⟩ := HB.out w5 K5.out
      by_cases hnc : n ≤ cut
      · rw [decide_eq_true hnc] at c5
        have C5 : Hid (CW Y3 (A + 1) w5 ⟨0, [], false⟩) := c5
        have f1 : decide (cut < n) = false := by simp; omega
        have Q1 : Hid (rdR ⟨0, [], false⟩ 8589934597 (trm [0, 5]) = 0) := by show _ = _; decide
        clear c5 k5 C4 S4 K4 RT hnc
        go_wp2_with fail
        refine (read_ok C5.out 8589934597 (by decide) sb (trm [0, 5]) S5.out).mono ?_
        rintro r w6 ⟨rfl, c6, k6⟩
        rw [Q1.out]
        have K6 := hide (K5.out.trans (k6.mono SUB3.out))
        obtain ⟨y0, y1, -⟩ := HB.out w6 K6.out
        clear c6 k6 C5 S5 K5 z0 z1 Q1
        go_wp2_with fail
        refine (races_any _).mono ?_
        rintro r w7 ⟨rfl, b7⟩
        have B7 := hide ((HB.out w6 K6.out).2.2 _ b7)
        clear b7
        go_wp2_with fail
        go_ret
        exact ⟨rfl, by rw [HA.out]; exact B7.out⟩
      · rw [decide_eq_false hnc] at c5
        have C5 : Hid (CW Y3 (A + 1) w5 ⟨0, [], true⟩) := c5
        have f1 : decide (cut < n) = true := by simp; omega
        have Q1 : Hid (rdR ⟨0, [], true⟩ 8589934597 (trm [0, 5]) = 0) := by show _ = _; decide
        clear c5 k5 C4 S4 K4 RT hnc
        go_wp2_with fail
        refine (read_ok C5.out 8589934597 (by decide) sb (trm [0, 5]) S5.out).mono ?_
        rintro r w6 ⟨rfl, c6, k6⟩
        rw [Q1.out]
        have K6 := hide (K5.out.trans (k6.mono SUB3.out))
        obtain ⟨y0, y1, -⟩ := HB.out w6 K6.out
        clear c6 k6 C5 S5 K5 z0 z1 Q1
        go_wp2_with fail
        refine (races_any _).mono ?_
        rintro r w7 ⟨rfl, b7⟩
        have B7 := hide ((HB.out w6 K6.out).2.2 _ b7)
        clear b7
        go_wp2_with fail
        go_ret
        exact ⟨rfl, by rw [HA.out]; exact B7.out⟩
  · go_wp2_with fail
    refine (cnew_any _).mono ?_
    rintro r w3 ⟨nb, rfl, b3, n3⟩
    have C3 := hide (C2.out.new b3)
    have N3 := hide (n3 Y)
    have S3 := hide ((S2.out.keep (KY.of b3 C2.out.yl)).mono fun k hk => Yp.sub (w := w2) (w' := w3) hk)
    have K3 := hide (K2.out.trans ((KY.of b3 C2.out.yl).mono SUB.out))
    have SUB3 : Hid (∀ k, Y0 k → Yp Y w2 w3 k) := fun k hk => .inl (SUB.out k hk)
    clear C2 S2 K2 b3 n3 z0 z1 SUB
    generalize Yp Y w2 w3 = Y3 at *
    go_wp2_with fail
    refine (read_ok C3.out E PO.out nb [] N3.out).mono ?_
    rintro r w4 ⟨rfl, c4, k4⟩
    rw [rd_first] at c4
    have C4 := hide c4
    have S4 := hide (S3.out.keep k4)
    have K4 := hide (K3.out.trans (k4.mono SUB3.out))
    clear c4 k4 C3 N3 S3 K3
    by_cases hcut : cut < 0 ∨ 1048576 < cut
    · have RT := hide (fun u => retire_arg (some ⟨A + 1, 0, none⟩) 2 cut (.inr (.inr hcut)) u)
      by_cases hc0 : cut < 0
      · clear hcut
        go_wp2_with fail
        refine (RT.out _).mono ?_
        rintro r w0 ⟨rfl, e0⟩
        obtain rfl := e0.symm
        go_wp2_with fail
        refine (races_any _).mono ?_
        rintro r w5 ⟨rfl, b5⟩
        have B5 := hide ((HB.out w4 K4.out).2.2 _ b5)
        clear b5
        go_wp2_with fail
        go_ret
        exact ⟨rfl, by rw [HA.out]; exact B5.out⟩
      · have hc1 : 1048576 < cut := by omega
        clear hcut
        go_wp2_with fail
        refine (RT.out _).mono ?_
        rintro r w0 ⟨rfl, e0⟩
        obtain rfl := e0.symm
        go_wp2_with fail
        refine (races_any _).mono ?_
        rintro r w5 ⟨rfl, b5⟩
        have B5 := hide ((HB.out w4 K4.out).2.2 _ b5)
        clear b5
        go_wp2_with fail
        go_ret
        exact ⟨rfl, by rw [HA.out]; exact B5.out⟩
    · have RT := hide (retire_ok C4.out 2 cut (by decide) (by decide) (by omega) (by omega))
      unfold RetR at RT
      clear hcut
      go_wp2_with fail
      refine RT.out.mono ?_
      rintro r w5 ⟨rfl, c5, k5⟩
      rw [ret_r PO.out PT.out, PC.out] at c5
      have S5 := hide (S4.out.keep k5)
      have K5 := hide (K4.out.trans (k5.mono SUB3.out))
      obtain ⟨z0, z1, -⟩ := HB.out w5 K5.out
      by_cases hnc : n ≤ cut
      · rw [decide_eq_true hnc] at c5
        have C5 : Hid (CW Y3 (A + 1) w5 ⟨0, [], false⟩) := c5
        have f1 : decide (cut < n) = false := by simp; omega
        have Q1 : Hid (wrR ⟨0, [], false⟩ 8589934597 (trm [0, 5]) = 0) := by show _ = _; decide
        clear c5 k5 C4 S4 K4 RT hnc
        go_wp2_with fail
        refine (write_ok C5.out 8589934597 (by decide) sb (trm [0, 5]) S5.out).mono ?_
        rintro r w6 ⟨rfl, c6, k6⟩
        rw [Q1.out]
        have K6 := hide (K5.out.trans (k6.mono SUB3.out))
        obtain ⟨y0, y1, -⟩ := HB.out w6 K6.out
        clear c6 k6 C5 S5 K5 z0 z1 Q1
        go_wp2_with fail
        refine (races_any _).mono ?_
        rintro r w7 ⟨rfl, b7⟩
        have B7 := hide ((HB.out w6 K6.out).2.2 _ b7)
        clear b7
        go_wp2_with fail
        go_ret
        exact ⟨rfl, by rw [HA.out]; exact B7.out⟩
      · rw [decide_eq_false hnc] at c5
        have C5 : Hid (CW Y3 (A + 1) w5 ⟨0, [], true⟩) := c5
        have f1 : decide (cut < n) = true := by simp; omega
        have Q1 : Hid (wrR ⟨0, [], true⟩ 8589934597 (trm [0, 5]) = 2) := by show _ = _; decide
        clear c5 k5 C4 S4 K4 RT hnc
        go_wp2_with fail
        refine (write_ok C5.out 8589934597 (by decide) sb (trm [0, 5]) S5.out).mono ?_
        rintro r w6 ⟨rfl, c6, k6⟩
        rw [Q1.out]
        have K6 := hide (K5.out.trans (k6.mono SUB3.out))
        obtain ⟨y0, y1, -⟩ := HB.out w6 K6.out
        clear c6 k6 C5 S5 K5 z0 z1 Q1
        go_wp2_with fail
        refine (races_any _).mono ?_
        rintro r w7 ⟨rfl, b7⟩
        have B7 := hide ((HB.out w6 K6.out).2.2 _ b7)
        clear b7
        go_wp2_with fail
        go_ret
        exact ⟨rfl, by rw [HA.out]; exact B7.out⟩
  · go_wp2_with fail
    refine (cnew_any _).mono ?_
    rintro r w3 ⟨nb, rfl, b3, n3⟩
    have C3 := hide (C2.out.new b3)
    have N3 := hide (n3 Y)
    have S3 := hide ((S2.out.keep (KY.of b3 C2.out.yl)).mono fun k hk => Yp.sub (w := w2) (w' := w3) hk)
    have K3 := hide (K2.out.trans ((KY.of b3 C2.out.yl).mono SUB.out))
    have SUB3 : Hid (∀ k, Y0 k → Yp Y w2 w3 k) := fun k hk => .inl (SUB.out k hk)
    clear C2 S2 K2 b3 n3 z0 z1 SUB
    generalize Yp Y w2 w3 = Y3 at *
    go_wp2_with fail
    refine (write_ok C3.out E PO.out nb [] N3.out).mono ?_
    rintro r w4 ⟨rfl, c4, k4⟩
    have C4 := hide c4
    have S4 := hide (S3.out.keep k4)
    have K4 := hide (K3.out.trans (k4.mono SUB3.out))
    clear c4 k4 C3 N3 S3 K3
    by_cases hcut : cut < 0 ∨ 1048576 < cut
    · have RT := hide (fun u => retire_arg (some ⟨A + 1, 0, none⟩) 2 cut (.inr (.inr hcut)) u)
      by_cases hc0 : cut < 0
      · clear hcut
        go_wp2_with fail
        refine (RT.out _).mono ?_
        rintro r w0 ⟨rfl, e0⟩
        obtain rfl := e0.symm
        go_wp2_with fail
        refine (races_any _).mono ?_
        rintro r w5 ⟨rfl, b5⟩
        have B5 := hide ((HB.out w4 K4.out).2.2 _ b5)
        clear b5
        go_wp2_with fail
        go_ret
        exact ⟨rfl, by rw [HA.out]; exact B5.out⟩
      · have hc1 : 1048576 < cut := by omega
        clear hcut
        go_wp2_with fail
        refine (RT.out _).mono ?_
        rintro r w0 ⟨rfl, e0⟩
        obtain rfl := e0.symm
        go_wp2_with fail
        refine (races_any _).mono ?_
        rintro r w5 ⟨rfl, b5⟩
        have B5 := hide ((HB.out w4 K4.out).2.2 _ b5)
        clear b5
        go_wp2_with fail
        go_ret
        exact ⟨rfl, by rw [HA.out]; exact B5.out⟩
    · have RT := hide (retire_ok C4.out 2 cut (by decide) (by decide) (by omega) (by omega))
      unfold RetR at RT
      clear hcut
      go_wp2_with fail
      refine RT.out.mono ?_
      rintro r w5 ⟨rfl, c5, k5⟩
      rw [ret_w PO.out PT.out, PC.out] at c5
      have S5 := hide (S4.out.keep k5)
      have K5 := hide (K4.out.trans (k5.mono SUB3.out))
      obtain ⟨z0, z1, -⟩ := HB.out w5 K5.out
      by_cases hnc : n ≤ cut
      · rw [if_pos hnc] at c5
        have C5 : Hid (CW Y3 (A + 1) w5 ⟨0, [], false⟩) := c5
        have f1 : decide (cut < n) = false := by simp; omega
        have Q1 : Hid (rdR ⟨0, [], false⟩ 8589934597 (trm [0, 5]) = 0) := by show _ = _; decide
        clear c5 k5 C4 S4 K4 RT hnc
        go_wp2_with fail
        refine (read_ok C5.out 8589934597 (by decide) sb (trm [0, 5]) S5.out).mono ?_
        rintro r w6 ⟨rfl, c6, k6⟩
        rw [Q1.out]
        have K6 := hide (K5.out.trans (k6.mono SUB3.out))
        obtain ⟨y0, y1, -⟩ := HB.out w6 K6.out
        clear c6 k6 C5 S5 K5 z0 z1 Q1
        go_wp2_with fail
        refine (races_any _).mono ?_
        rintro r w7 ⟨rfl, b7⟩
        have B7 := hide ((HB.out w6 K6.out).2.2 _ b7)
        clear b7
        go_wp2_with fail
        go_ret
        exact ⟨rfl, by rw [HA.out]; exact B7.out⟩
      · rw [if_neg hnc] at c5
        have C5 : Hid (CW Y3 (A + 1) w5 ⟨18446744073709551615, [], false⟩) := c5
        have f1 : decide (cut < n) = true := by simp; omega
        have Q1 : Hid (rdR ⟨18446744073709551615, [], false⟩ 8589934597 (trm [0, 5]) = 1) := by show _ = _; decide
        clear c5 k5 C4 S4 K4 RT hnc
        go_wp2_with fail
        refine (read_ok C5.out 8589934597 (by decide) sb (trm [0, 5]) S5.out).mono ?_
        rintro r w6 ⟨rfl, c6, k6⟩
        rw [Q1.out]
        have K6 := hide (K5.out.trans (k6.mono SUB3.out))
        obtain ⟨y0, y1, -⟩ := HB.out w6 K6.out
        clear c6 k6 C5 S5 K5 z0 z1 Q1
        go_wp2_with fail
        refine (races_any _).mono ?_
        rintro r w7 ⟨rfl, b7⟩
        have B7 := hide ((HB.out w6 K6.out).2.2 _ b7)
        clear b7
        go_wp2_with fail
        go_ret
        exact ⟨rfl, by rw [HA.out]; exact B7.out⟩
  · go_wp2_with fail
    refine (cnew_any _).mono ?_
    rintro r w3 ⟨nb, rfl, b3, n3⟩
    have C3 := hide (C2.out.new b3)
    have N3 := hide (n3 Y)
    have S3 := hide ((S2.out.keep (KY.of b3 C2.out.yl)).mono fun k hk => Yp.sub (w := w2) (w' := w3) hk)
    have K3 := hide (K2.out.trans ((KY.of b3 C2.out.yl).mono SUB.out))
    have SUB3 : Hid (∀ k, Y0 k → Yp Y w2 w3 k) := fun k hk => .inl (SUB.out k hk)
    clear C2 S2 K2 b3 n3 z0 z1 SUB
    generalize Yp Y w2 w3 = Y3 at *
    go_wp2_with fail
    refine (write_ok C3.out E PO.out nb [] N3.out).mono ?_
    rintro r w4 ⟨rfl, c4, k4⟩
    have C4 := hide c4
    have S4 := hide (S3.out.keep k4)
    have K4 := hide (K3.out.trans (k4.mono SUB3.out))
    clear c4 k4 C3 N3 S3 K3
    by_cases hcut : cut < 0 ∨ 1048576 < cut
    · have RT := hide (fun u => retire_arg (some ⟨A + 1, 0, none⟩) 2 cut (.inr (.inr hcut)) u)
      by_cases hc0 : cut < 0
      · clear hcut
        go_wp2_with fail
        refine (RT.out _).mono ?_
        rintro r w0 ⟨rfl, e0⟩
        obtain rfl := e0.symm
        go_wp2_with fail
        refine (races_any _).mono ?_
        rintro r w5 ⟨rfl, b5⟩
        have B5 := hide ((HB.out w4 K4.out).2.2 _ b5)
        clear b5
        go_wp2_with fail
        go_ret
        exact ⟨rfl, by rw [HA.out]; exact B5.out⟩
      · have hc1 : 1048576 < cut := by omega
        clear hcut
        go_wp2_with fail
        refine (RT.out _).mono ?_
        rintro r w0 ⟨rfl, e0⟩
        obtain rfl := e0.symm
        go_wp2_with fail
        refine (races_any _).mono ?_
        rintro r w5 ⟨rfl, b5⟩
        have B5 := hide ((HB.out w4 K4.out).2.2 _ b5)
        clear b5
        go_wp2_with fail
        go_ret
        exact ⟨rfl, by rw [HA.out]; exact B5.out⟩
    · have RT := hide (retire_ok C4.out 2 cut (by decide) (by decide) (by omega) (by omega))
      unfold RetR at RT
      clear hcut
      go_wp2_with fail
      refine RT.out.mono ?_
      rintro r w5 ⟨rfl, c5, k5⟩
      rw [ret_w PO.out PT.out, PC.out] at c5
      have S5 := hide (S4.out.keep k5)
      have K5 := hide (K4.out.trans (k5.mono SUB3.out))
      obtain ⟨z0, z1, -⟩ := HB.out w5 K5.out
      by_cases hnc : n ≤ cut
      · rw [if_pos hnc] at c5
        have C5 : Hid (CW Y3 (A + 1) w5 ⟨0, [], false⟩) := c5
        have f1 : decide (cut < n) = false := by simp; omega
        have Q1 : Hid (wrR ⟨0, [], false⟩ 8589934597 (trm [0, 5]) = 0) := by show _ = _; decide
        clear c5 k5 C4 S4 K4 RT hnc
        go_wp2_with fail
        refine (write_ok C5.out 8589934597 (by decide) sb (trm [0, 5]) S5.out).mono ?_
        rintro r w6 ⟨rfl, c6, k6⟩
        rw [Q1.out]
        have K6 := hide (K5.out.trans (k6.mono SUB3.out))
        obtain ⟨y0, y1, -⟩ := HB.out w6 K6.out
        clear c6 k6 C5 S5 K5 z0 z1 Q1
        go_wp2_with fail
        refine (races_any _).mono ?_
        rintro r w7 ⟨rfl, b7⟩
        have B7 := hide ((HB.out w6 K6.out).2.2 _ b7)
        clear b7
        go_wp2_with fail
        go_ret
        exact ⟨rfl, by rw [HA.out]; exact B7.out⟩
      · rw [if_neg hnc] at c5
        have C5 : Hid (CW Y3 (A + 1) w5 ⟨18446744073709551615, [], false⟩) := c5
        have f1 : decide (cut < n) = true := by simp; omega
        have Q1 : Hid (wrR ⟨18446744073709551615, [], false⟩ 8589934597 (trm [0, 5]) = 1) := by show _ = _; decide
        clear c5 k5 C4 S4 K4 RT hnc
        go_wp2_with fail
        refine (write_ok C5.out 8589934597 (by decide) sb (trm [0, 5]) S5.out).mono ?_
        rintro r w6 ⟨rfl, c6, k6⟩
        rw [Q1.out]
        have K6 := hide (K5.out.trans (k6.mono SUB3.out))
        obtain ⟨y0, y1, -⟩ := HB.out w6 K6.out
        clear c6 k6 C5 S5 K5 z0 z1 Q1
        go_wp2_with fail
        refine (races_any _).mono ?_
        rintro r w7 ⟨rfl, b7⟩
        have B7 := hide ((HB.out w6 K6.out).2.2 _ b7)
        clear b7
        go_wp2_with fail
        go_ret
        exact ⟨rfl, by rw [HA.out]; exact B7.out⟩
theorem core {w : World} (n cut : Int) (p q : Bool) :
    Calls Try.prog 5 #[.int .i64 n, .int .i64 cut, .agg #[.bool p, .bool q]] w fun r w' => r = .returned (.bool true) ∧ Below w.heap.size w w' := by
  by_cases h : n < 1 ∨ 1048576 < n
  · exact bad n cut p q h
  · exact good n cut p q (by omega) (by omega)

/-! ### the row -/
set_option maxRecDepth 100000 in
theorem lifted (os : Os) (started : os.Started) (H : Type) (enc : TypeId × Value → H) :
    ReturnsInHanded {} Try.checked os 5 .any (Rows.cellCutSpec.pre6 enc Try.prog Try.f5 Rows.cellCutRow.domain false) (Rows.cellCutSpec.post enc Try.prog Try.f5 false true false false) := by
  refine returnsInHanded_of_change (C := Try.checked) own started (by kernel_rfl) Try.func5
    (ChangeSpec.witness6 (enc := enc) (C := Try.checked) false ⟨#[], #[.int .i64 0, .int .i64 0, .agg #[.bool false, .bool false]], []⟩ 8 (by kernel_rfl) (by kernel_rfl) (by kernel_rfl) (by kernel_rfl)) ?_
  intro W base args ds gs before hval0 hW hcnd _
  have hval : ∀ (j : Nat) t v, Try.f5.params[j]? = some t → args[j]? = some v → Value.okWide Try.prog W .any base t v := hval0
  have hW' := hW
  obtain ⟨p, q, hA0, hV, rfl, hfz, hnd⟩ := hW
  have hA : DataW.TrodAll enc Try.prog W 0 (fun _ => true) true Try.f5.params.toList args.toList ds p := hA0
  rw [Try.params5] at hA hval
  obtain ⟨v0, vs0, d0, ds0, p0, q0, hargs, rfl, rfl, h0, r0⟩ := trodAll_cons hA
  obtain ⟨v1, vs1, d1, ds1, p1, q1, rfl, rfl, rfl, h1, r1⟩ := trodAll_cons r0
  obtain ⟨v2, vs2, d2, ds2, p2, q2, rfl, rfl, rfl, h2, r2⟩ := trodAll_cons r1
  obtain ⟨rfl, rfl, rfl⟩ := trodAll_nil r2
  obtain rfl : args = #[v0, v1, v2] := by cases args; simp_all
  obtain ⟨rfl, rfl⟩ := trodVars_none hV
  obtain ⟨a0, rfl, rfl, rfl, w0⟩ := open_int Try.underlying3 (hval 0 3 v0 rfl rfl) h0
  obtain ⟨a1, rfl, rfl, rfl, w1⟩ := open_int Try.underlying3 (hval 1 3 v1 rfl rfl) h1
  have k2 := h2
  have lt2 : ∀ x ∈ p2, x.block < W.heap.size := by obtain ⟨m, hm⟩ := k2; exact DataW.trod_lt m _ _ _ hm
  obtain ⟨x2, y2, rfl⟩ := h2.elim fun _ hf => two_open hf
  clear hA0 hval0
  refine (core (w := W) a0 a1 x2 y2).mono fun e W' ⟨he, bel⟩ => ?_
  subst he
  exact ⟨_, rfl, _, _, _, [], _, [], hW', trodAll_mk1 (shut_bool Try.underlying4 _), (trodAll_cons_mk (shut_int Try.underlying3 w0) (trodAll_cons_mk (shut_int Try.underlying3 w1) (trodAll_cons_mk (Below.trod laidOut (by kernel_rfl) (of_decide_eq_true (by kernel_rfl)) k2 bel lt2) trodAll_mk0))), rfl, bel.frame _, fun h => by cases h⟩

theorem over : Rows.cellCutRow.holds Try.pinned (OpenSpec.ofChange Rows.cellCutSpec) :=
  OpenClaim.holds_of_wide 5 Try.f5 rfl rfl rfl rfl rfl rfl rfl ⟨rfl, rfl, rfl, rfl, rfl⟩ rfl rfl rfl rfl rfl (by kernel_rfl) Try.func5 (by kernel_rfl)
    (of_decide_eq_true (by kernel_rfl)) (by unfold Func.isWrapper; first | (rw [if_pos (by decide +kernel)]; kernel_rfl) | (rw [if_neg (by decide +kernel)]; exact ⟨rfl, rfl⟩))
    (fun os started H enc _ => lifted os started H enc)

/-- the statement -/
theorem proved : Rows.CellCutSaid := over
#print axioms proved
end Go.Proofs.Ytnbheejahenejaa.cellCut
