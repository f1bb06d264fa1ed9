/- What is ahead stands ahead; of one goroutine the earlier are ahead; Compacts have no order; it goes on from one to the next: of each trace of up to 60 events. -/
import Derived.Test.YtblfimobiibmjabGreatZjAx16
import Derived.Deep.Cut
import Derived.Deep.QuietTactic
import Derived.BigQuiet
import Derived.ShutString
import Derived.ChangeOld
import Derived.Below
namespace Go.Proofs.YtblfimobiibmjabGreat.axiomOrder
open Go.ChangeShapes Go.WideShapes Go.ChangeAt Go.RowKit
open Go.ChangeMaps (open_string shut_string)
open Ax Eg En Ba

theorem own : ownKnob Tryz.prog.godebug = none := by kernel_rfl
theorem laidOut : laidOutB Tryz.prog = true := by kernel_rfl

theorem mwh {w : World} {M R W : Nat} {l : List Ev} (T : Mx.MW w M R W l.length (ahd l)) {i k : Nat} (hi : i < l.length) (hk : k < l.length) :
    Calls Tryz.prog 8 #[.pointer (some ⟨M, 0, none⟩), .int .i64 (i : Int), .int .i64 (k : Int)] w fun e w' => e = .returned (.bool (Ax.hA l i k)) ∧ ∃ q, w' = w.drewN q := by
  refine (Mx.has_any T (i : Int) (k : Int)).mono ?_
  rintro e w' ⟨rfl, q⟩
  exact ⟨by rw [hsI_in hk hi]; rfl, q⟩
set_option maxRecDepth 100000 in
set_option maxHeartbeats 3200000 in
theorem big {w : World} (oa : Option Addr) (n c : Nat) (hm : n ≤ maxLen) (h : 60 < n) :
    Calls Tryz.prog 3 #[.slice oa n c] w fun e w' => e = .returned (.bool true) ∧ Below w.heap.size w w' := by
  unfold maxLen at hm
  have FV := Ba.hide (write_any w)
  have d1 : decide ((60 : Int) < (n : Int)) = true := by simp; omega
  have d2 : decide (60 < n) = true := by simp; omega
  go_enter Tryz.func3, Tryz.ntmps3
  go_wp2_with fail
  refine FV.out.mono ?_
  rintro r w1 ⟨rfl, b1⟩
  have B1 := Ba.hide b1
  clear b1
  go_wp2_with fail
  go_ret
  exact ⟨rfl, B1.out⟩
set_option maxRecDepth 100000 in
set_option maxHeartbeats 12800000 in
theorem core {w : World} (oa : Option Addr) (l : List Ev) (c : Nat) (hA : Gu.EsAt w oa l ∧ l.length ≤ c) (hm : l.length ≤ maxLen) :
    Calls Tryz.prog 3 #[.slice oa l.length c] w fun e w' => e = .returned (.bool true) ∧ Below w.heap.size w w' := by
  by_cases hb : 60 < l.length
  · exact big oa l.length c hm hb
  obtain ⟨hA, hc⟩ := hA
  have FV := Ba.hide (fun u => write_any u)
  cases ht : tokB l
  · have C1 := Ba.hide (ahead_no oa l c w hA (by omega) ht)
    obtain ⟨M, hM⟩ : ∃ M, l.length = M := ⟨_, rfl⟩
    rw [hM] at C1 hb ⊢
    have d1 : decide ((60 : Int) < (M : Int)) = false := by simp; omega
    have d2 : decide (60 < M) = false := by simp; omega
    clear hA hm hb ht hM hc
    go_enter Tryz.func3, Tryz.ntmps3
    go_wp2_with fail
    refine C1.out.mono ?_
    rintro r w1 ⟨rfl, b1⟩
    have B1 := Ba.hide b1
    clear b1 C1
    go_wp2_with fail
    refine (FV.out _).mono ?_
    rintro r w3 ⟨rfl, b3⟩
    have B3 := Ba.hide (Ba.btr B1.out b3)
    clear b3
    go_wp2_with fail
    go_ret
    exact ⟨rfl, B3.out⟩
  have hT := tokB_iff.1 ht
  have HE := Ba.hide hA
  have C1 := Ba.hide (ahead_yes oa l c w hA (by omega) ht)
  have HP := Ba.hide (fun (i k : Nat) (hi : i < l.length) (hk : k < l.length) (u : World) (P R W : Nat) (m : Mx.MW u P R W l.length (ahd l)) => mwh m hi hk)
  have FW := Ba.hide (fun (i k : Nat) (hi : i < l.length) (hk : k < l.length) (q : Ax.hA l i k = true) => (rel_is hT).fwd hT hi hk q)
  have LV := Ba.hide (fun (i k : Nat) (hi : i < l.length) (hk : k < l.length) (q : Ax.hA l i k = true) => (rel_is hT).live hT hi hk q)
  have OW := Ba.hide (fun (i k : Nat) (hik : i < k) (hk : k < l.length) h1 h2 hg => (show Ax.hA l i k = true from (rel_is hT).own' hT hik hk h1 h2 hg))
  have TR := Ba.hide (fun (i k j : Nat) (hi : i < l.length) (hk : k < l.length) (hj : j < l.length) (h1 : Ax.hA l i k = true) (h2 : Ax.hA l k j = true) => (show Ax.hA l i j = true from Rel.tr i k j hi hk hj h1 h2))
  obtain ⟨M, hM⟩ : ∃ M, l.length = M := ⟨_, rfl⟩
  have HM := Ba.hide hM
  rw [hM] at C1 HP FW LV OW TR hb ⊢
  have d1 : decide ((60 : Int) < (M : Int)) = false := by simp; omega
  have d2 : decide (60 < M) = false := by simp; omega
  clear hA hm ht hM hT hc
  go_enter Tryz.func3, Tryz.ntmps3
  go_wp2_with fail
  refine C1.out.mono ?_
  rintro r w1 ⟨P, R, W, rfl, m1, b1⟩
  have B1 := Ba.hide b1
  have M1 := Ba.hide m1
  have E1 := Ba.hide (HE.out.below b1)
  clear b1 C1 m1
  go_wp2_with fail
  go_loopw [33] (fun iv wr => ∃ i : Nat, i ≤ M ∧ iv = .int .i64 (i : Int) ∧ Below w1.heap.size w1 wr) (fun iv _ => M - (intOf iv).toNat)
  case atStart => exact ⟨0, by omega, rfl, Below.refl _ _⟩
  case round =>
    obtain ⟨i, hi, rfl, bl⟩ := hrel
    have BL := Ba.hide bl
    by_cases hlt : i < M
    · have hlt' : (i : Int) < (M : Int) := by omega
      obtain ⟨x, hx⟩ : ∃ x, l[i]? = some x := get_lt (by rw [HM.out]; exact hlt)
      have E2 := Ba.hide (E1.out.below bl)
      obtain ⟨b2, o2, rfl, -⟩ := E2.out i x hx
      obtain ⟨p0, p1, p2, p3, p4, p5, p6, p7⟩ := E2.out.read hx
      have HX := Ba.hide hx
      clear bl hx
      go_upto_region 9 with fail
      have X0 := Ba.hide (Ba.heap_new wr (.cells #[.int .i64 x.k, .int .i64 x.g, .int .i64 x.c, .int .i64 x.a, .int .i64 x.v, .int .i64 x.m, .bool x.s, .bool x.o] 29))
      have BX := Ba.hide (Ba.btr BL.out (Ba.below_alloc wr (.cells #[.int .i64 x.k, .int .i64 x.g, .int .i64 x.c, .int .i64 x.a, .int .i64 x.v, .int .i64 x.m, .bool x.s, .bool x.o] 29)))
      obtain ⟨w2, hw2⟩ : ∃ u, wr.alloc (.cells #[.int .i64 x.k, .int .i64 x.g, .int .i64 x.c, .int .i64 x.a, .int .i64 x.v, .int .i64 x.m, .bool x.s, .bool x.o] 29) = u := ⟨_, rfl⟩
      rw [hw2] at X0 BX ⊢
      have XL := Ba.hide (Ba.heap_lt X0.out)
      obtain ⟨A, hAA⟩ : ∃ A, wr.heap.size = A := ⟨_, rfl⟩
      rw [hAA] at X0 XL ⊢
      clear hw2 p0 p1 p2 p3 p4 p5 p6 p7 hAA E2
      go_wp2_with fail
      go_loopw [40] (fun iv w6 => ∃ k : Nat, k ≤ M ∧ iv = .int .i64 (k : Int) ∧ Below w1.heap.size w1 w6 ∧ w6.heap[A]? = some ((.cells #[.int .i64 x.k, .int .i64 x.g, .int .i64 x.c, .int .i64 x.a, .int .i64 x.v, .int .i64 x.m, .bool x.s, .bool x.o] 29) : Obj)) (fun iv _ => M - (intOf iv).toNat)
      case atStart => exact ⟨0, by omega, rfl, BX.out, X0.out⟩
      case round =>
        rename World => w6
        obtain ⟨k, hk, rfl, b6, xa⟩ := hrel
        have B6 := Ba.hide b6
        have XA := Ba.hide xa
        by_cases hlk : k < M
        · have hlk' : (k : Int) < (M : Int) := by omega
          obtain ⟨y, hy⟩ : ∃ y, l[k]? = some y := get_lt (by rw [HM.out]; exact hlk)
          have E6 := Ba.hide (E1.out.below b6)
          obtain ⟨p0, p1, p2, p3, p4, p5, p6, p7⟩ := E6.out.read hy
          have HY := Ba.hide hy
          clear b6 xa hy
          go_upto_region 12 with fail
          have Y0 := Ba.hide (Ba.heap_new w6 (.cells #[.int .i64 y.k, .int .i64 y.g, .int .i64 y.c, .int .i64 y.a, .int .i64 y.v, .int .i64 y.m, .bool y.s, .bool y.o] 29))
          have BY := Ba.hide (Ba.btr B6.out (Ba.below_alloc w6 (.cells #[.int .i64 y.k, .int .i64 y.g, .int .i64 y.c, .int .i64 y.a, .int .i64 y.v, .int .i64 y.m, .bool y.s, .bool y.o] 29)))
          have X7 := Ba.hide (Ba.heap_below XA.out (Ba.below_alloc w6 (.cells #[.int .i64 y.k, .int .i64 y.g, .int .i64 y.c, .int .i64 y.a, .int .i64 y.v, .int .i64 y.m, .bool y.s, .bool y.o] 29)))
          obtain ⟨w7, hw7⟩ : ∃ u, w6.alloc (.cells #[.int .i64 y.k, .int .i64 y.g, .int .i64 y.c, .int .i64 y.a, .int .i64 y.v, .int .i64 y.m, .bool y.s, .bool y.o] 29) = u := ⟨_, rfl⟩
          rw [hw7] at Y0 BY X7 ⊢
          obtain ⟨C, hCC⟩ : ∃ C, w6.heap.size = C := ⟨_, rfl⟩
          rw [hCC] at Y0 ⊢
          clear hw7 p0 p1 p2 p3 p4 p5 p6 p7 hCC E6
          have H1 := Ba.hide (HP.out i k hlt hlk w7 P R W (M1.out.below BY.out))
          obtain ⟨z, hz⟩ : ∃ z, Ax.hA l i k = z := ⟨_, rfl⟩
          rw [hz] at H1
          have HZ := Ba.hide hz
          clear hz
          go_wp2_with fail
          refine H1.out.mono ?_
          rintro r u ⟨rfl, n0, rfl⟩
          have B7 := Ba.hide (Ba.btr BY.out (Ba.bdrew w7 n0))
          have X8 := Ba.hide (Ba.heap_below X7.out (Ba.bdrew w7 n0))
          have Y8 := Ba.hide (Ba.heap_below Y0.out (Ba.bdrew w7 n0))
          generalize w7.drewN n0 = w8 at *
          have x0 := cell_of X8.out 0
          have x1 := cell_of X8.out 1
          have y0 := cell_of Y8.out 0
          have y1 := cell_of Y8.out 1
          simp at x0 x1 y0 y1
          have G00 := Ba.hide (HP.out i k hlt hlk w8 P R W (M1.out.below B7.out))
          rw [HZ.out] at G00
          cases z with
          | true =>
            obtain ⟨l1, l2⟩ := LV.out i k hlt hlk HZ.out
            rw [live_at HX.out] at l1
            rw [live_at HY.out] at l2
            have fw := FW.out i k hlt hlk HZ.out
            have e1 : (x.k != 13) = true := by simpa using l1
            have e2 : (y.k != 13) = true := by simpa using l2
            have e1' : (x.k == 13) = false := by simpa using l1
            have e2' : (y.k == 13) = false := by simpa using l2
            have f1 : ¬ ((k : Int) ≤ (i : Int)) := by omega
            have f2 : (i : Int) < (k : Int) := by omega
            have f3 : decide (k ≤ i) = false := by simp; omega
            have f4 : decide (i < k) = true := by simp; omega
            clear l1 l2 fw
            cases e3 : (x.g == y.g)
            · have B8 := B7
              go_wp2_with fail
              go_loopw [100] (fun iv w8 => ∃ j : Nat, j ≤ M ∧ iv = .int .i64 (j : Int) ∧ Below w1.heap.size w1 w8 ∧ w8.heap[A]? = some ((.cells #[.int .i64 x.k, .int .i64 x.g, .int .i64 x.c, .int .i64 x.a, .int .i64 x.v, .int .i64 x.m, .bool x.s, .bool x.o] 29) : Obj)) (fun iv _ => M - (intOf iv).toNat)
              case atStart => exact ⟨0, by omega, rfl, B8.out, X8.out⟩
              case round =>
                rename World => w9
                obtain ⟨j, hj, rfl, b9, xa9⟩ := hrel
                have X9 := Ba.hide xa9
                clear xa9
                have B9 := Ba.hide b9
                by_cases hlj : j < M
                · have hlj' : (j : Int) < (M : Int) := by omega
                  have G1 := Ba.hide (HP.out i k hlt hlk w9 P R W (M1.out.below b9))
                  rw [HZ.out] at G1
                  obtain ⟨z2, hz2⟩ : ∃ z, hA l k j = z := ⟨_, rfl⟩
                  have TRN := Ba.hide (fun (h : z2 = true) => TR.out i k j hlt hlk hlj HZ.out (hz2.trans h))
                  have HZ2 := Ba.hide hz2
                  clear b9 hz2
                  go_wp2_with fail
                  refine G1.out.mono ?_
                  rintro r u ⟨rfl, n1, rfl⟩
                  have B10 := Ba.hide (Ba.btr B9.out (Ba.bdrew w9 n1))
                  have G2 := Ba.hide (HP.out k j hlk hlj (w9.drewN n1) P R W (M1.out.below B10.out))
                  rw [HZ2.out] at G2
                  go_wp2_with fail
                  refine G2.out.mono ?_
                  rintro r u ⟨rfl, n2, rfl⟩
                  have B11 := Ba.hide (Ba.btr B9.out (Ba.bdrew w9 (n1 + n2)))
                  cases z2 with
                  | false =>
                    go_wp2_with fail
                    go_roundw
                    case measure => simp [intOf]; omega
                    case rel => exact ⟨j + 1, by omega, by simp, B11.out, X9.out⟩
                  | true =>
                    have G3 := Ba.hide (HP.out i j hlt hlj (w9.drewN (n1 + n2)) P R W (M1.out.below B11.out))
                    rw [TRN.out rfl] at G3
                    go_wp2_with fail
                    refine G3.out.mono ?_
                    rintro r u ⟨rfl, n3, rfl⟩
                    go_wp2_with fail
                    go_roundw
                    case measure => simp [intOf]; omega
                    case rel => exact ⟨j + 1, by omega, by simp, Ba.btr B9.out (Ba.bdrew w9 (n1 + n2 + n3)), X9.out⟩
                · obtain rfl : j = M := by omega
                  clear b9
                  go_wp2_with fail
                  go_roundw
                  case measure => simp [intOf]; omega
                  case rel => exact ⟨k + 1, by omega, by simp, B9.out, X9.out⟩
            · go_wp2_with fail
              refine G00.out.mono ?_
              rintro r u ⟨rfl, n1, rfl⟩
              have B8 := Ba.hide (Ba.btr B7.out (Ba.bdrew w8 n1))
              go_wp2_with fail
              go_loopw [100] (fun iv w8 => ∃ j : Nat, j ≤ M ∧ iv = .int .i64 (j : Int) ∧ Below w1.heap.size w1 w8 ∧ w8.heap[A]? = some ((.cells #[.int .i64 x.k, .int .i64 x.g, .int .i64 x.c, .int .i64 x.a, .int .i64 x.v, .int .i64 x.m, .bool x.s, .bool x.o] 29) : Obj)) (fun iv _ => M - (intOf iv).toNat)
              case atStart => exact ⟨0, by omega, rfl, B8.out, X8.out⟩
              case round =>
                rename World => w9
                obtain ⟨j, hj, rfl, b9, xa9⟩ := hrel
                have X9 := Ba.hide xa9
                clear xa9
                have B9 := Ba.hide b9
                by_cases hlj : j < M
                · have hlj' : (j : Int) < (M : Int) := by omega
                  have G1 := Ba.hide (HP.out i k hlt hlk w9 P R W (M1.out.below b9))
                  rw [HZ.out] at G1
                  obtain ⟨z2, hz2⟩ : ∃ z, hA l k j = z := ⟨_, rfl⟩
                  have TRN := Ba.hide (fun (h : z2 = true) => TR.out i k j hlt hlk hlj HZ.out (hz2.trans h))
                  have HZ2 := Ba.hide hz2
                  clear b9 hz2
                  go_wp2_with fail
                  refine G1.out.mono ?_
                  rintro r u ⟨rfl, n1, rfl⟩
                  have B10 := Ba.hide (Ba.btr B9.out (Ba.bdrew w9 n1))
                  have G2 := Ba.hide (HP.out k j hlk hlj (w9.drewN n1) P R W (M1.out.below B10.out))
                  rw [HZ2.out] at G2
                  go_wp2_with fail
                  refine G2.out.mono ?_
                  rintro r u ⟨rfl, n2, rfl⟩
                  have B11 := Ba.hide (Ba.btr B9.out (Ba.bdrew w9 (n1 + n2)))
                  cases z2 with
                  | false =>
                    go_wp2_with fail
                    go_roundw
                    case measure => simp [intOf]; omega
                    case rel => exact ⟨j + 1, by omega, by simp, B11.out, X9.out⟩
                  | true =>
                    have G3 := Ba.hide (HP.out i j hlt hlj (w9.drewN (n1 + n2)) P R W (M1.out.below B11.out))
                    rw [TRN.out rfl] at G3
                    go_wp2_with fail
                    refine G3.out.mono ?_
                    rintro r u ⟨rfl, n3, rfl⟩
                    go_wp2_with fail
                    go_roundw
                    case measure => simp [intOf]; omega
                    case rel => exact ⟨j + 1, by omega, by simp, Ba.btr B9.out (Ba.bdrew w9 (n1 + n2 + n3)), X9.out⟩
                · obtain rfl : j = M := by omega
                  clear b9
                  go_wp2_with fail
                  go_roundw
                  case measure => simp [intOf]; omega
                  case rel => exact ⟨k + 1, by omega, by simp, B9.out, X9.out⟩
          | false =>
            cases e1' : (x.k == 13)
            · have e1 : (x.k != 13) = true := by simp [bne, e1']
              cases e2' : (y.k == 13)
              · have e2 : (y.k != 13) = true := by simp [bne, e2']
                cases e3 : (x.g == y.g)
                · have B8 := B7
                  go_wp2_with fail
                  go_loopw [100] (fun iv w8 => ∃ j : Nat, j ≤ M ∧ iv = .int .i64 (j : Int) ∧ Below w1.heap.size w1 w8 ∧ w8.heap[A]? = some ((.cells #[.int .i64 x.k, .int .i64 x.g, .int .i64 x.c, .int .i64 x.a, .int .i64 x.v, .int .i64 x.m, .bool x.s, .bool x.o] 29) : Obj)) (fun iv _ => M - (intOf iv).toNat)
                  case atStart => exact ⟨0, by omega, rfl, B8.out, X8.out⟩
                  case round =>
                    rename World => w9
                    obtain ⟨j, hj, rfl, b9, xa9⟩ := hrel
                    have X9 := Ba.hide xa9
                    clear xa9
                    have B9 := Ba.hide b9
                    by_cases hlj : j < M
                    · have hlj' : (j : Int) < (M : Int) := by omega
                      have G1 := Ba.hide (HP.out i k hlt hlk w9 P R W (M1.out.below b9))
                      rw [HZ.out] at G1
                      clear b9
                      go_wp2_with fail
                      refine G1.out.mono ?_
                      rintro r u ⟨rfl, n1, rfl⟩
                      go_wp2_with fail
                      go_roundw
                      case measure => simp [intOf]; omega
                      case rel => exact ⟨j + 1, by omega, by simp, Ba.btr B9.out (Ba.bdrew w9 n1), X9.out⟩
                    · obtain rfl : j = M := by omega
                      clear b9
                      go_wp2_with fail
                      go_roundw
                      case measure => simp [intOf]; omega
                      case rel => exact ⟨k + 1, by omega, by simp, B9.out, X9.out⟩
                · have f2 : ¬ ((i : Int) < (k : Int)) := by
                    intro q
                    have h := OW.out i k (by omega) hlk ((live_at HX.out).2 (by simpa using e1)) ((live_at HY.out).2 (by simpa using e2)) (by rw [gof_at HX.out, gof_at HY.out]; simpa using e3)
                    have h2 : Ax.hA l i k = true := h
                    rw [HZ.out] at h2
                    cases h2
                  have f4 : decide (i < k) = false := by simp; omega
                  have B8 := B7
                  go_wp2_with fail
                  go_loopw [100] (fun iv w8 => ∃ j : Nat, j ≤ M ∧ iv = .int .i64 (j : Int) ∧ Below w1.heap.size w1 w8 ∧ w8.heap[A]? = some ((.cells #[.int .i64 x.k, .int .i64 x.g, .int .i64 x.c, .int .i64 x.a, .int .i64 x.v, .int .i64 x.m, .bool x.s, .bool x.o] 29) : Obj)) (fun iv _ => M - (intOf iv).toNat)
                  case atStart => exact ⟨0, by omega, rfl, B8.out, X8.out⟩
                  case round =>
                    rename World => w9
                    obtain ⟨j, hj, rfl, b9, xa9⟩ := hrel
                    have X9 := Ba.hide xa9
                    clear xa9
                    have B9 := Ba.hide b9
                    by_cases hlj : j < M
                    · have hlj' : (j : Int) < (M : Int) := by omega
                      have G1 := Ba.hide (HP.out i k hlt hlk w9 P R W (M1.out.below b9))
                      rw [HZ.out] at G1
                      clear b9
                      go_wp2_with fail
                      refine G1.out.mono ?_
                      rintro r u ⟨rfl, n1, rfl⟩
                      go_wp2_with fail
                      go_roundw
                      case measure => simp [intOf]; omega
                      case rel => exact ⟨j + 1, by omega, by simp, Ba.btr B9.out (Ba.bdrew w9 n1), X9.out⟩
                    · obtain rfl : j = M := by omega
                      clear b9
                      go_wp2_with fail
                      go_roundw
                      case measure => simp [intOf]; omega
                      case rel => exact ⟨k + 1, by omega, by simp, B9.out, X9.out⟩
              · have e2 : (y.k != 13) = false := by simp [bne, e2']
                go_wp2_with fail
                refine G00.out.mono ?_
                rintro r u ⟨rfl, n1, rfl⟩
                have B8 := Ba.hide (Ba.btr B7.out (Ba.bdrew w8 n1))
                go_wp2_with fail
                go_loopw [100] (fun iv w8 => ∃ j : Nat, j ≤ M ∧ iv = .int .i64 (j : Int) ∧ Below w1.heap.size w1 w8 ∧ w8.heap[A]? = some ((.cells #[.int .i64 x.k, .int .i64 x.g, .int .i64 x.c, .int .i64 x.a, .int .i64 x.v, .int .i64 x.m, .bool x.s, .bool x.o] 29) : Obj)) (fun iv _ => M - (intOf iv).toNat)
                case atStart => exact ⟨0, by omega, rfl, B8.out, X8.out⟩
                case round =>
                  rename World => w9
                  obtain ⟨j, hj, rfl, b9, xa9⟩ := hrel
                  have X9 := Ba.hide xa9
                  clear xa9
                  have B9 := Ba.hide b9
                  by_cases hlj : j < M
                  · have hlj' : (j : Int) < (M : Int) := by omega
                    have G1 := Ba.hide (HP.out i k hlt hlk w9 P R W (M1.out.below b9))
                    rw [HZ.out] at G1
                    clear b9
                    go_wp2_with fail
                    refine G1.out.mono ?_
                    rintro r u ⟨rfl, n1, rfl⟩
                    go_wp2_with fail
                    go_roundw
                    case measure => simp [intOf]; omega
                    case rel => exact ⟨j + 1, by omega, by simp, Ba.btr B9.out (Ba.bdrew w9 n1), X9.out⟩
                  · obtain rfl : j = M := by omega
                    clear b9
                    go_wp2_with fail
                    go_roundw
                    case measure => simp [intOf]; omega
                    case rel => exact ⟨k + 1, by omega, by simp, B9.out, X9.out⟩
            · have e1 : (x.k != 13) = false := by simp [bne, e1']
              go_wp2_with fail
              refine G00.out.mono ?_
              rintro r u ⟨rfl, n1, rfl⟩
              have B8 := Ba.hide (Ba.btr B7.out (Ba.bdrew w8 n1))
              go_wp2_with fail
              go_loopw [100] (fun iv w8 => ∃ j : Nat, j ≤ M ∧ iv = .int .i64 (j : Int) ∧ Below w1.heap.size w1 w8 ∧ w8.heap[A]? = some ((.cells #[.int .i64 x.k, .int .i64 x.g, .int .i64 x.c, .int .i64 x.a, .int .i64 x.v, .int .i64 x.m, .bool x.s, .bool x.o] 29) : Obj)) (fun iv _ => M - (intOf iv).toNat)
              case atStart => exact ⟨0, by omega, rfl, B8.out, X8.out⟩
              case round =>
                rename World => w9
                obtain ⟨j, hj, rfl, b9, xa9⟩ := hrel
                have X9 := Ba.hide xa9
                clear xa9
                have B9 := Ba.hide b9
                by_cases hlj : j < M
                · have hlj' : (j : Int) < (M : Int) := by omega
                  have G1 := Ba.hide (HP.out i k hlt hlk w9 P R W (M1.out.below b9))
                  rw [HZ.out] at G1
                  clear b9
                  go_wp2_with fail
                  refine G1.out.mono ?_
                  rintro r u ⟨rfl, n1, rfl⟩
                  go_wp2_with fail
                  go_roundw
                  case measure => simp [intOf]; omega
                  case rel => exact ⟨j + 1, by omega, by simp, Ba.btr B9.out (Ba.bdrew w9 n1), X9.out⟩
                · obtain rfl : j = M := by omega
                  clear b9
                  go_wp2_with fail
                  go_roundw
                  case measure => simp [intOf]; omega
                  case rel => exact ⟨k + 1, by omega, by simp, B9.out, X9.out⟩
        · obtain rfl : k = M := by omega
          clear b6 xa
          go_wp2_with fail
          go_roundw
          case measure => simp [intOf]; omega
          case rel => exact ⟨i + 1, by omega, by simp, B6.out⟩
    · obtain rfl : i = M := by omega
      clear bl
      go_wp2_with fail
      refine (FV.out _).mono ?_
      rintro r w7 ⟨rfl, b7⟩
      have B7 := Ba.hide (Ba.btr B1.out (Ba.btr BL.out b7))
      clear b7
      go_wp2_with fail
      go_ret
      exact ⟨rfl, B7.out⟩

/-! ### the row -/
set_option maxRecDepth 100000 in
theorem lifted (os : Os) (started : os.Started) (H : Type) (enc : TypeId × Value → H) :
    ReturnsInHanded {} Tryz.checked os 3 .any (Rows.axiomOrderSpec.pre6 enc Tryz.prog Tryz.f3 Rows.axiomOrderRow.domain false) (Rows.axiomOrderSpec.post enc Tryz.prog Tryz.f3 false true false false) := by
  refine returnsInHanded_of_change (C := Tryz.checked) own started (by kernel_rfl) Tryz.func3
    (ChangeSpec.witness6 (enc := enc) (C := Tryz.checked) false ⟨#[], #[.slice none 0 0], []⟩ 8 (by kernel_rfl) (by kernel_rfl) (by kernel_rfl) (by kernel_rfl)) ?_
  intro W base args ds gs before hval0 hW hcnd _
  have hval : ∀ (j : Nat) t v, Tryz.f3.params[j]? = some t → args[j]? = some v → Value.okWide Tryz.prog W .any base t v := hval0
  have hW' := hW
  obtain ⟨p, q, hA0, hV, rfl, hfz, hnd⟩ := hW
  have hA : DataW.TrodAll enc Tryz.prog W 0 (fun _ => true) true Tryz.f3.params.toList args.toList ds p := hA0
  rw [Tryz.params3] at hA hval
  obtain ⟨v0, vs0, d0, ds0, p0, q0, hargs, rfl, rfl, h0, r0⟩ := trodAll_cons hA
  obtain ⟨rfl, rfl, rfl⟩ := trodAll_nil r0
  obtain rfl : args = #[v0] := by cases args; simp_all
  obtain ⟨rfl, rfl⟩ := trodVars_none hV
  obtain ⟨oa0, n0, c0, rfl⟩ := okWide_slice Tryz.underlying22 (hval 0 22 v0 rfl rfl)
  have k0 := h0
  have lt0 : ∀ x ∈ p0, x.block < W.heap.size := by obtain ⟨m, hm⟩ := k0; exact DataW.trod_lt m _ _ _ hm
  obtain ⟨l0, rfl, A0, C0, M0⟩ := h0.elim fun _ hf => Gu.events_openC hf
  clear hA0 hval0
  refine (core (w := W) oa0 l0 c0 A0 (Nat.le_trans C0 M0)).mono fun e W' ⟨he, bel⟩ => ?_
  subst he
  exact ⟨_, rfl, _, _, _, [], _, [], hW', trodAll_mk1 (shut_bool Tryz.underlying4 _), (trodAll_cons_mk (Below.trod laidOut (by kernel_rfl) (of_decide_eq_true (by kernel_rfl)) k0 bel lt0) trodAll_mk0), rfl, bel.frame _, fun h => by cases h⟩

theorem over : Rows.axiomOrderRow.holds Tryz.pinned (OpenSpec.ofChange Rows.axiomOrderSpec) :=
  OpenClaim.holds_of_wide 3 Tryz.f3 rfl rfl rfl rfl rfl rfl rfl ⟨rfl, rfl, rfl, rfl, rfl⟩ rfl rfl rfl rfl rfl (by kernel_rfl) Tryz.func3 (by kernel_rfl)
    (of_decide_eq_true (by kernel_rfl)) (by unfold Func.isWrapper; first | (rw [if_pos (by decide +kernel)]; kernel_rfl) | (rw [if_neg (by decide +kernel)]; exact ⟨rfl, rfl⟩))
    (fun os started H enc _ => lifted os started H enc)

/-- the statement -/
theorem proved : Rows.AxiomOrderSaid := over
#print axioms proved
end Go.Proofs.YtblfimobiibmjabGreat.axiomOrder
