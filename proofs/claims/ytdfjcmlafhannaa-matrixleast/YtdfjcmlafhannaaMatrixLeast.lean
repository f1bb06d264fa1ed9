/- Every n and pairs: MatrixLeast answers true: a closure is the least relation that has all that was there and goes on from one to the next. -/
import Derived.Test.YtdfjcmlafhannaaNb7
import Derived.Test.YtdfjcmlafhannaaBo
import Derived.ShutString
import Derived.ChangeOld
import Derived.Below
namespace Go.Proofs.Ytdfjcmlafhannaa.matrixLeast
open Go.ChangeShapes Go.WideShapes Go.ChangeAt Go.RowKit
open Go.ChangeMaps (open_string shut_string)
open Mx

theorem own : ownKnob Try.prog.godebug = none := by kernel_rfl
theorem laidOut : laidOutB Try.prog = true := by kernel_rfl

set_option maxRecDepth 100000 in
set_option maxHeartbeats 1600000 in
theorem small {w : World} (n : Int) (oa ob : Option Addr) (la c lb d : Nat) (hm : la ≤ maxLen) (hm2 : lb ≤ maxLen) (h : n < 0 ∨ 40 < n ∨ 200 < la ∨ 200 < lb) :
    Calls Try.prog 5 #[.int .i64 n, .slice oa la c, .slice ob lb d] w fun e w' => e = .returned (.bool true) ∧ Below w.heap.size w w' := by
  unfold maxLen at hm hm2
  have TH := Mx.hide (three_any w)
  have key : ∀ a b d1 d2 : Bool, decide (n < 0) = a → decide (40 < n) = b → decide ((200 : Int) < (la : Int)) = d1 → decide ((200 : Int) < (lb : Int)) = d2 → (a || b || d1 || d2) = true → Calls Try.prog 5 #[.int .i64 n, .slice oa la c, .slice ob lb d] w fun e w' => e = .returned (.bool true) ∧ Below w.heap.size w w' := by
    intro a b d1 d2 ha hb hd he hab
    have hd2 : decide (200 < la) = d1 := by rw [← hd, decide_eq_decide]; omega
    have he2 : decide (200 < lb) = d2 := by rw [← he, decide_eq_decide]; omega
    clear h
    cases a <;> cases b <;> cases d1 <;> cases d2
    all_goals
      first
      | (exfalso; revert hab; decide)
      | (clear hab
         go_enter Try.func5, Try.ntmps5
         go_wp2_with fail
         refine TH.out.mono ?_
         rintro r w1 ⟨rfl, b1⟩
         have B1 := Mx.hide b1
         clear b1
         go_wp2_with fail
         go_ret
         exact ⟨rfl, B1.out⟩)
  refine key _ _ _ _ rfl rfl rfl rfl ?_
  rcases h with h | h | h | h
  · simp [h]
  · simp [h]
  · have : (200 : Int) < (la : Int) := by omega
    simp [this]
  · have : (200 : Int) < (lb : Int) := by omega
    simp [this]
set_option maxRecDepth 100000 in
set_option maxHeartbeats 6400000 in
theorem core {w : World} (n : Int) (oa : Option Addr) (l : List (Int × Int)) (c : Nat) (hA : PAt w oa l) (hm : l.length ≤ maxLen) (ob : Option Addr) (l2 : List (Int × Int)) (d : Nat) (hA2 : PAt w ob l2) (hm2 : l2.length ≤ maxLen) :
    Calls Try.prog 5 #[.int .i64 n, .slice oa l.length c, .slice ob l2.length d] w fun e w' => e = .returned (.bool true) ∧ Below w.heap.size w w' := by
  by_cases hs : n < 0 ∨ 40 < n ∨ 200 < l.length ∨ 200 < l2.length
  · exact small n oa ob l.length c l2.length d hm hm2 hs
  · obtain ⟨m, rfl⟩ := Int.eq_ofNat_of_zero_le (show 0 ≤ n by omega)
    have hm60 : m ≤ 40 := by omega
    have hl200 : l.length ≤ 200 := by omega
    have hl201 : l2.length ≤ 200 := by omega
    have a1 : decide ((m : Int) < 0) = false := by simp
    have a2 : decide ((40 : Int) < (m : Int)) = false := by simp; omega
    have a3 : decide ((200 : Int) < (l.length : Int)) = false := by simp; omega
    have a4 : decide (200 < l.length) = false := by simp; omega
    have a5 : decide ((200 : Int) < (l2.length : Int)) = false := by simp; omega
    have a6 : decide (200 < l2.length) = false := by simp; omega
    have PA := Mx.hide hA
    have PB := Mx.hide hA2
    have NW := Mx.hide (fun u : World => new_ok m (by omega) u)
    clear hs hA hm hA2 hm2
    obtain ⟨N, hN⟩ : ∃ N, w.heap.size = N := ⟨_, rfl⟩
    have HN := Mx.hide hN
    rw [hN]
    go_enter Try.func5, Try.ntmps5
    go_wp2_with fail
    refine (NW.out _).mono ?_
    rintro e w1 ⟨rfl, m1, b1⟩
    rw [hN] at m1 b1 ⊢
    have M1 := Mx.hide m1
    have B1 := Mx.hide b1
    obtain ⟨N2, hN2⟩ : ∃ N2, w1.heap.size = N2 := ⟨_, rfl⟩
    have hNN : N + 2 < N2 := by rw [← hN2]; exact m1.cell_lt
    clear m1 b1 hN
    go_wp2_with fail
    refine (NW.out _).mono ?_
    rintro e w2 ⟨rfl, m2, b2⟩
    rw [hN2] at m2 b2 ⊢
    have M2 := Mx.hide m2
    have M1' := Mx.hide (M1.out.below (by rw [hN2]; exact b2))
    have B2 : Hid (Below N w w2) := B1.out.trans (b2.mono (by omega))
    clear m2 b2 M1 B1 NW hN2
    go_wp2_with fail
    go_loopw [64] (fun s wr => ∃ j : Nat, j ≤ l.length ∧ s = .int .i64 (j : Int) ∧ MW wr (N + 2) (N + 1) N m (sets m no (l.take j)) ∧ MW wr (N2 + 2) (N2 + 1) N2 m (sets m no (l.take j)) ∧ Below N w wr) (fun s _ => l.length - (intOf s).toNat)
    case atStart => exact ⟨0, Nat.zero_le _, rfl, M1'.out, M2.out, B2.out⟩
    case round =>
      obtain ⟨j, hj, rfl, x1, x2, bl⟩ := hrel
      clear M1' M2 B2
      by_cases hlt : j < l.length
      · have hlt' : (j : Int) < (l.length : Int) := by omega
        obtain ⟨p, hp⟩ := pair_lt hlt
        obtain ⟨b, off, rfl, q1, q2⟩ := PA.out.below (by rw [HN.out]; exact bl) j p hp
        have BA := Ba.below_alloc wr (.cells #[.int .i64 p.1, .int .i64 p.2] 32)
        have hsz : N ≤ wr.heap.size := by have := bl.size; rw [HN.out] at this; exact this
        have hlt1 := x1.cell_lt
        have hlt2 := x2.cell_lt
        have X1 := Mx.hide (x1.below BA)
        have X2 := Mx.hide (x2.below BA)
        have BL : Hid (Below N w (wr.alloc (.cells #[.int .i64 p.1, .int .i64 p.2] 32))) := bl.trans (BA.mono hsz)
        have PC := Mx.hide (Ba.heap_new wr (.cells #[.int .i64 p.1, .int .i64 p.2] 32))
        have S1 := Mx.hide (sets_take (n := m) (r := no) hp)
        obtain ⟨p1, p2⟩ := p
        simp only at q1 q2 X1 X2 BL PC S1
        clear x1 x2 bl BA hp
        go_wp2_with fail
        generalize wr.alloc (.cells #[.int .i64 p1, .int .i64 p2] 32) = W1 at *
        obtain ⟨A, hA⟩ : ∃ A, wr.heap.size = A := ⟨_, rfl⟩
        rw [hA] at hlt1 hlt2 hsz PC ⊢
        clear hA
        refine (set_any X1.out p1 p2).mono ?_
        rintro e w3 ⟨rfl, m3, k3⟩
        have M3 : Hid (MW w3 (N + 2) (N + 1) N m (sets m no (l.take (j + 1)))) := by rw [S1.out]; exact m3
        have M4 := Mx.hide (X2.out.kb k3 (by omega) (by omega) (by omega))
        have PC3 := Mx.hide (k3.heap PC.out (by omega))
        have B3 : Hid (Below N w w3) := bel_kb BL.out k3 (by have := Ba.heap_lt PC.out; omega) (by omega)
        have d0 : w3.cell? ⟨A, 0, none⟩ = some (.int .i64 p1) := by rw [Ba.cell_of PC3.out]; rfl
        have d1 : w3.cell? ⟨A, 1, none⟩ = some (.int .i64 p2) := by rw [Ba.cell_of PC3.out]; rfl
        clear m3 k3 X1 X2 BL PC
        go_wp2_with fail
        refine (set_any M4.out p1 p2).mono ?_
        rintro e w4 ⟨rfl, m4, k4⟩
        have M5 : Hid (MW w4 (N2 + 2) (N2 + 1) N2 m (sets m no (l.take (j + 1)))) := by rw [S1.out]; exact m4
        have M6 := Mx.hide (M3.out.kb k4 (by omega) (by omega) (by omega))
        have B4 : Hid (Below N w w4) := bel_kb B3.out k4 (by have := Ba.heap_lt PC3.out; omega) (by omega)
        clear m4 k4 M3 M4 B3 PC3 d0 d1
        go_wp2_with fail
        go_roundw
        case rel => exact ⟨j + 1, by omega, by go_num, M6.out, M5.out, B4.out⟩
        case measure => simp [intOf]; omega
      · have hlt' : ¬ ((j : Int) < (l.length : Int)) := by omega
        have ej : l.take j = l := List.take_of_length_le (by omega)
        rw [ej] at x1 x2
        have M1' := Mx.hide x1
        have M2 := Mx.hide x2
        have B2 := Mx.hide bl
        clear x1 x2 bl ej
        go_wp2_with fail
        clear hlt hlt' hj
        rename World => w9
        go_loopw [83] (fun s wr => ∃ j : Nat, j ≤ l2.length ∧ s = .int .i64 (j : Int) ∧ MW wr (N + 2) (N + 1) N m (sets m no l) ∧ MW wr (N2 + 2) (N2 + 1) N2 m (sets m (sets m no l) (l2.take j)) ∧ Below N w wr) (fun s _ => l2.length - (intOf s).toNat)
        case atStart => exact ⟨0, Nat.zero_le _, rfl, M1'.out, M2.out, B2.out⟩
        case round =>
          obtain ⟨j, hj, rfl, x1, x2, bl⟩ := hrel
          clear M1' M2 B2
          by_cases hlt : j < l2.length
          · have hlt' : (j : Int) < (l2.length : Int) := by omega
            obtain ⟨p, hp⟩ := pair_lt hlt
            obtain ⟨b, off, rfl, q1, q2⟩ := PB.out.below (by rw [HN.out]; exact bl) j p hp
            have BA := Ba.below_alloc wr (.cells #[.int .i64 p.1, .int .i64 p.2] 32)
            have hsz : N ≤ wr.heap.size := by have := bl.size; rw [HN.out] at this; exact this
            have hlt1 := x1.cell_lt
            have hlt2 := x2.cell_lt
            have X1 := Mx.hide (x1.below BA)
            have X2 := Mx.hide (x2.below BA)
            have BL : Hid (Below N w (wr.alloc (.cells #[.int .i64 p.1, .int .i64 p.2] 32))) := bl.trans (BA.mono hsz)
            have PC := Mx.hide (Ba.heap_new wr (.cells #[.int .i64 p.1, .int .i64 p.2] 32))
            have S1 := Mx.hide (sets_take (n := m) (r := sets m no l) hp)
            obtain ⟨p1, p2⟩ := p
            simp only at q1 q2 X1 X2 BL PC S1
            clear x1 x2 bl BA hp
            go_wp2_with fail
            generalize wr.alloc (.cells #[.int .i64 p1, .int .i64 p2] 32) = W1 at *
            obtain ⟨A, hA⟩ : ∃ A, wr.heap.size = A := ⟨_, rfl⟩
            rw [hA] at hlt1 hlt2 hsz PC ⊢
            clear hA
            refine (set_any X2.out p1 p2).mono ?_
            rintro e w4 ⟨rfl, m4, k4⟩
            have M5 : Hid (MW w4 (N2 + 2) (N2 + 1) N2 m (sets m (sets m no l) (l2.take (j + 1)))) := by rw [S1.out]; exact m4
            have M6 := Mx.hide (X1.out.kb k4 (by omega) (by omega) (by omega))
            have B4 : Hid (Below N w w4) := bel_kb BL.out k4 (by have := Ba.heap_lt PC.out; omega) (by omega)
            clear m4 k4 X1 X2 BL PC
            go_wp2_with fail
            go_roundw
            case rel => exact ⟨j + 1, by omega, by go_num, M6.out, M5.out, B4.out⟩
            case measure => simp [intOf]; omega
          · have hlt' : ¬ ((j : Int) < (l2.length : Int)) := by omega
            have ej : l2.take j = l2 := List.take_of_length_le (by omega)
            rw [ej] at x2
            have X1 := Mx.hide x1
            have X2 := Mx.hide x2
            have BL := Mx.hide bl
            clear x1 x2 bl ej PB
            go_wp2_with fail
            clear hlt hlt' hj
            refine (close_any X1.out).mono ?_
            rintro e w3 ⟨rfl, m3, k3⟩
            have M3 := Mx.hide m3
            have M4 := Mx.hide (X2.out.kb k3 (by omega) (by omega) (by omega))
            have B3 : Hid (Below N w w3) := bel_kb BL.out k3 (by have := X1.out.cell_lt; omega) (by omega)
            clear m3 k3 X1 X2 BL
            go_wp2_with fail
            refine (close_any M4.out).mono ?_
            rintro e w4 ⟨rfl, m4, k4⟩
            have M5 := Mx.hide m4
            have M6 := Mx.hide (M3.out.kb k4 (by omega) (by omega) (by omega))
            have B4 : Hid (Below N w w4) := bel_kb B3.out k4 (by have := M3.out.cell_lt; omega) (by omega)
            have IN := Mx.hide (fun (j : Nat) (p : Int × Int) (h : l[j]? = some p) (hb : inB m p.1 p.2 = true) => sets_in m l h hb)
            have LE : Hid (∀ i k, i < m → k < m → Mx.hs (clo (sets m no l) m) i k = true → Mx.hs (clo (sets m (sets m no l) l2) m) i k = true) := fun i k hi hk h => clo_mono _ _ m (fun a b ha hb e => sets_more m l l2 a b ha hb e) i k hi hk h
            have TR := Mx.hide (clo_tr (sets m no l) m)
            have CC := Mx.hide (total_congr (m := m) (n := m) (fun i k hi hk => clo_clo (sets m no l) m i k hi hk))
            clear m4 k4 M3 M4 B3
            generalize clo (sets m no l) m = r1 at *
            generalize clo (sets m (sets m no l) l2) m = r2 at *
            go_wp2_with fail
            rename World => w8
            go_loopw [100] (fun s wr => ∃ j : Nat, j ≤ l.length ∧ s = .int .i64 (j : Int) ∧ MW wr (N + 2) (N + 1) N m r1 ∧ MW wr (N2 + 2) (N2 + 1) N2 m r2 ∧ Below N w wr) (fun s _ => l.length - (intOf s).toNat)
            case atStart => exact ⟨0, Nat.zero_le _, rfl, M6.out, M5.out, B4.out⟩
            case round =>
              obtain ⟨j, hj, rfl, x1, x2, bl⟩ := hrel
              clear M5 M6 B4
              by_cases hlt : j < l.length
              · have hlt' : (j : Int) < (l.length : Int) := by omega
                obtain ⟨p, hp⟩ := pair_lt hlt
                obtain ⟨b, off, rfl, q1, q2⟩ := PA.out.below (by rw [HN.out]; exact bl) j p hp
                have BA := Ba.below_alloc wr (.cells #[.int .i64 p.1, .int .i64 p.2] 32)
                have hsz : N ≤ wr.heap.size := by have := bl.size; rw [HN.out] at this; exact this
                have hlt1 := x1.cell_lt
                have hlt2 := x2.cell_lt
                have X1 := Mx.hide (x1.below BA)
                have X2 := Mx.hide (x2.below BA)
                have BL : Hid (Below N w (wr.alloc (.cells #[.int .i64 p.1, .int .i64 p.2] 32))) := bl.trans (BA.mono hsz)
                have PC := Mx.hide (Ba.heap_new wr (.cells #[.int .i64 p.1, .int .i64 p.2] 32))
                have I1 := Mx.hide (IN.out j p hp)
                obtain ⟨p1, p2⟩ := p
                simp only at q1 q2 X1 X2 BL PC I1
                have HA := Mx.hide (has_any X1.out p1 p2)
                clear x1 x2 bl BA hp
                cases hb : inB m p1 p2
                · have hd : ∃ a b c d : Bool, decide (0 ≤ p1) = a ∧ decide (p1 < (m : Int)) = b ∧ decide (0 ≤ p2) = c ∧ decide (p2 < (m : Int)) = d ∧ (a && c && b && d) = false := ⟨_, _, _, _, rfl, rfl, rfl, rfl, hb⟩
                  obtain ⟨a, b', c', d', e1, e2, e3, e4, e5⟩ := hd
                  clear hb HA I1
                  cases a <;> cases b' <;> cases c' <;> cases d'
                  all_goals
                    first
                    | (exfalso; revert e5; decide)
                    | (clear e5
                       go_wp2_with fail
                       go_roundw
                       case rel => exact ⟨j + 1, by omega, by go_num, X1.out, X2.out, BL.out⟩
                       case measure => simp [intOf]; omega)
                · rw [I1.out hb] at HA
                  have hq := (inB_iff m p1 p2).1 hb
                  have e1 : decide (0 ≤ p1) = true := by simpa using hq.1
                  have e2 : decide (p1 < (m : Int)) = true := by simpa using hq.2.2.1
                  have e3 : decide (0 ≤ p2) = true := by simpa using hq.2.1
                  have e4 : decide (p2 < (m : Int)) = true := by simpa using hq.2.2.2
                  clear hb I1 hq
                  go_wp2_with fail
                  refine HA.out.mono ?_
                  rintro e w5 ⟨rfl, q5, e5⟩
                  have X3 : Hid (MW w5 (N + 2) (N + 1) N m r1) := by rw [e5]; exact X1.out.drw q5
                  have X4 : Hid (MW w5 (N2 + 2) (N2 + 1) N2 m r2) := by rw [e5]; exact X2.out.drw q5
                  have B5 : Hid (Below N w w5) := by rw [e5]; exact bel_drw BL.out (by have := X1.out.cell_lt; omega) q5
                  clear e5 X1 X2 BL HA PC
                  go_wp2_with fail
                  go_roundw
                  case rel => exact ⟨j + 1, by omega, by go_num, X3.out, X4.out, B5.out⟩
                  case measure => simp [intOf]; omega
              · have hlt' : ¬ ((j : Int) < (l.length : Int)) := by omega
                have M6 := Mx.hide x1
                have M5 := Mx.hide x2
                have B4 := Mx.hide bl
                clear x1 x2 bl PA IN
                go_wp2_with fail
                clear hlt hlt' hj
                rename World => w7
                go_loopw [17] (fun s wr => ∃ i : Nat, i ≤ m ∧ s = .int .i64 (i : Int) ∧ MW wr (N + 2) (N + 1) N m r1 ∧ MW wr (N2 + 2) (N2 + 1) N2 m r2 ∧ Below N w wr) (fun s _ => m - (intOf s).toNat)
                case atStart => exact ⟨0, Nat.zero_le _, rfl, M6.out, M5.out, B4.out⟩
                case round =>
                  obtain ⟨i, hi, rfl, x1, x2, bl⟩ := hrel
                  have X1 := Mx.hide x1
                  have X2 := Mx.hide x2
                  have BL := Mx.hide bl
                  clear x1 x2 bl M5 M6 B4
                  by_cases hlti : i < m
                  · have hlti' : (i : Int) < (m : Int) := by omega
                    go_wp2_with fail
                    rename World => w6
                    go_loopw [18] (fun s wr => ∃ j : Nat, j ≤ m ∧ s = .int .i64 (j : Int) ∧ MW wr (N + 2) (N + 1) N m r1 ∧ MW wr (N2 + 2) (N2 + 1) N2 m r2 ∧ Below N w wr) (fun s _ => m - (intOf s).toNat)
                    case atStart => exact ⟨0, Nat.zero_le _, rfl, X1.out, X2.out, BL.out⟩
                    case round =>
                      obtain ⟨j, hj, rfl, x1, x2, bl⟩ := hrel
                      clear X1 X2 BL
                      by_cases hltj : j < m
                      · have hltj' : (j : Int) < (m : Int) := by omega
                        have H1 := Mx.hide (has_in x1 i j hlti hltj)
                        have H2 := Mx.hide (fun q => has_in (x2.drw q) i j hlti hltj)
                        have LZ := LE.out i j hlti hltj
                        have key : Hid (∀ w5 : World, MW w5 (N + 2) (N + 1) N m r1 → MW w5 (N2 + 2) (N2 + 1) N2 m r2 → Below N w w5 → True) := fun _ _ _ _ => trivial
                        have X1 := Mx.hide x1
                        have X2 := Mx.hide x2
                        have BL := Mx.hide bl
                        have TJ := Mx.hide (fun k hk => TR.out i j k hlti hltj hk)
                        clear x1 x2 bl key
                        generalize hz1 : Mx.hs r1 i j = z1 at *
                        generalize hz2 : Mx.hs r2 i j = z2 at *
                        have HZ1 := Mx.hide hz1
                        clear hz1 hz2
                        cases z1
                        · clear LZ
                          go_wp2_with fail
                          refine H1.out.mono ?_
                          rintro e w5 ⟨rfl, q5, e5⟩
                          have M6 : Hid (MW w5 (N + 2) (N + 1) N m r1) := by rw [e5]; exact X1.out.drw q5
                          have M5 : Hid (MW w5 (N2 + 2) (N2 + 1) N2 m r2) := by rw [e5]; exact X2.out.drw q5
                          have B4 : Hid (Below N w w5) := by rw [e5]; exact bel_drw BL.out (by have := X1.out.cell_lt; omega) q5
                          clear e5 X1 X2 BL H1 H2
                          go_wp2_with fail
                          rename World => wx
                          go_loopw [19] (fun s wr => ∃ k : Nat, k ≤ m ∧ s = .int .i64 (k : Int) ∧ MW wr (N + 2) (N + 1) N m r1 ∧ MW wr (N2 + 2) (N2 + 1) N2 m r2 ∧ Below N w wr) (fun s _ => m - (intOf s).toNat)
                          case atStart => exact ⟨0, Nat.zero_le _, rfl, M6.out, M5.out, B4.out⟩
                          case round =>
                            obtain ⟨k, hk, rfl, x1, x2, bl⟩ := hrel
                            clear M6 M5 B4
                            by_cases hltk : k < m
                            · have hltk' : (k : Int) < (m : Int) := by omega
                              have G1 := Mx.hide (has_in x1 i j hlti hltj)
                              rw [HZ1.out] at G1
                              have G2 := Mx.hide (fun q => has_in (x1.drw q) j k hltj hltk)
                              have G3 := Mx.hide (fun q => has_in (x1.drw q) i k hlti hltk)
                              have TT := TJ.out k hltk
                              have X1 := Mx.hide x1
                              have X2 := Mx.hide x2
                              have BL := Mx.hide bl
                              clear x1 x2 bl
                              generalize Mx.hs r1 j k = y1 at *
                              generalize Mx.hs r1 i k = y2 at *
                              go_wp2_with fail
                              refine G1.out.mono ?_
                              rintro e w5 ⟨rfl, q5, e5⟩
                              have X3 : Hid (MW w5 (N + 2) (N + 1) N m r1) := by rw [e5]; exact X1.out.drw q5
                              have X4 : Hid (MW w5 (N2 + 2) (N2 + 1) N2 m r2) := by rw [e5]; exact X2.out.drw q5
                              have B5 : Hid (Below N w w5) := by rw [e5]; exact bel_drw BL.out (by have := X1.out.cell_lt; omega) q5
                              clear e5 X1 X2 BL G1 G2 G3 TT
                              go_wp2_with fail
                              go_roundw
                              case rel => exact ⟨k + 1, by omega, by go_num, X3.out, X4.out, B5.out⟩
                              case measure => simp [intOf]; omega
                            · have hltk' : ¬ ((k : Int) < (m : Int)) := by omega
                              have X1 := Mx.hide x1
                              have X2 := Mx.hide x2
                              have BL := Mx.hide bl
                              clear x1 x2 bl
                              go_wp2_with fail
                              go_roundw
                              case rel => exact ⟨j + 1, by omega, by go_num, X1.out, X2.out, BL.out⟩
                              case measure => simp [intOf]; omega
                        · have hz2 : z2 = true := LZ rfl
                          subst hz2
                          clear LZ
                          go_wp2_with fail
                          refine H1.out.mono ?_
                          rintro e w4 ⟨rfl, q4, rfl⟩
                          go_wp2_with fail
                          refine (H2.out q4).mono ?_
                          rintro e w5 ⟨rfl, q5, e5⟩
                          have M6 : Hid (MW w5 (N + 2) (N + 1) N m r1) := by rw [e5]; exact (X1.out.drw q4).drw q5
                          have M5 : Hid (MW w5 (N2 + 2) (N2 + 1) N2 m r2) := by rw [e5]; exact (X2.out.drw q4).drw q5
                          have B4 : Hid (Below N w w5) := by rw [e5]; exact bel_drw (bel_drw BL.out (by have := X1.out.cell_lt; omega) q4) (by have := (X1.out.drw q4).cell_lt; omega) q5
                          clear e5 X1 X2 BL H1 H2
                          go_wp2_with fail
                          rename World => wx
                          go_loopw [19] (fun s wr => ∃ k : Nat, k ≤ m ∧ s = .int .i64 (k : Int) ∧ MW wr (N + 2) (N + 1) N m r1 ∧ MW wr (N2 + 2) (N2 + 1) N2 m r2 ∧ Below N w wr) (fun s _ => m - (intOf s).toNat)
                          case atStart => exact ⟨0, Nat.zero_le _, rfl, M6.out, M5.out, B4.out⟩
                          case round =>
                            obtain ⟨k, hk, rfl, x1, x2, bl⟩ := hrel
                            clear M6 M5 B4
                            by_cases hltk : k < m
                            · have hltk' : (k : Int) < (m : Int) := by omega
                              have G1 := Mx.hide (has_in x1 i j hlti hltj)
                              rw [HZ1.out] at G1
                              have G2 := Mx.hide (fun q => has_in (x1.drw q) j k hltj hltk)
                              have G3 := Mx.hide (fun q => has_in (x1.drw q) i k hlti hltk)
                              have TT := TJ.out k hltk
                              have X1 := Mx.hide x1
                              have X2 := Mx.hide x2
                              have BL := Mx.hide bl
                              clear x1 x2 bl
                              generalize Mx.hs r1 j k = y1 at *
                              generalize Mx.hs r1 i k = y2 at *
                              cases y1
                              · clear TT
                                go_wp2_with fail
                                refine G1.out.mono ?_
                                rintro e w4 ⟨rfl, q4, rfl⟩
                                go_wp2_with fail
                                refine (G2.out q4).mono ?_
                                rintro e w5 ⟨rfl, q5, e5⟩
                                have X3 : Hid (MW w5 (N + 2) (N + 1) N m r1) := by rw [e5]; exact (X1.out.drw q4).drw q5
                                have X4 : Hid (MW w5 (N2 + 2) (N2 + 1) N2 m r2) := by rw [e5]; exact (X2.out.drw q4).drw q5
                                have B5 : Hid (Below N w w5) := by rw [e5]; exact bel_drw (bel_drw BL.out (by have := X1.out.cell_lt; omega) q4) (by have := (X1.out.drw q4).cell_lt; omega) q5
                                clear e5 X1 X2 BL G1 G2 G3
                                go_wp2_with fail
                                go_roundw
                                case rel => exact ⟨k + 1, by omega, by go_num, X3.out, X4.out, B5.out⟩
                                case measure => simp [intOf]; omega
                              · have hy : y2 = true := by simpa using TT
                                subst hy
                                clear TT
                                go_wp2_with fail
                                refine G1.out.mono ?_
                                rintro e w4 ⟨rfl, q4, rfl⟩
                                go_wp2_with fail
                                refine (G2.out q4).mono ?_
                                rintro e w5 ⟨rfl, q5, rfl⟩
                                go_wp2_with fail
                                refine (G3.out (q4 + q5)).mono ?_
                                rintro e w6 ⟨rfl, q6, e6⟩
                                have X3 : Hid (MW w6 (N + 2) (N + 1) N m r1) := by rw [e6]; exact (X1.out.drw (q4 + q5)).drw q6
                                have X4 : Hid (MW w6 (N2 + 2) (N2 + 1) N2 m r2) := by rw [e6]; exact (X2.out.drw (q4 + q5)).drw q6
                                have B5 : Hid (Below N w w6) := by rw [e6]; exact bel_drw (bel_drw BL.out (by have := X1.out.cell_lt; omega) (q4 + q5)) (by have := (X1.out.drw (q4 + q5)).cell_lt; omega) q6
                                clear e6 X1 X2 BL G1 G2 G3
                                go_wp2_with fail
                                go_roundw
                                case rel => exact ⟨k + 1, by omega, by go_num, X3.out, X4.out, B5.out⟩
                                case measure => simp [intOf]; omega
                            · have hltk' : ¬ ((k : Int) < (m : Int)) := by omega
                              have X1 := Mx.hide x1
                              have X2 := Mx.hide x2
                              have BL := Mx.hide bl
                              clear x1 x2 bl
                              go_wp2_with fail
                              go_roundw
                              case rel => exact ⟨j + 1, by omega, by go_num, X1.out, X2.out, BL.out⟩
                              case measure => simp [intOf]; omega
                      · have hltj' : ¬ ((j : Int) < (m : Int)) := by omega
                        have X1 := Mx.hide x1
                        have X2 := Mx.hide x2
                        have BL := Mx.hide bl
                        clear x1 x2 bl
                        go_wp2_with fail
                        go_roundw
                        case rel => exact ⟨i + 1, by omega, by go_num, X1.out, X2.out, BL.out⟩
                        case measure => simp [intOf]; omega
                  · have hlti' : ¬ ((i : Int) < (m : Int)) := by omega
                    have C1 := Mx.hide (count_any X1.out)
                    have CL := Mx.hide (close_any X1.out)
                    go_wp2_with fail
                    refine C1.out.mono ?_
                    rintro e w5 ⟨rfl, rfl⟩
                    go_wp2_with fail
                    refine CL.out.mono ?_
                    rintro e w6 ⟨rfl, m6, k6⟩
                    have C2 := Mx.hide (count_any m6)
                    rw [CC.out] at C2
                    have B6 : Hid (Below N w w6) := bel_kb BL.out k6 (by have := X1.out.cell_lt; omega) (by omega)
                    have hl6 := m6.cell_lt
                    clear m6 k6
                    generalize total r1 m m = T at *
                    go_wp2_with fail
                    refine C2.out.mono ?_
                    rintro e w7 ⟨rfl, rfl⟩
                    go_wp2_with fail
                    refine (three_any _).mono ?_
                    rintro e w8 ⟨rfl, b8⟩
                    have B8 : Hid (Below N w w8) := B6.out.trans (b8.mono (by omega))
                    clear b8
                    go_wp2_with fail
                    go_ret
                    exact ⟨rfl, B8.out⟩

/-! ### the row -/
set_option maxRecDepth 100000 in
theorem lifted (os : Os) (started : os.Started) (H : Type) (enc : TypeId × Value → H) :
    ReturnsInHanded {} Try.checked os 5 .any (Rows.matrixLeastSpec.pre6 enc Try.prog Try.f5 Rows.matrixLeastRow.domain false) (Rows.matrixLeastSpec.post enc Try.prog Try.f5 false true false false) := by
  refine returnsInHanded_of_change (C := Try.checked) own started (by kernel_rfl) Try.func5
    (ChangeSpec.witness6 (enc := enc) (C := Try.checked) false ⟨#[], #[.int .i64 0, .slice none 0 0, .slice none 0 0], []⟩ 8 (by kernel_rfl) (by kernel_rfl) (by kernel_rfl) (by kernel_rfl)) ?_
  intro W base args ds gs before hval0 hW hcnd _
  have hval : ∀ (j : Nat) t v, Try.f5.params[j]? = some t → args[j]? = some v → Value.okWide Try.prog W .any base t v := hval0
  have hW' := hW
  obtain ⟨p, q, hA0, hV, rfl, hfz, hnd⟩ := hW
  have hA : DataW.TrodAll enc Try.prog W 0 (fun _ => true) true Try.f5.params.toList args.toList ds p := hA0
  rw [Try.params5] at hA hval
  obtain ⟨v0, vs0, d0, ds0, p0, q0, hargs, rfl, rfl, h0, r0⟩ := trodAll_cons hA
  obtain ⟨v1, vs1, d1, ds1, p1, q1, rfl, rfl, rfl, h1, r1⟩ := trodAll_cons r0
  obtain ⟨v2, vs2, d2, ds2, p2, q2, rfl, rfl, rfl, h2, r2⟩ := trodAll_cons r1
  obtain ⟨rfl, rfl, rfl⟩ := trodAll_nil r2
  obtain rfl : args = #[v0, v1, v2] := by cases args; simp_all
  obtain ⟨rfl, rfl⟩ := trodVars_none hV
  obtain ⟨a0, rfl, rfl, rfl, w0⟩ := open_int Try.underlying3 (hval 0 3 v0 rfl rfl) h0
  obtain ⟨oa1, n1, c1, rfl⟩ := okWide_slice Try.underlying22 (hval 1 22 v1 rfl rfl)
  have k1 := h1
  have lt1 : ∀ x ∈ p1, x.block < W.heap.size := by obtain ⟨m, hm⟩ := k1; exact DataW.trod_lt m _ _ _ hm
  obtain ⟨l1, rfl, A1, C1, M1⟩ := h1.elim fun _ hf => pairs_open hf
  obtain ⟨oa2, n2, c2, rfl⟩ := okWide_slice Try.underlying22 (hval 2 22 v2 rfl rfl)
  have k2 := h2
  have lt2 : ∀ x ∈ p2, x.block < W.heap.size := by obtain ⟨m, hm⟩ := k2; exact DataW.trod_lt m _ _ _ hm
  obtain ⟨l2, rfl, A2, C2, M2⟩ := h2.elim fun _ hf => pairs_open hf
  clear hA0 hval0
  refine (core (w := W) a0 oa1 l1 c1 A1 (Nat.le_trans C1 M1) oa2 l2 c2 A2 (Nat.le_trans C2 M2)).mono fun e W' ⟨he, bel⟩ => ?_
  subst he
  exact ⟨_, rfl, _, _, _, [], _, [], hW', trodAll_mk1 (shut_bool Try.underlying4 _), (trodAll_cons_mk (shut_int Try.underlying3 w0) (trodAll_cons_mk (Below.trod laidOut (by kernel_rfl) (of_decide_eq_true (by kernel_rfl)) k1 bel lt1) (trodAll_cons_mk (Below.trod laidOut (by kernel_rfl) (of_decide_eq_true (by kernel_rfl)) k2 bel lt2) trodAll_mk0))), rfl, bel.frame _, fun h => by cases h⟩

theorem over : Rows.matrixLeastRow.holds Try.pinned (OpenSpec.ofChange Rows.matrixLeastSpec) :=
  OpenClaim.holds_of_wide 5 Try.f5 rfl rfl rfl rfl rfl rfl rfl ⟨rfl, rfl, rfl, rfl, rfl⟩ rfl rfl rfl rfl rfl (by kernel_rfl) Try.func5 (by kernel_rfl)
    (of_decide_eq_true (by kernel_rfl)) (by unfold Func.isWrapper; first | (rw [if_pos (by decide +kernel)]; kernel_rfl) | (rw [if_neg (by decide +kernel)]; exact ⟨rfl, rfl⟩))
    (fun os started H enc _ => lifted os started H enc)

/-- the statement -/
theorem proved : Rows.MatrixLeastSaid := over
#print axioms proved
end Go.Proofs.Ytdfjcmlafhannaa.matrixLeast
