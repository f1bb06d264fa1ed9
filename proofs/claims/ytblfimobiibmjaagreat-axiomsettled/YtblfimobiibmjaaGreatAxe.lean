/- The reference of layer 26: First; over this seat's program (gen/mkaxe.py writes this text). -/
import Derived.Test.YtblfimobiibmjaaGreatZjAh19
import Derived.Test.YtblfimobiibmjaaGreatAxd
namespace Go.Proofs.YtblfimobiibmjaaGreat
open Go.ChangeShapes Go.WideShapes Go.ChangeAt Go.RowKit
namespace Ax
open En Gu Eg Ba

/-- does the j'th event, ahead of the k'th, complete a race with it? -/
def hit1 (A : Nat → Nat → Bool) (l : List Ev) (cell : Int) (j k : Nat) : Bool := isAcc l cell j && isAcc l cell k && raceF A l j k
theorem at_hit {A : Nat → Nat → Bool} {l : List Ev} {cell : Int} {k : Nat} (h : ∀ j, j < k → hit1 A l cell j k = false) : atF A l cell k = false := by
  rw [at_acc]
  cases q : isAcc l cell k
  · rfl
  · rw [Bool.true_and, List.any_eq_false]
    intro j hj
    have hm := hj
    unfold accL at hm
    rw [List.mem_filter, List.mem_range] at hm
    have := h j hm.1
    unfold hit1 at this
    rw [hm.2, q] at this
    simpa using this
theorem at_hit1 {A : Nat → Nat → Bool} {l : List Ev} {cell : Int} {j k : Nat} (hj : j < k) (h : hit1 A l cell j k = true) : atF A l cell k = true := by
  unfold hit1 at h
  simp only [Bool.and_eq_true] at h
  rw [at_acc, h.1.2, Bool.true_and, List.any_eq_true]
  exact ⟨j, by unfold accL; rw [List.mem_filter, List.mem_range]; exact ⟨hj, h.1.1⟩, h.2⟩
def rfi (o : Option Nat) : Int := match o with
  | some a => (a : Int)
  | none => -1
set_option maxRecDepth 100000 in
set_option maxHeartbeats 25600000 in
theorem rfirst_any (w : World) (N G : Nat) (oa : Option Addr) (l : List Ev) (c : Nat) (cell : Int) (T : TR w N G oa l) (hl : l.length ≤ 100) (hc : l.length ≤ c) :
    Calls Tryz.prog 28 #[(.agg #[.slice oa l.length c, .pointer (some ⟨G, 0, none⟩)]), .int .i64 cell] w fun r w' => r = .returned (.int .i64 (rfi (firF (hA l) l cell l.length))) ∧ Below w.heap.size w w' := by
  have HE := hide T.es
  have HH := hide (fun (i k : Nat) (hi : i < l.length) (hk : k < l.length) (u : World) (bb : Below w.heap.size w u) => (T.below bb).has hi hk)
  obtain ⟨n, hn⟩ : ∃ n, l.length = n := ⟨_, rfl⟩
  have HN := hide hn
  rw [hn] at hl hc HH ⊢
  have BX := hide (below_alloc w (.cells #[.slice oa n c, .pointer (some ⟨G, 0, none⟩)] 44))
  have X0 := hide (heap_new w (.cells #[.slice oa n c, .pointer (some ⟨G, 0, none⟩)] 44))
  generalize hW : w.alloc (.cells #[.slice oa n c, .pointer (some ⟨G, 0, none⟩)] 44) = W at *
  have t0 := cell_of X0.out 0
  simp at t0
  clear T hn
  go_enter Tryz.func28, Tryz.ntmps28
  go_wp2_with fail
  clear hW t0
  go_loopw [13] (fun iv wr => ∃ k : Nat, k ≤ n ∧ iv = .int .i64 (k : Int) ∧ Below W.heap.size W wr ∧ firF (hA l) l cell k = none) (fun iv _ => n - (intOf iv).toNat)
  case atStart => exact ⟨0, by omega, rfl, Below.refl _ _, rfl⟩
  case round =>
    obtain ⟨k, hk, rfl, bl, nk⟩ := hrel
    have BL := hide bl
    have NK := hide nk
    by_cases hlt : k < n
    · have hlt' : (k : Int) < (n : Int) := by omega
      have k0 : (0 : Int) ≤ (k : Int) := by omega
      have k1 : (k : Int) ≤ (c : Int) := by omega
      obtain ⟨y, hy⟩ : ∃ y, l[k]? = some y := get_lt (by rw [HN.out]; exact hlt)
      have E2 := hide (HE.out.below (btr BX.out bl))
      obtain ⟨b1, o1, rfl, -⟩ := E2.out k y hy
      obtain ⟨p0, p1, p2, p3, p4, p5, p6, p7⟩ := E2.out.read hy
      have HY := hide hy
      clear bl hy nk
      go_upto_region 4 with fail
      have Y0 := hide (heap_new wr (.cells #[.int .i64 y.k, .int .i64 y.g, .int .i64 y.c, .int .i64 y.a, .int .i64 y.v, .int .i64 y.m, .bool y.s, .bool y.o] 50))
      have BY := hide (btr BL.out (below_alloc wr (.cells #[.int .i64 y.k, .int .i64 y.g, .int .i64 y.c, .int .i64 y.a, .int .i64 y.v, .int .i64 y.m, .bool y.s, .bool y.o] 50)))
      obtain ⟨w2, hw2⟩ : ∃ u, wr.alloc (.cells #[.int .i64 y.k, .int .i64 y.g, .int .i64 y.c, .int .i64 y.a, .int .i64 y.v, .int .i64 y.m, .bool y.s, .bool y.o] 50) = u := ⟨_, rfl⟩
      rw [hw2] at Y0 BY ⊢
      obtain ⟨B, hBB⟩ : ∃ B, wr.heap.size = B := ⟨_, rfl⟩
      rw [hBB] at Y0 ⊢
      clear hw2 p0 p1 p2 p3 p4 p5 p6 p7 hBB E2
      have t0 := cell_of (heap_below X0.out BY.out) 0
      simp at t0
      go_wp2_with fail
      clear t0
      go_loopw [23] (fun iv w6 => ∃ j : Nat, j ≤ k ∧ iv = .int .i64 (j : Int) ∧ Below W.heap.size W w6 ∧ w6.heap[B]? = some ((.cells #[.int .i64 y.k, .int .i64 y.g, .int .i64 y.c, .int .i64 y.a, .int .i64 y.v, .int .i64 y.m, .bool y.s, .bool y.o] 50) : Obj) ∧ ∀ i, i < j → hit1 (hA l) l cell i k = false) (fun iv _ => k - (intOf iv).toNat)
      case atStart => exact ⟨0, by omega, rfl, BY.out, Y0.out, fun i h => by omega⟩
      case round =>
        rename World => w6
        obtain ⟨j, hj, rfl, b6, y6, no⟩ := hrel
        have B6 := hide b6
        have Y6 := hide y6
        have NO := hide no
        by_cases hlj : j < k
        · have hlj' : (j : Int) < (k : Int) := by omega
          obtain ⟨x, hx⟩ : ∃ x, l[j]? = some x := get_lt (by rw [HN.out]; omega)
          have E6 := hide (HE.out.below (btr BX.out b6))
          obtain ⟨p0, p1, p2, p3, p4, p5, p6, p7⟩ := E6.out.read hx
          have HI : Hid (hit1 (hA l) l cell j k = (((x.k == 9 || x.k == 10) && x.v == cell) && ((y.k == 9 || y.k == 10) && y.v == cell) && ((x.k == 10 || y.k == 10) && (x.g != y.g) && !hA l j k && !hA l k j))) := by
            show _ = _
            unfold hit1 isAcc raceF acc
            rw [hx, HY.out]
            have d : ∀ a b : Int, decide (a = b) = (a == b) := fun a b => by rw [Bool.eq_iff_iff]; simp
            have d2 : ∀ a b : Int, decide (a ≠ b) = (a != b) := fun a b => by rw [Bool.eq_iff_iff]; simp
            simp only [d, d2]
          have FA : Hid ((((x.k == 9 || x.k == 10) && x.v == cell) && ((y.k == 9 || y.k == 10) && y.v == cell) && ((x.k == 10 || y.k == 10) && (x.g != y.g) && !hA l j k && !hA l k j)) = false → hit1 (hA l) l cell j k = false) := fun h => HI.out.trans h
          have FT : Hid ((((x.k == 9 || x.k == 10) && x.v == cell) && ((y.k == 9 || y.k == 10) && y.v == cell)) = true → ((x.k == 10 || y.k == 10) && (x.g != y.g) && !hA l j k && !hA l k j) = true → firF (hA l) l cell n = some k) := by
            intro h1 h2
            have h3 := at_hit1 hlj (HI.out.trans (by rw [h1, h2]; rfl))
            have h4 : firF (hA l) l cell (k + 1) = some k := by rw [fir_succ, NK.out, h3]; rfl
            have := fir_more h4 (n - (k + 1))
            rwa [show k + 1 + (n - (k + 1)) = n by omega] at this
          clear b6 y6 no hx HI
          go_upto_region 7 with fail
          have X1 := hide (heap_new w6 (.cells #[.int .i64 x.k, .int .i64 x.g, .int .i64 x.c, .int .i64 x.a, .int .i64 x.v, .int .i64 x.m, .bool x.s, .bool x.o] 50))
          have B7 := hide (btr B6.out (below_alloc w6 (.cells #[.int .i64 x.k, .int .i64 x.g, .int .i64 x.c, .int .i64 x.a, .int .i64 x.v, .int .i64 x.m, .bool x.s, .bool x.o] 50)))
          have Y7 := hide (heap_below Y6.out (below_alloc w6 (.cells #[.int .i64 x.k, .int .i64 x.g, .int .i64 x.c, .int .i64 x.a, .int .i64 x.v, .int .i64 x.m, .bool x.s, .bool x.o] 50)))
          obtain ⟨w7, hw7⟩ : ∃ u, w6.alloc (.cells #[.int .i64 x.k, .int .i64 x.g, .int .i64 x.c, .int .i64 x.a, .int .i64 x.v, .int .i64 x.m, .bool x.s, .bool x.o] 50) = u := ⟨_, rfl⟩
          rw [hw7] at X1 B7 Y7 ⊢
          obtain ⟨C, hCC⟩ : ∃ C, w6.heap.size = C := ⟨_, rfl⟩
          rw [hCC] at X1 ⊢
          clear hw7 p0 p1 p2 p3 p4 p5 p6 p7 hCC E6
          have x0 := cell_of X1.out 0
          have x1 := cell_of X1.out 1
          have x4 := cell_of X1.out 4
          have y0 := cell_of Y7.out 0
          have y1 := cell_of Y7.out 1
          have y4 := cell_of Y7.out 4
          have t1 := cell_of (heap_below X0.out B7.out) 1
          simp at x0 x1 x4 y0 y1 y4 t1
          cases ex9 : (x.k == 9)
          · cases ex10 : (x.k == 10)
            · go_wp2_with fail
              go_roundw
              case measure => simp [intOf]; omega
              case rel => exact ⟨j + 1, by omega, by simp, B7.out, Y7.out, fun i hi => (Nat.lt_succ_iff_lt_or_eq.1 hi).elim (NO.out i) fun e => by rw [e]; exact FA.out (by simp [ex9, ex10])⟩
            · cases ey9 : (y.k == 9)
              · cases ey10 : (y.k == 10)
                · go_wp2_with fail
                  go_roundw
                  case measure => simp [intOf]; omega
                  case rel => exact ⟨j + 1, by omega, by simp, B7.out, Y7.out, fun i hi => (Nat.lt_succ_iff_lt_or_eq.1 hi).elim (NO.out i) fun e => by rw [e]; exact FA.out (by simp [ey9, ey10])⟩
                · cases evx : (x.v == cell)
                  · go_wp2_with fail
                    go_roundw
                    case measure => simp [intOf]; omega
                    case rel => exact ⟨j + 1, by omega, by simp, B7.out, Y7.out, fun i hi => (Nat.lt_succ_iff_lt_or_eq.1 hi).elim (NO.out i) fun e => by rw [e]; exact FA.out (by simp [evx])⟩
                  · cases evy : (y.v == cell)
                    · go_wp2_with fail
                      go_roundw
                      case measure => simp [intOf]; omega
                      case rel => exact ⟨j + 1, by omega, by simp, B7.out, Y7.out, fun i hi => (Nat.lt_succ_iff_lt_or_eq.1 hi).elim (NO.out i) fun e => by rw [e]; exact FA.out (by simp [evy])⟩
                    · cases eg : (x.g != y.g)
                      · go_wp2_with fail
                        go_roundw
                        case measure => simp [intOf]; omega
                        case rel => exact ⟨j + 1, by omega, by simp, B7.out, Y7.out, fun i hi => (Nat.lt_succ_iff_lt_or_eq.1 hi).elim (NO.out i) fun e => by rw [e]; exact FA.out (by simp [eg])⟩
                      · have H1 := hide (HH.out j k (by omega) hlt w7 (btr BX.out B7.out))
                        obtain ⟨z1, hz1⟩ : ∃ z, hA l j k = z := ⟨_, rfl⟩
                        rw [hz1] at H1
                        cases z1 with
                        | true =>
                          go_wp2_with fail
                          refine H1.out.mono ?_
                          rintro r u ⟨rfl, rfl⟩
                          go_wp2_with fail
                          go_roundw
                          case measure => simp [intOf]; omega
                          case rel => exact ⟨j + 1, by omega, by simp, B7.out, Y7.out, fun i hi => (Nat.lt_succ_iff_lt_or_eq.1 hi).elim (NO.out i) fun e => by rw [e]; exact FA.out (by simp [hz1])⟩
                        | false =>
                          have H2 := hide (HH.out k j hlt (by omega) w7 (btr BX.out B7.out))
                          obtain ⟨z2, hz2⟩ : ∃ z, hA l k j = z := ⟨_, rfl⟩
                          rw [hz2] at H2
                          go_wp2_with fail
                          refine H1.out.mono ?_
                          rintro r u ⟨rfl, rfl⟩
                          go_wp2_with fail
                          refine H2.out.mono ?_
                          rintro r u ⟨rfl, rfl⟩
                          cases z2 with
                          | true =>
                            go_wp2_with fail
                            go_roundw
                            case measure => simp [intOf]; omega
                            case rel => exact ⟨j + 1, by omega, by simp, B7.out, Y7.out, fun i hi => (Nat.lt_succ_iff_lt_or_eq.1 hi).elim (NO.out i) fun e => by rw [e]; exact FA.out (by simp [hz2])⟩
                          | false =>
                            have RR := FT.out (by simp [ex10, ey10, evx, evy]) (by simp [eg, hz1, hz2, ex10, ey10])
                            go_wp2_with fail
                            go_ret
                            exact ⟨by rw [RR]; rfl, btr BX.out B7.out⟩
              · cases evx : (x.v == cell)
                · go_wp2_with fail
                  go_roundw
                  case measure => simp [intOf]; omega
                  case rel => exact ⟨j + 1, by omega, by simp, B7.out, Y7.out, fun i hi => (Nat.lt_succ_iff_lt_or_eq.1 hi).elim (NO.out i) fun e => by rw [e]; exact FA.out (by simp [evx])⟩
                · cases evy : (y.v == cell)
                  · go_wp2_with fail
                    go_roundw
                    case measure => simp [intOf]; omega
                    case rel => exact ⟨j + 1, by omega, by simp, B7.out, Y7.out, fun i hi => (Nat.lt_succ_iff_lt_or_eq.1 hi).elim (NO.out i) fun e => by rw [e]; exact FA.out (by simp [evy])⟩
                  · cases eg : (x.g != y.g)
                    · go_wp2_with fail
                      go_roundw
                      case measure => simp [intOf]; omega
                      case rel => exact ⟨j + 1, by omega, by simp, B7.out, Y7.out, fun i hi => (Nat.lt_succ_iff_lt_or_eq.1 hi).elim (NO.out i) fun e => by rw [e]; exact FA.out (by simp [eg])⟩
                    · have H1 := hide (HH.out j k (by omega) hlt w7 (btr BX.out B7.out))
                      obtain ⟨z1, hz1⟩ : ∃ z, hA l j k = z := ⟨_, rfl⟩
                      rw [hz1] at H1
                      cases z1 with
                      | true =>
                        go_wp2_with fail
                        refine H1.out.mono ?_
                        rintro r u ⟨rfl, rfl⟩
                        go_wp2_with fail
                        go_roundw
                        case measure => simp [intOf]; omega
                        case rel => exact ⟨j + 1, by omega, by simp, B7.out, Y7.out, fun i hi => (Nat.lt_succ_iff_lt_or_eq.1 hi).elim (NO.out i) fun e => by rw [e]; exact FA.out (by simp [hz1])⟩
                      | false =>
                        have H2 := hide (HH.out k j hlt (by omega) w7 (btr BX.out B7.out))
                        obtain ⟨z2, hz2⟩ : ∃ z, hA l k j = z := ⟨_, rfl⟩
                        rw [hz2] at H2
                        go_wp2_with fail
                        refine H1.out.mono ?_
                        rintro r u ⟨rfl, rfl⟩
                        go_wp2_with fail
                        refine H2.out.mono ?_
                        rintro r u ⟨rfl, rfl⟩
                        cases z2 with
                        | true =>
                          go_wp2_with fail
                          go_roundw
                          case measure => simp [intOf]; omega
                          case rel => exact ⟨j + 1, by omega, by simp, B7.out, Y7.out, fun i hi => (Nat.lt_succ_iff_lt_or_eq.1 hi).elim (NO.out i) fun e => by rw [e]; exact FA.out (by simp [hz2])⟩
                        | false =>
                          have RR := FT.out (by simp [ex10, ey9, evx, evy]) (by simp [eg, hz1, hz2, ex10])
                          go_wp2_with fail
                          go_ret
                          exact ⟨by rw [RR]; rfl, btr BX.out B7.out⟩
          · cases ey9 : (y.k == 9)
            · cases ey10 : (y.k == 10)
              · go_wp2_with fail
                go_roundw
                case measure => simp [intOf]; omega
                case rel => exact ⟨j + 1, by omega, by simp, B7.out, Y7.out, fun i hi => (Nat.lt_succ_iff_lt_or_eq.1 hi).elim (NO.out i) fun e => by rw [e]; exact FA.out (by simp [ey9, ey10])⟩
              · cases evx : (x.v == cell)
                · go_wp2_with fail
                  go_roundw
                  case measure => simp [intOf]; omega
                  case rel => exact ⟨j + 1, by omega, by simp, B7.out, Y7.out, fun i hi => (Nat.lt_succ_iff_lt_or_eq.1 hi).elim (NO.out i) fun e => by rw [e]; exact FA.out (by simp [evx])⟩
                · cases evy : (y.v == cell)
                  · go_wp2_with fail
                    go_roundw
                    case measure => simp [intOf]; omega
                    case rel => exact ⟨j + 1, by omega, by simp, B7.out, Y7.out, fun i hi => (Nat.lt_succ_iff_lt_or_eq.1 hi).elim (NO.out i) fun e => by rw [e]; exact FA.out (by simp [evy])⟩
                  · cases eg : (x.g != y.g)
                    · go_wp2_with fail
                      go_roundw
                      case measure => simp [intOf]; omega
                      case rel => exact ⟨j + 1, by omega, by simp, B7.out, Y7.out, fun i hi => (Nat.lt_succ_iff_lt_or_eq.1 hi).elim (NO.out i) fun e => by rw [e]; exact FA.out (by simp [eg])⟩
                    · have H1 := hide (HH.out j k (by omega) hlt w7 (btr BX.out B7.out))
                      obtain ⟨z1, hz1⟩ : ∃ z, hA l j k = z := ⟨_, rfl⟩
                      rw [hz1] at H1
                      have x10 : (x.k == 10) = false := by have := ex9; simp at this ⊢; omega
                      cases z1 with
                      | true =>
                        go_wp2_with fail
                        refine H1.out.mono ?_
                        rintro r u ⟨rfl, rfl⟩
                        go_wp2_with fail
                        go_roundw
                        case measure => simp [intOf]; omega
                        case rel => exact ⟨j + 1, by omega, by simp, B7.out, Y7.out, fun i hi => (Nat.lt_succ_iff_lt_or_eq.1 hi).elim (NO.out i) fun e => by rw [e]; exact FA.out (by simp [hz1])⟩
                      | false =>
                        have H2 := hide (HH.out k j hlt (by omega) w7 (btr BX.out B7.out))
                        obtain ⟨z2, hz2⟩ : ∃ z, hA l k j = z := ⟨_, rfl⟩
                        rw [hz2] at H2
                        go_wp2_with fail
                        refine H1.out.mono ?_
                        rintro r u ⟨rfl, rfl⟩
                        go_wp2_with fail
                        refine H2.out.mono ?_
                        rintro r u ⟨rfl, rfl⟩
                        cases z2 with
                        | true =>
                          go_wp2_with fail
                          go_roundw
                          case measure => simp [intOf]; omega
                          case rel => exact ⟨j + 1, by omega, by simp, B7.out, Y7.out, fun i hi => (Nat.lt_succ_iff_lt_or_eq.1 hi).elim (NO.out i) fun e => by rw [e]; exact FA.out (by simp [hz2])⟩
                        | false =>
                          have RR := FT.out (by simp [ex9, ey10, evx, evy]) (by simp [eg, hz1, hz2, x10, ey10])
                          go_wp2_with fail
                          go_ret
                          exact ⟨by rw [RR]; rfl, btr BX.out B7.out⟩
            · cases evx : (x.v == cell)
              · go_wp2_with fail
                go_roundw
                case measure => simp [intOf]; omega
                case rel => exact ⟨j + 1, by omega, by simp, B7.out, Y7.out, fun i hi => (Nat.lt_succ_iff_lt_or_eq.1 hi).elim (NO.out i) fun e => by rw [e]; exact FA.out (by simp [evx])⟩
              · cases evy : (y.v == cell)
                · go_wp2_with fail
                  go_roundw
                  case measure => simp [intOf]; omega
                  case rel => exact ⟨j + 1, by omega, by simp, B7.out, Y7.out, fun i hi => (Nat.lt_succ_iff_lt_or_eq.1 hi).elim (NO.out i) fun e => by rw [e]; exact FA.out (by simp [evy])⟩
                · cases eg : (x.g != y.g)
                  · go_wp2_with fail
                    go_roundw
                    case measure => simp [intOf]; omega
                    case rel => exact ⟨j + 1, by omega, by simp, B7.out, Y7.out, fun i hi => (Nat.lt_succ_iff_lt_or_eq.1 hi).elim (NO.out i) fun e => by rw [e]; exact FA.out (by simp [eg])⟩
                  · have x10 : (x.k == 10) = false := by have := ex9; simp at this ⊢; omega
                    have y10 : (y.k == 10) = false := by have := ey9; simp at this ⊢; omega
                    go_wp2_with fail
                    go_roundw
                    case measure => simp [intOf]; omega
                    case rel => exact ⟨j + 1, by omega, by simp, B7.out, Y7.out, fun i hi => (Nat.lt_succ_iff_lt_or_eq.1 hi).elim (NO.out i) fun e => by rw [e]; exact FA.out (by simp [x10, y10])⟩
        · obtain rfl : j = k := by omega
          have NN : Hid (firF (hA l) l cell (j + 1) = none) := by
            show _ = _
            rw [fir_succ, NK.out, at_hit NO.out]
            rfl
          clear b6 y6 no
          go_wp2_with fail
          go_roundw
          case measure => simp [intOf]; omega
          case rel => exact ⟨j + 1, by omega, by simp, B6.out, NN.out⟩
    · obtain rfl : k = n := by omega
      clear bl nk
      go_wp2_with fail
      go_ret
      exact ⟨by rw [NK.out]; rfl, btr BX.out BL.out⟩
end Ax
end Go.Proofs.YtblfimobiibmjaaGreat
