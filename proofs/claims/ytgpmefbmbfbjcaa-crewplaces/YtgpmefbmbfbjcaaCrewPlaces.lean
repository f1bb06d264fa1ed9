/- For every list of steps and every goroutine, the law CrewPlaces returns true, so a goroutine place is how often it went on or was woken: under no condition. -/
import Derived.Test.YtgpmefbmbfbjcaaMh
import Derived.ShutString
import Derived.ChangeOld
import Derived.Below
namespace Go.Proofs.Ytgpmefbmbfbjcaa.crewPlaces
open Go.ChangeShapes Go.WideShapes Go.ChangeAt Go.RowKit
open Go.ChangeMaps (open_string shut_string)
open Cr Ba

theorem own : ownKnob Try.prog.godebug = none := by kernel_rfl
theorem laidOut : laidOutB Try.prog = true := by kernel_rfl

set_option maxRecDepth 100000 in
set_option maxHeartbeats 6400000 in
theorem core {w : World} (oa : Option Addr) (L : List (List Int)) (c : Nat) (hA : RAt w oa 2 L) (hl : L.length ≤ maxLen) (g : Int) :
    Calls Try.prog 7 #[.slice oa L.length c, .int .i64 g] w fun r w' => r = .returned (.bool true) ∧ Below w.heap.size w w' := by
  have HA := hide hA
  unfold maxLen at hl
  clear hA
  by_cases h3 : 300 < L.length
  · have h3' : (300 : Int) < (L.length : Int) := by omega
    go_enter Try.func7, Try.ntmps7
    go_wp2_with fail
    refine (new_any _).mono ?_
    rintro r w1 ⟨rfl, -, b1⟩
    have B1 := hide b1
    clear b1
    go_wp2_with fail
    refine (two_any _).mono ?_
    rintro r w2 ⟨rfl, b2⟩
    have B2 := hide (btr B1.out b2)
    clear b2
    go_wp2_with fail
    go_ret
    exact ⟨rfl, B2.out⟩
  have h3' : ¬ (300 : Int) < (L.length : Int) := by omega
  go_enter Try.func7, Try.ntmps7
  go_wp2_with fail
  refine (new_any _).mono ?_
  rintro r w1 ⟨rfl, p1, b1⟩
  have L1 : Hid (Lv w w1 w.heap.size _ []) := ⟨p1, b1, fun x e => Nat.le_of_eq (Eq.symm e)⟩
  clear p1 b1
  generalize w.heap.size = B at L1 ⊢
  go_wp2_with fail
  go_loopw [6, 27] (fun n i wr => ∃ (k : Nat) (l : List Mb) (F : Nat → Prop), k ≤ L.length ∧ i = .int .i64 k ∧ n = .int .i64 (pq l g) ∧ Bn k l ∧ Lv w wr B F l) (fun _ i _ => L.length - (intOf i).toNat)
  case atStart => exact ⟨0, [], _, Nat.zero_le _, rfl, by unfold pq gt; split <;> rfl, Bn.nil 0, L1.out⟩
  case round =>
    clear L1
    obtain ⟨k, l, F, hk, rfl, rfl, bn, l2⟩ := hrel
    have BN := hide bn
    have L2 := hide l2
    have hpb := pq_b bn g
    clear bn l2
    by_cases hlt : k < L.length
    · have hlt' : (k : Int) < (L.length : Int) := by omega
      obtain ⟨x, hx⟩ : ∃ x, L[k]? = some x := ⟨_, List.getElem?_eq_getElem hlt⟩
      obtain ⟨b', o', rfl, hc⟩ := (HA.out.below L2.out.b) k x hx
      have q0 := hc 0 (by decide)
      have q1 := hc 1 (by decide)
      rw [Nat.add_zero] at q0
      clear hc hx
      generalize nth x 0 = what at q0
      generalize nth x 1 = v at q1
      have XB := hide (heap_new wr (.cells #[.int .i64 what, .int .i64 v] 31))
      have L3 := hide (L2.out.below (below_alloc wr (.cells #[.int .i64 what, .int .i64 v] 31)))
      have NF : Hid (¬ F wr.heap.size) := fun e => by have := L2.out.p.bd _ e; omega
      have y0 : (wr.alloc (.cells #[.int .i64 what, .int .i64 v] 31)).cell? ⟨wr.heap.size, 0, none⟩ = some (.int .i64 what) := cell_of XB.out 0
      have y1 : (wr.alloc (.cells #[.int .i64 what, .int .i64 v] 31)).cell? ⟨wr.heap.size, 1, none⟩ = some (.int .i64 v) := cell_of XB.out 1
      have hk3 : k ≤ 100000 := by omega
      have FIN : Hid (∀ (l' : List Mb) (n : Int) (u : World) (F' : Nat → Prop), Lv w u B F' l' → pq l' g = n → Calls Try.prog 12 #[.pointer (some ⟨B, 0, none⟩), .int .i64 g] u fun r w' => r = .returned (.tuple #[.int .i64 (one0 (gt l' g)).p, .int .i64 n, .bool (thr l' g)]) ∧ Lv w w' B F' l') := by
        intro l' n u F' hu hn
        subst hn
        refine (at_any B F' l' g u hu.p).mono ?_
        rintro r v ⟨e, b⟩
        exact ⟨e, hu.below b⟩
      by_cases h0 : what = 0
      · subst h0
        have CC := hide (spawn_any B F l v _ L3.out.p)
        have HQ := hide (sp_q l v g)
        have BN2 := hide ((BN.out.sp v).mono (Nat.le_succ k))
        generalize spV l v = ev at CC
        generalize spE l v = ee at CC
        generalize spL l v = l' at CC HQ BN2
        go_wp2_with fail
        generalize wr.alloc (.cells #[.int .i64 0, .int .i64 v] 31) = W at XB L3 CC y0 y1 ⊢
        generalize wr.heap.size = X at XB NF y0 y1 ⊢
        refine CC.out.mono ?_
        rintro r w4 ⟨rfl, F4, c4, k4, n4⟩
        have X4 := hide (k4.heap XB.out NF.out)
        obtain ⟨F5, l4⟩ := L3.out.step ⟨F4, c4, k4, n4⟩
        have L4 := hide l4
        clear l4 c4 k4 n4 CC y0 y1
        have y1 : w4.cell? ⟨X, 1, none⟩ = some (.int .i64 v) := cell_of X4.out 1
        go_wp2_with fail
        refine (FIN.out l' (pq l g) _ F5 L4.out HQ.out).mono ?_
        rintro r w9 ⟨rfl, l9⟩
        have L9 := hide l9
        clear l9
        cases hth : thr l' g
        · have hz : pq l g = 0 := HQ.out.symm.trans (pq_none hth)
          clear hth
          go_wp2_with fail
          go_roundw
          case rel => exact ⟨k + 1, l', F5, by omega, by go_num, congrArg (Value.int .i64) (by have := HQ.out; omega), BN2.out, L9.out⟩
          case measure => simp [intOf]; omega
        · clear hth
          go_wp2_with fail
          go_roundw
          case rel => exact ⟨k + 1, l', F5, by omega, by go_num, congrArg (Value.int .i64) (by have := HQ.out; omega), BN2.out, L9.out⟩
          case measure => simp [intOf]; omega
      by_cases h1 : what = 1
      · subst h1
        have CC := hide (spawn_any B F l v _ L3.out.p)
        have HQ := hide (sp_q l v g)
        have BN2 := hide ((BN.out.sp v).mono (Nat.le_succ k))
        generalize spV l v = ev at CC
        generalize spE l v = ee at CC
        generalize spL l v = l' at CC HQ BN2
        go_wp2_with fail
        generalize wr.alloc (.cells #[.int .i64 1, .int .i64 v] 31) = W at XB L3 CC y0 y1 ⊢
        generalize wr.heap.size = X at XB NF y0 y1 ⊢
        refine CC.out.mono ?_
        rintro r w4 ⟨rfl, F4, c4, k4, n4⟩
        have X4 := hide (k4.heap XB.out NF.out)
        obtain ⟨F5, l4⟩ := L3.out.step ⟨F4, c4, k4, n4⟩
        have L4 := hide l4
        clear l4 c4 k4 n4 CC y0 y1
        have y1 : w4.cell? ⟨X, 1, none⟩ = some (.int .i64 v) := cell_of X4.out 1
        go_wp2_with fail
        refine (FIN.out l' (pq l g) _ F5 L4.out HQ.out).mono ?_
        rintro r w9 ⟨rfl, l9⟩
        have L9 := hide l9
        clear l9
        cases hth : thr l' g
        · have hz : pq l g = 0 := HQ.out.symm.trans (pq_none hth)
          clear hth
          go_wp2_with fail
          go_roundw
          case rel => exact ⟨k + 1, l', F5, by omega, by go_num, congrArg (Value.int .i64) (by have := HQ.out; omega), BN2.out, L9.out⟩
          case measure => simp [intOf]; omega
        · clear hth
          go_wp2_with fail
          go_roundw
          case rel => exact ⟨k + 1, l', F5, by omega, by go_num, congrArg (Value.int .i64) (by have := HQ.out; omega), BN2.out, L9.out⟩
          case measure => simp [intOf]; omega
      by_cases h2 : what = 2
      · subst h2
        have CC := hide (go_any B F l k v _ L3.out.p BN.out hk3)
        have HC := hide (ch_q l v 0 0 1 g)
        have BN2 := hide (BN.out.ch v 0 0 1 (by decide) (by decide))
        generalize chE l v 0 = ee at CC HC
        generalize chL l v 0 0 1 = l' at CC HC BN2
        by_cases he : ee = 0
        · subst he
          by_cases hv : v = g
          · subst hv
            have HQ : Hid (pq l' v = pq l v + 1) := by
              show _ = _
              rw [HC.out, if_pos ⟨rfl, rfl⟩]
            clear HC
            go_wp2_with fail
            generalize wr.alloc (.cells #[.int .i64 2, .int .i64 v] 31) = W at XB L3 CC y0 y1 ⊢
            generalize wr.heap.size = X at XB NF y0 y1 ⊢
            refine CC.out.mono ?_
            rintro r w4 ⟨rfl, F4, c4, k4, n4⟩
            have X4 := hide (k4.heap XB.out NF.out)
            obtain ⟨F5, l4⟩ := L3.out.step ⟨F4, c4, k4, n4⟩
            have L4 := hide l4
            clear l4 c4 k4 n4 CC y0 y1
            have y1 : w4.cell? ⟨X, 1, none⟩ = some (.int .i64 v) := cell_of X4.out 1
            go_wp2_with fail
            refine (FIN.out l' (pq l v + 1) _ F5 L4.out HQ.out).mono ?_
            rintro r w9 ⟨rfl, l9⟩
            have L9 := hide l9
            clear l9
            cases hth : thr l' v
            · have hz : pq l v + 1 = 0 := HQ.out.symm.trans (pq_none hth)
              exfalso
              omega
            · clear hth
              go_wp2_with fail
              go_roundw
              case rel => exact ⟨k + 1, l', F5, by omega, by go_num, congrArg (Value.int .i64) (by have := HQ.out; omega), BN2.out, L9.out⟩
              case measure => simp [intOf]; omega
          · have hv' : (v == g) = false := by simpa using hv
            have HQ : Hid (pq l' g = pq l g) := by
              show _ = _
              rw [HC.out, if_neg (fun q => hv q.2), Int.add_zero]
            clear HC
            go_wp2_with fail
            generalize wr.alloc (.cells #[.int .i64 2, .int .i64 v] 31) = W at XB L3 CC y0 y1 ⊢
            generalize wr.heap.size = X at XB NF y0 y1 ⊢
            refine CC.out.mono ?_
            rintro r w4 ⟨rfl, F4, c4, k4, n4⟩
            have X4 := hide (k4.heap XB.out NF.out)
            obtain ⟨F5, l4⟩ := L3.out.step ⟨F4, c4, k4, n4⟩
            have L4 := hide l4
            clear l4 c4 k4 n4 CC y0 y1
            have y1 : w4.cell? ⟨X, 1, none⟩ = some (.int .i64 v) := cell_of X4.out 1
            go_wp2_with fail
            refine (FIN.out l' (pq l g) _ F5 L4.out HQ.out).mono ?_
            rintro r w9 ⟨rfl, l9⟩
            have L9 := hide l9
            clear l9
            cases hth : thr l' g
            · have hz : pq l g = 0 := HQ.out.symm.trans (pq_none hth)
              clear hth
              go_wp2_with fail
              go_roundw
              case rel => exact ⟨k + 1, l', F5, by omega, by go_num, congrArg (Value.int .i64) (by have := HQ.out; omega), BN2.out, L9.out⟩
              case measure => simp [intOf]; omega
            · clear hth
              go_wp2_with fail
              go_roundw
              case rel => exact ⟨k + 1, l', F5, by omega, by go_num, congrArg (Value.int .i64) (by have := HQ.out; omega), BN2.out, L9.out⟩
              case measure => simp [intOf]; omega
        · have he' : (ee == 0) = false := by simpa using he
          have HQ : Hid (pq l' g = pq l g) := by
            show _ = _
            rw [HC.out, if_neg (fun q => he q.1), Int.add_zero]
          clear HC
          go_wp2_with fail
          generalize wr.alloc (.cells #[.int .i64 2, .int .i64 v] 31) = W at XB L3 CC y0 y1 ⊢
          generalize wr.heap.size = X at XB NF y0 y1 ⊢
          refine CC.out.mono ?_
          rintro r w4 ⟨rfl, F4, c4, k4, n4⟩
          have X4 := hide (k4.heap XB.out NF.out)
          obtain ⟨F5, l4⟩ := L3.out.step ⟨F4, c4, k4, n4⟩
          have L4 := hide l4
          clear l4 c4 k4 n4 CC y0 y1
          have y1 : w4.cell? ⟨X, 1, none⟩ = some (.int .i64 v) := cell_of X4.out 1
          go_wp2_with fail
          refine (FIN.out l' (pq l g) _ F5 L4.out HQ.out).mono ?_
          rintro r w9 ⟨rfl, l9⟩
          have L9 := hide l9
          clear l9
          cases hth : thr l' g
          · have hz : pq l g = 0 := HQ.out.symm.trans (pq_none hth)
            clear hth
            go_wp2_with fail
            go_roundw
            case rel => exact ⟨k + 1, l', F5, by omega, by go_num, congrArg (Value.int .i64) (by have := HQ.out; omega), BN2.out, L9.out⟩
            case measure => simp [intOf]; omega
          · clear hth
            go_wp2_with fail
            go_roundw
            case rel => exact ⟨k + 1, l', F5, by omega, by go_num, congrArg (Value.int .i64) (by have := HQ.out; omega), BN2.out, L9.out⟩
            case measure => simp [intOf]; omega
      by_cases h3a : what = 3
      · subst h3a
        have CC := hide (park_any B F l k v _ L3.out.p BN.out hk3)
        have HQ : Hid (pq (chL l v 0 1 0) g = pq l g) := by
          show _ = _
          rw [ch_q]
          split <;> omega
        have BN2 := hide (BN.out.ch v 0 1 0 (by decide) (by decide))
        generalize chE l v 0 = ee at CC
        generalize chL l v 0 1 0 = l' at CC HQ BN2
        go_wp2_with fail
        generalize wr.alloc (.cells #[.int .i64 3, .int .i64 v] 31) = W at XB L3 CC y0 y1 ⊢
        generalize wr.heap.size = X at XB NF y0 y1 ⊢
        refine CC.out.mono ?_
        rintro r w4 ⟨rfl, F4, c4, k4, n4⟩
        have X4 := hide (k4.heap XB.out NF.out)
        obtain ⟨F5, l4⟩ := L3.out.step ⟨F4, c4, k4, n4⟩
        have L4 := hide l4
        clear l4 c4 k4 n4 CC y0 y1
        have y1 : w4.cell? ⟨X, 1, none⟩ = some (.int .i64 v) := cell_of X4.out 1
        go_wp2_with fail
        refine (FIN.out l' (pq l g) _ F5 L4.out HQ.out).mono ?_
        rintro r w9 ⟨rfl, l9⟩
        have L9 := hide l9
        clear l9
        cases hth : thr l' g
        · have hz : pq l g = 0 := HQ.out.symm.trans (pq_none hth)
          clear hth
          go_wp2_with fail
          go_roundw
          case rel => exact ⟨k + 1, l', F5, by omega, by go_num, congrArg (Value.int .i64) (by have := HQ.out; omega), BN2.out, L9.out⟩
          case measure => simp [intOf]; omega
        · clear hth
          go_wp2_with fail
          go_roundw
          case rel => exact ⟨k + 1, l', F5, by omega, by go_num, congrArg (Value.int .i64) (by have := HQ.out; omega), BN2.out, L9.out⟩
          case measure => simp [intOf]; omega
      by_cases h4 : what = 4
      · subst h4
        have CC := hide (wake_any B F l k v _ L3.out.p BN.out hk3)
        have HC := hide (ch_q l v 1 0 1 g)
        have BN2 := hide (BN.out.ch v 1 0 1 (by decide) (by decide))
        generalize chE l v 1 = ee at CC HC
        generalize chL l v 1 0 1 = l' at CC HC BN2
        by_cases he : ee = 0
        · subst he
          by_cases hv : v = g
          · subst hv
            have HQ : Hid (pq l' v = pq l v + 1) := by
              show _ = _
              rw [HC.out, if_pos ⟨rfl, rfl⟩]
            clear HC
            go_wp2_with fail
            generalize wr.alloc (.cells #[.int .i64 4, .int .i64 v] 31) = W at XB L3 CC y0 y1 ⊢
            generalize wr.heap.size = X at XB NF y0 y1 ⊢
            refine CC.out.mono ?_
            rintro r w4 ⟨rfl, F4, c4, k4, n4⟩
            have X4 := hide (k4.heap XB.out NF.out)
            obtain ⟨F5, l4⟩ := L3.out.step ⟨F4, c4, k4, n4⟩
            have L4 := hide l4
            clear l4 c4 k4 n4 CC y0 y1
            have y1 : w4.cell? ⟨X, 1, none⟩ = some (.int .i64 v) := cell_of X4.out 1
            go_wp2_with fail
            refine (FIN.out l' (pq l v + 1) _ F5 L4.out HQ.out).mono ?_
            rintro r w9 ⟨rfl, l9⟩
            have L9 := hide l9
            clear l9
            cases hth : thr l' v
            · have hz : pq l v + 1 = 0 := HQ.out.symm.trans (pq_none hth)
              exfalso
              omega
            · clear hth
              go_wp2_with fail
              go_roundw
              case rel => exact ⟨k + 1, l', F5, by omega, by go_num, congrArg (Value.int .i64) (by have := HQ.out; omega), BN2.out, L9.out⟩
              case measure => simp [intOf]; omega
          · have hv' : (v == g) = false := by simpa using hv
            have HQ : Hid (pq l' g = pq l g) := by
              show _ = _
              rw [HC.out, if_neg (fun q => hv q.2), Int.add_zero]
            clear HC
            go_wp2_with fail
            generalize wr.alloc (.cells #[.int .i64 4, .int .i64 v] 31) = W at XB L3 CC y0 y1 ⊢
            generalize wr.heap.size = X at XB NF y0 y1 ⊢
            refine CC.out.mono ?_
            rintro r w4 ⟨rfl, F4, c4, k4, n4⟩
            have X4 := hide (k4.heap XB.out NF.out)
            obtain ⟨F5, l4⟩ := L3.out.step ⟨F4, c4, k4, n4⟩
            have L4 := hide l4
            clear l4 c4 k4 n4 CC y0 y1
            have y1 : w4.cell? ⟨X, 1, none⟩ = some (.int .i64 v) := cell_of X4.out 1
            go_wp2_with fail
            refine (FIN.out l' (pq l g) _ F5 L4.out HQ.out).mono ?_
            rintro r w9 ⟨rfl, l9⟩
            have L9 := hide l9
            clear l9
            cases hth : thr l' g
            · have hz : pq l g = 0 := HQ.out.symm.trans (pq_none hth)
              clear hth
              go_wp2_with fail
              go_roundw
              case rel => exact ⟨k + 1, l', F5, by omega, by go_num, congrArg (Value.int .i64) (by have := HQ.out; omega), BN2.out, L9.out⟩
              case measure => simp [intOf]; omega
            · clear hth
              go_wp2_with fail
              go_roundw
              case rel => exact ⟨k + 1, l', F5, by omega, by go_num, congrArg (Value.int .i64) (by have := HQ.out; omega), BN2.out, L9.out⟩
              case measure => simp [intOf]; omega
        · have he' : (ee == 0) = false := by simpa using he
          have HQ : Hid (pq l' g = pq l g) := by
            show _ = _
            rw [HC.out, if_neg (fun q => he q.1), Int.add_zero]
          clear HC
          go_wp2_with fail
          generalize wr.alloc (.cells #[.int .i64 4, .int .i64 v] 31) = W at XB L3 CC y0 y1 ⊢
          generalize wr.heap.size = X at XB NF y0 y1 ⊢
          refine CC.out.mono ?_
          rintro r w4 ⟨rfl, F4, c4, k4, n4⟩
          have X4 := hide (k4.heap XB.out NF.out)
          obtain ⟨F5, l4⟩ := L3.out.step ⟨F4, c4, k4, n4⟩
          have L4 := hide l4
          clear l4 c4 k4 n4 CC y0 y1
          have y1 : w4.cell? ⟨X, 1, none⟩ = some (.int .i64 v) := cell_of X4.out 1
          go_wp2_with fail
          refine (FIN.out l' (pq l g) _ F5 L4.out HQ.out).mono ?_
          rintro r w9 ⟨rfl, l9⟩
          have L9 := hide l9
          clear l9
          cases hth : thr l' g
          · have hz : pq l g = 0 := HQ.out.symm.trans (pq_none hth)
            clear hth
            go_wp2_with fail
            go_roundw
            case rel => exact ⟨k + 1, l', F5, by omega, by go_num, congrArg (Value.int .i64) (by have := HQ.out; omega), BN2.out, L9.out⟩
            case measure => simp [intOf]; omega
          · clear hth
            go_wp2_with fail
            go_roundw
            case rel => exact ⟨k + 1, l', F5, by omega, by go_num, congrArg (Value.int .i64) (by have := HQ.out; omega), BN2.out, L9.out⟩
            case measure => simp [intOf]; omega
      by_cases h5 : what = 5
      · subst h5
        have CC := hide (exit_any B F l k v _ L3.out.p BN.out hk3)
        have HQ : Hid (pq (chL l v 0 2 0) g = pq l g) := by
          show _ = _
          rw [ch_q]
          split <;> omega
        have BN2 := hide (BN.out.ch v 0 2 0 (by decide) (by decide))
        generalize chE l v 0 = ee at CC
        generalize chL l v 0 2 0 = l' at CC HQ BN2
        go_wp2_with fail
        generalize wr.alloc (.cells #[.int .i64 5, .int .i64 v] 31) = W at XB L3 CC y0 y1 ⊢
        generalize wr.heap.size = X at XB NF y0 y1 ⊢
        refine CC.out.mono ?_
        rintro r w4 ⟨rfl, F4, c4, k4, n4⟩
        have X4 := hide (k4.heap XB.out NF.out)
        obtain ⟨F5, l4⟩ := L3.out.step ⟨F4, c4, k4, n4⟩
        have L4 := hide l4
        clear l4 c4 k4 n4 CC y0 y1
        have y1 : w4.cell? ⟨X, 1, none⟩ = some (.int .i64 v) := cell_of X4.out 1
        go_wp2_with fail
        refine (FIN.out l' (pq l g) _ F5 L4.out HQ.out).mono ?_
        rintro r w9 ⟨rfl, l9⟩
        have L9 := hide l9
        clear l9
        cases hth : thr l' g
        · have hz : pq l g = 0 := HQ.out.symm.trans (pq_none hth)
          clear hth
          go_wp2_with fail
          go_roundw
          case rel => exact ⟨k + 1, l', F5, by omega, by go_num, congrArg (Value.int .i64) (by have := HQ.out; omega), BN2.out, L9.out⟩
          case measure => simp [intOf]; omega
        · clear hth
          go_wp2_with fail
          go_roundw
          case rel => exact ⟨k + 1, l', F5, by omega, by go_num, congrArg (Value.int .i64) (by have := HQ.out; omega), BN2.out, L9.out⟩
          case measure => simp [intOf]; omega
      have d0 : (what == 0) = false := by simpa using h0
      have d1 : (what == 1) = false := by simpa using h1
      have d2 : (what == 2) = false := by simpa using h2
      have d3 : (what == 3) = false := by simpa using h3a
      have d4 : (what == 4) = false := by simpa using h4
      have d5 : (what == 5) = false := by simpa using h5
      have BN2 := hide (BN.out.mono (Nat.le_succ k))
      go_wp2_with fail
      generalize wr.alloc (.cells #[.int .i64 what, .int .i64 v] 31) = W at XB L3 y0 y1 ⊢
      generalize wr.heap.size = X at XB NF y0 y1 ⊢
      refine (FIN.out l (pq l g) _ F L3.out rfl).mono ?_
      rintro r w9 ⟨rfl, l9⟩
      have L9 := hide l9
      clear l9
      cases hth : thr l g
      · have hz : pq l g = 0 := (pq_none hth)
        clear hth
        go_wp2_with fail
        go_roundw
        case rel => exact ⟨k + 1, l, F, by omega, by go_num, congrArg (Value.int .i64) (by omega), BN2.out, L9.out⟩
        case measure => simp [intOf]; omega
      · clear hth
        go_wp2_with fail
        go_roundw
        case rel => exact ⟨k + 1, l, F, by omega, by go_num, congrArg (Value.int .i64) (by omega), BN2.out, L9.out⟩
        case measure => simp [intOf]; omega
    · have hlt' : ¬ ((k : Int) < (L.length : Int)) := by omega
      go_wp2_with fail
      refine (two_any _).mono ?_
      rintro r w7 ⟨rfl, b7⟩
      have B7 := hide (btr L2.out.b b7)
      clear b7
      go_wp2_with fail
      go_ret
      exact ⟨rfl, B7.out⟩

/-! ### the row -/
set_option maxRecDepth 100000 in
theorem lifted (os : Os) (started : os.Started) (H : Type) (enc : TypeId × Value → H) :
    ReturnsInHanded {} Try.checked os 7 .any (Rows.crewPlacesSpec.pre6 enc Try.prog Try.f7 Rows.crewPlacesRow.domain false) (Rows.crewPlacesSpec.post enc Try.prog Try.f7 false true false false) := by
  refine returnsInHanded_of_change (C := Try.checked) own started (by kernel_rfl) Try.func7
    (ChangeSpec.witness6 (enc := enc) (C := Try.checked) false ⟨#[], #[.slice none 0 0, .int .i64 0], []⟩ 8 (by kernel_rfl) (by kernel_rfl) (by kernel_rfl) (by kernel_rfl)) ?_
  intro W base args ds gs before hval0 hW hcnd _
  have hval : ∀ (j : Nat) t v, Try.f7.params[j]? = some t → args[j]? = some v → Value.okWide Try.prog W .any base t v := hval0
  have hW' := hW
  obtain ⟨p, q, hA0, hV, rfl, hfz, hnd⟩ := hW
  have hA : DataW.TrodAll enc Try.prog W 0 (fun _ => true) true Try.f7.params.toList args.toList ds p := hA0
  rw [Try.params7] at hA hval
  obtain ⟨v0, vs0, d0, ds0, p0, q0, hargs, rfl, rfl, h0, r0⟩ := trodAll_cons hA
  obtain ⟨v1, vs1, d1, ds1, p1, q1, rfl, rfl, rfl, h1, r1⟩ := trodAll_cons r0
  obtain ⟨rfl, rfl, rfl⟩ := trodAll_nil r1
  obtain rfl : args = #[v0, v1] := by cases args; simp_all
  obtain ⟨rfl, rfl⟩ := trodVars_none hV
  obtain ⟨oa0, n0, c0, rfl⟩ := okWide_slice Try.underlying22 (hval 0 22 v0 rfl rfl)
  have k0 := h0
  have lt0 : ∀ x ∈ p0, x.block < W.heap.size := by obtain ⟨m, hm⟩ := k0; exact DataW.trod_lt m _ _ _ hm
  obtain ⟨l0, rfl, A0, C0, M0⟩ := h0.elim fun _ hf => steps_open hf
  obtain ⟨a1, rfl, rfl, rfl, w1⟩ := open_int Try.underlying3 (hval 1 3 v1 rfl rfl) h1
  clear hA0 hval0
  refine (core (w := W) oa0 l0 c0 A0 (Nat.le_trans C0 M0) a1).mono fun e W' ⟨he, bel⟩ => ?_
  subst he
  exact ⟨_, rfl, _, _, _, [], _, [], hW', trodAll_mk1 (shut_bool Try.underlying4 _), (trodAll_cons_mk (Below.trod laidOut (by kernel_rfl) (of_decide_eq_true (by kernel_rfl)) k0 bel lt0) (trodAll_cons_mk (shut_int Try.underlying3 w1) trodAll_mk0)), rfl, bel.frame _, fun h => by cases h⟩

theorem over : Rows.crewPlacesRow.holds Try.pinned (OpenSpec.ofChange Rows.crewPlacesSpec) :=
  OpenClaim.holds_of_wide 7 Try.f7 rfl rfl rfl rfl rfl rfl rfl ⟨rfl, rfl, rfl, rfl, rfl⟩ rfl rfl rfl rfl rfl (by kernel_rfl) Try.func7 (by kernel_rfl)
    (of_decide_eq_true (by kernel_rfl)) (by unfold Func.isWrapper; first | (rw [if_pos (by decide +kernel)]; kernel_rfl) | (rw [if_neg (by decide +kernel)]; exact ⟨rfl, rfl⟩))
    (fun os started H enc _ => lifted os started H enc)

/-- the statement -/
theorem proved : Rows.CrewPlacesSaid := over
#print axioms proved
end Go.Proofs.Ytgpmefbmbfbjcaa.crewPlaces
