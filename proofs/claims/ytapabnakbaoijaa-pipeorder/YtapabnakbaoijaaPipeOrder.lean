/- The k'th value that is received of a channel is the k'th that was sent, whoever waited; for every capacity and every list of steps. -/
import Derived.Test.YtapabnakbaoijaaKj
import Derived.Test.YtapabnakbaoijaaWh
import Derived.Deep.CutBlock
import Derived.Deep.DeepCutAuto
import Derived.ShutString
import Derived.ChangeOld
import Derived.Below
namespace Go.Proofs.Ytapabnakbaoijaa.pipeOrder
open Go.ChangeShapes Go.WideShapes Go.ChangeAt Go.RowKit
open Go.ChangeMaps (open_string shut_string)
open Ba Pe _root_.Go.Proofs.Ytapabnakbaoijaa.Pi Rp

theorem own : ownKnob Try.prog.godebug = none := by kernel_rfl
theorem laidOut : laidOutB Try.prog = true := by kernel_rfl

set_option maxRecDepth 100000 in
set_option maxHeartbeats 40000000 in
theorem core {w : World} (s : Int) (oa : Option Addr) (l : List (List Int)) (c : Nat) (hA : RAt w oa 4 l) (hl : l.length ≤ maxLen) :
    Calls Try.prog 4 #[.int .i64 s, .slice oa l.length c] w fun r w' => r = .returned (.bool true) ∧ Below w.heap.size w w' := by
  have HA := hide hA
  unfold maxLen at hl
  clear hA
  by_cases hsz : s < 0 ∨ 4 < s
  · go_enter Try.func4, Try.ntmps4
    go_wp2_with fail
    refine (Pi.new_err s _ hsz).mono ?_
    rintro r w1 ⟨rfl, rfl⟩
    go_wp2_with fail
    refine (hands_any _).mono ?_
    rintro r w5 ⟨rfl, b5⟩
    have B5 := hide b5
    clear b5
    go_wp2_with fail
    go_ret
    exact ⟨rfl, B5.out⟩
  obtain ⟨n, rfl⟩ := Int.eq_ofNat_of_zero_le (show 0 ≤ s by omega)
  have hn : n ≤ 4 := by omega
  clear hsz
  go_enter Try.func4, Try.ntmps4
  go_wp2_with fail
  refine (Pi.new_ok n _ hn).mono ?_
  rintro r w1 ⟨B, F, rfl, p1, l1, b1⟩
  have P1 := hide p1
  have L1 := hide l1
  have B1 := hide b1
  clear p1 l1 b1
  by_cases h3 : 300 < l.length
  · have h3' : decide ((300 : Int) < (l.length : Int)) = true := decide_eq_true (by omega)
    go_wp2_with fail
    refine (hands_any _).mono ?_
    rintro r w5 ⟨rfl, b5⟩
    have B5 := hide (btr B1.out b5)
    clear b5
    go_wp2_with fail
    go_ret
    exact ⟨rfl, B5.out⟩
  have h3' : decide ((300 : Int) < (l.length : Int)) = false := decide_eq_false (by omega)
  cases hi : Try.prog.info? 3 with
  | none => have := info_i; rw [hi] at this; cases this
  | some i0 =>
  have hx2 := info_i
  rw [hi] at hx2
  simp at hx2
  have INF := hide (And.intro hi hx2)
  clear hx2 hi
  have T2 : Hid (Po w w1 B F (st0 n) (.slice none 0 0) (.slice none 0 0) [] []) := ⟨P1.out, B1.out, L1.out, World.ownsRow_nil _ _ _ _, World.ownsRow_nil _ _ _ _, fun g e => by simp [Value.ownBlock] at e, fun g e => by simp [Value.ownBlock] at e, fun g e => by simp [Value.ownBlock] at e⟩
  clear P1 L1 B1
  go_wp2_with fail
  go_loopw [7, 8, 43] (fun s7 s8 j wr => ∃ (k : Nat) (F : Nat → Prop) (st : St) (S V : List Int), k ≤ l.length ∧ j = .int .i64 k ∧ Po w wr B F st s7 s8 S V ∧ Od st S V ∧ S.length ≤ k ∧ V.length ≤ k) (fun _ _ j _ => l.length - (intOf j).toNat)
  case atStart => exact ⟨0, F, st0 n, [], [], Nat.zero_le _, rfl, T2.out, Od.zero n, Nat.le_refl _, Nat.le_refl _⟩
  case round =>
    clear T2
    obtain ⟨k, F, st, S, V, hk, rfl, t3, o3, lS, lV⟩ := hrel
    have T3 := hide t3
    have O3 := hide o3
    clear t3 o3
    by_cases hlt : k < l.length
    · have hlt' : (k : Int) < (l.length : Int) := by omega
      obtain ⟨z, hz⟩ : ∃ z, l[k]? = some z := ⟨_, List.getElem?_eq_getElem hlt⟩
      obtain ⟨b', o', rfl, hc⟩ := (HA.out.below T3.out.b) k z hz
      have q0 := hc 0 (by decide)
      have q1 := hc 1 (by decide)
      have q2 := hc 2 (by decide)
      have q3 := hc 3 (by decide)
      rw [Nat.add_zero] at q0
      clear hc hz
      generalize nth z 0 = what at q0
      generalize nth z 1 = xg at q1
      generalize nth z 2 = xc at q2
      generalize nth z 3 = xv at q3
      have P4 := hide (T3.out.below (below_alloc wr (.cells #[.int .i64 what, .int .i64 xg, .int .i64 xc, .int .i64 xv] 34)))
      have X4 := hide (heap_new wr (.cells #[.int .i64 what, .int .i64 xg, .int .i64 xc, .int .i64 xv] 34))
      have NX : Hid (¬ F wr.heap.size) := fun e => Nat.lt_irrefl _ (T3.out.p.bd _ e)
      clear T3
      go_upto_block 2 with fail
      clear q0 q1 q2 q3
      generalize wr.alloc (.cells #[.int .i64 what, .int .i64 xg, .int .i64 xc, .int .i64 xv] 34) = W4 at P4 X4 ⊢
      generalize wr.heap.size = sb at X4 NX ⊢
      go_cut [7, 8] (fun s7 s8 wc => ∃ (F' : Nat → Prop) (st' : St) (S' V' : List Int), Po w wc B F' st' s7 s8 S' V' ∧ Od st' S' V' ∧ S'.length ≤ k + 1 ∧ V'.length ≤ k + 1)
      case first =>
        have e0' : W4.cell? ⟨sb, 0, none⟩ = some (.int .i64 what) := cell_of X4.out 0
        have e1' : W4.cell? ⟨sb, 1, none⟩ = some (.int .i64 xg) := cell_of X4.out 1
        have e2' : W4.cell? ⟨sb, 2, none⟩ = some (.int .i64 xc) := cell_of X4.out 2
        have e3' : W4.cell? ⟨sb, 3, none⟩ = some (.int .i64 xv) := cell_of X4.out 3
        have hsS := O3.out.s
        have hsV := O3.out.g
        by_cases c01 : what = 0 ∨ what = 1
        · rcases c01 with rfl | rfl
          · rcases Bool.eq_false_or_eq_true st.closed with hc | hc
            · have e1 : sendG st = gz := by simp [sendG, hc]
              have e2 : sendE st = 90 := by simp [sendE, hc]
              have e3 : sendS st xv = st := by simp [sendS, hc]
              have SD := hide (send_is B F st (st) xv 90 gz _ P4.out.p (by omega) (by omega) e1 e2 e3)
              clear e1 e2 e3
              unfold gv gz at SD
              go_wp2_with fail
              refine SD.out.mono ?_
              rintro r w5 ⟨rfl, k5, F5, n5, p5⟩
              have P5 := hide ((P4.out.step k5 n5 p5).below (below_alloc w5 (.cells #[.bool false, .bool false, .bool false, .int .i64 0, .int .i64 0, .int .i64 0, .int .i64 0] 49)))
              clear k5 n5 p5
              go_wp2_with fail
              go_meet
              case rel => exact ⟨F5, st, S, V, P5.out, O3.out, by first | omega | (simp; omega), by first | omega | (simp; omega)⟩
            · cases hr : st.rcv with
              | cons y t =>
                have e1 : sendG st = ⟨true, false, true, 0, y⟩ := by simp [sendG, hc, hr]
                have e2 : sendE st = 0 := by simp [sendE, hc]
                have e3 : sendS st xv = sendS st xv := rfl
                have OD := hide (O3.out.woke xv y t hc hr)
                have SD := hide (send_is B F st (sendS st xv) xv 0 ⟨true, false, true, 0, y⟩ _ P4.out.p (by omega) (by omega) e1 e2 e3)
                clear e1 e2 e3
                unfold gv at SD
                go_wp2_with fail
                refine SD.out.mono ?_
                rintro r w5 ⟨rfl, k5, F5, n5, p5⟩
                have P5 := hide ((P4.out.step k5 n5 p5).below (below_alloc w5 (.cells #[.bool true, .bool false, .bool true, .int .i64 0, .int .i64 y.g, .int .i64 y.c, .int .i64 y.v] 49)))
                have Q5 := hide (heap_below (k5.heap X4.out NX.out) (below_alloc w5 (.cells #[.bool true, .bool false, .bool true, .int .i64 0, .int .i64 y.g, .int .i64 y.c, .int .i64 y.v] 49)))
                have A5 := hide (heap_new w5 (.cells #[.bool true, .bool false, .bool true, .int .i64 0, .int .i64 y.g, .int .i64 y.c, .int .i64 y.v] 49))
                have hq5 := heap_lt Q5.out
                have q3 : (w5.alloc (.cells #[.bool true, .bool false, .bool true, .int .i64 0, .int .i64 y.g, .int .i64 y.c, .int .i64 y.v] 49)).cell? ⟨sb, 3, none⟩ = some (.int .i64 xv) := cell_of Q5.out 3
                have BX6 := below_alloc (w5.alloc (.cells #[.bool true, .bool false, .bool true, .int .i64 0, .int .i64 y.g, .int .i64 y.c, .int .i64 y.v] 49)) (.cells #[.int .i64 xv] 3)
                have O6 := hide (P5.out.below BX6)
                have src6 := cell_one_new (w5.alloc (.cells #[.bool true, .bool false, .bool true, .int .i64 0, .int .i64 y.g, .int .i64 y.c, .int .i64 y.v] 49)) (.int .i64 xv) 3
                rw [World.size_alloc] at src6
                have SRC6 := hide src6
                clear src6
                have Q6 := hide (heap_below Q5.out BX6)
                have A6 := hide (heap_below A5.out BX6)
                have hsz6 : ((w5.alloc (.cells #[.bool true, .bool false, .bool true, .int .i64 0, .int .i64 y.g, .int .i64 y.c, .int .i64 y.v] 49)).alloc (.cells #[.int .i64 xv] 3)).heap.size = w5.heap.size + 1 + 1 := by rw [World.size_alloc, World.size_alloc]
                clear k5 n5 p5 BX6
                go_wp2_with (at_builtin; refine wpList_append_own_at _ rfl _ _ 38 rfl w.heap.size 3 i0 (.int .i64 0) 1 8 Try.underlying38 INF.out.1 INF.out.2.1 INF.out.2.2.1 INF.out.2.2.2 rfl (by decide) _ _ _ rfl O6.out.rs ⟨w5.heap.size + 1, 0, none⟩ 1 1 [.int .i64 xv] rfl rfl ?c1 ?c2 ?c3 ?c4 ?c5 ?_)
                case c1 => exact SRC6.out
                case c2 => exact ic_one [xv]
                case c3 => unfold maxLen; omega
                case c4 => omega
                case c5 => exact O6.out.b.size
                intro v6 w6 r6 g6 _ h6
                have P6 := hide (O6.out.appS r6 g6 h6 (by rw [hsz6]))
                have Q7 := hide (O6.out.keepS g6 Q6.out (by decide))
                have A7 := hide (O6.out.keepS g6 A6.out (by decide))
                have a2 : w6.cell? ⟨w5.heap.size, 2, none⟩ = some (.bool true) := cell_of A7.out 2
                have q7 : w6.cell? ⟨sb, 3, none⟩ = some (.int .i64 xv) := cell_of Q7.out 3
                clear r6 g6 h6 O6 SRC6
                have BX8 := below_alloc w6 (.cells #[.int .i64 xv] 3)
                have O8 := hide (P6.out.below BX8)
                have src8 := cell_one_new w6 (.int .i64 xv) 3
                have SRC8 := hide src8
                clear src8
                have hsz8 : (w6.alloc (.cells #[.int .i64 xv] 3)).heap.size = w6.heap.size + 1 := World.size_alloc _ _
                clear BX8
                go_wp2_with (at_builtin; refine wpList_append_own_at _ rfl _ _ 38 rfl w.heap.size 3 i0 (.int .i64 0) 1 8 Try.underlying38 INF.out.1 INF.out.2.1 INF.out.2.2.1 INF.out.2.2.2 rfl (by decide) _ _ _ rfl O8.out.rv ⟨w6.heap.size, 0, none⟩ 1 1 [.int .i64 xv] rfl rfl ?c1 ?c2 ?c3 ?c4 ?c5 ?_)
                case c1 => exact SRC8.out
                case c2 => exact ic_one [xv]
                case c3 => unfold maxLen; omega
                case c4 => omega
                case c5 => exact O8.out.b.size
                intro v8 w8 r8 g8 _ h8
                have P8 := hide (O8.out.appV r8 g8 h8 (by rw [hsz8]))
                clear r8 g8 h8 O8 SRC8
                go_wp2_with fail
                go_meet
                case rel => exact ⟨F5, sendS st xv, S ++ [xv], V ++ [xv], P8.out, OD.out, by first | omega | (simp; omega), by first | omega | (simp; omega)⟩
              | nil =>
                by_cases hl : st.buf.length < st.size
                · have e1 : sendG st = ⟨true, false, false, 0, ⟨0, 0, 0⟩⟩ := by simp [sendG, hc, hr, hl]
                  have e2 : sendE st = 0 := by simp [sendE, hc]
                  have e3 : sendS st xv = sendS st xv := rfl
                  have OD := hide (O3.out.room xv hc hr hl)
                  have SD := hide (send_is B F st (sendS st xv) xv 0 ⟨true, false, false, 0, ⟨0, 0, 0⟩⟩ _ P4.out.p (by omega) (by omega) e1 e2 e3)
                  clear e1 e2 e3
                  unfold gv at SD
                  go_wp2_with fail
                  refine SD.out.mono ?_
                  rintro r w5 ⟨rfl, k5, F5, n5, p5⟩
                  have P5 := hide ((P4.out.step k5 n5 p5).below (below_alloc w5 (.cells #[.bool true, .bool false, .bool false, .int .i64 0, .int .i64 0, .int .i64 0, .int .i64 0] 49)))
                  have Q5 := hide (heap_below (k5.heap X4.out NX.out) (below_alloc w5 (.cells #[.bool true, .bool false, .bool false, .int .i64 0, .int .i64 0, .int .i64 0, .int .i64 0] 49)))
                  have A5 := hide (heap_new w5 (.cells #[.bool true, .bool false, .bool false, .int .i64 0, .int .i64 0, .int .i64 0, .int .i64 0] 49))
                  have hq5 := heap_lt Q5.out
                  have q3 : (w5.alloc (.cells #[.bool true, .bool false, .bool false, .int .i64 0, .int .i64 0, .int .i64 0, .int .i64 0] 49)).cell? ⟨sb, 3, none⟩ = some (.int .i64 xv) := cell_of Q5.out 3
                  have BX6 := below_alloc (w5.alloc (.cells #[.bool true, .bool false, .bool false, .int .i64 0, .int .i64 0, .int .i64 0, .int .i64 0] 49)) (.cells #[.int .i64 xv] 3)
                  have O6 := hide (P5.out.below BX6)
                  have src6 := cell_one_new (w5.alloc (.cells #[.bool true, .bool false, .bool false, .int .i64 0, .int .i64 0, .int .i64 0, .int .i64 0] 49)) (.int .i64 xv) 3
                  rw [World.size_alloc] at src6
                  have SRC6 := hide src6
                  clear src6
                  have Q6 := hide (heap_below Q5.out BX6)
                  have A6 := hide (heap_below A5.out BX6)
                  have hsz6 : ((w5.alloc (.cells #[.bool true, .bool false, .bool false, .int .i64 0, .int .i64 0, .int .i64 0, .int .i64 0] 49)).alloc (.cells #[.int .i64 xv] 3)).heap.size = w5.heap.size + 1 + 1 := by rw [World.size_alloc, World.size_alloc]
                  clear k5 n5 p5 BX6
                  go_wp2_with (at_builtin; refine wpList_append_own_at _ rfl _ _ 38 rfl w.heap.size 3 i0 (.int .i64 0) 1 8 Try.underlying38 INF.out.1 INF.out.2.1 INF.out.2.2.1 INF.out.2.2.2 rfl (by decide) _ _ _ rfl O6.out.rs ⟨w5.heap.size + 1, 0, none⟩ 1 1 [.int .i64 xv] rfl rfl ?c1 ?c2 ?c3 ?c4 ?c5 ?_)
                  case c1 => exact SRC6.out
                  case c2 => exact ic_one [xv]
                  case c3 => unfold maxLen; omega
                  case c4 => omega
                  case c5 => exact O6.out.b.size
                  intro v6 w6 r6 g6 _ h6
                  have P6 := hide (O6.out.appS r6 g6 h6 (by rw [hsz6]))
                  have Q7 := hide (O6.out.keepS g6 Q6.out (by decide))
                  have A7 := hide (O6.out.keepS g6 A6.out (by decide))
                  have a2 : w6.cell? ⟨w5.heap.size, 2, none⟩ = some (.bool false) := cell_of A7.out 2
                  clear r6 g6 h6 O6 SRC6
                  go_wp2_with fail
                  go_meet
                  case rel => exact ⟨F5, sendS st xv, S ++ [xv], V, P6.out, OD.out, by first | omega | (simp; omega), by first | omega | (simp; omega)⟩
                · have e1 : sendG st = gz := by simp [sendG, hc, hr, hl]
                  have e2 : sendE st = 0 := by simp [sendE, hc]
                  have e3 : sendS st xv = st := by simp [sendS, hc, hr, hl]
                  have SD := hide (send_is B F st (st) xv 0 gz _ P4.out.p (by omega) (by omega) e1 e2 e3)
                  clear e1 e2 e3
                  unfold gv gz at SD
                  go_wp2_with fail
                  refine SD.out.mono ?_
                  rintro r w5 ⟨rfl, k5, F5, n5, p5⟩
                  have P5 := hide ((P4.out.step k5 n5 p5).below (below_alloc w5 (.cells #[.bool false, .bool false, .bool false, .int .i64 0, .int .i64 0, .int .i64 0, .int .i64 0] 49)))
                  clear k5 n5 p5
                  go_wp2_with fail
                  go_meet
                  case rel => exact ⟨F5, st, S, V, P5.out, O3.out, by first | omega | (simp; omega), by first | omega | (simp; omega)⟩
          · rcases Bool.eq_false_or_eq_true st.closed with hc | hc
            · have e1 : sendG st = gz := by simp [sendG, hc]
              have e2 : sendE st = 90 := by simp [sendE, hc]
              have e3 : sendS st xv = st := by simp [sendS, hc]
              have SD := hide (send_is B F st (st) xv 90 gz _ P4.out.p (by omega) (by omega) e1 e2 e3)
              clear e1 e2 e3
              unfold gv gz at SD
              go_wp2_with fail
              refine SD.out.mono ?_
              rintro r w5 ⟨rfl, k5, F5, n5, p5⟩
              have P5 := hide ((P4.out.step k5 n5 p5).below (below_alloc w5 (.cells #[.bool false, .bool false, .bool false, .int .i64 0, .int .i64 0, .int .i64 0, .int .i64 0] 49)))
              clear k5 n5 p5
              go_wp2_with fail
              go_meet
              case rel => exact ⟨F5, st, S, V, P5.out, O3.out, by first | omega | (simp; omega), by first | omega | (simp; omega)⟩
            · cases hr : st.rcv with
              | cons y t =>
                have e1 : sendG st = ⟨true, false, true, 0, y⟩ := by simp [sendG, hc, hr]
                have e2 : sendE st = 0 := by simp [sendE, hc]
                have e3 : sendS st xv = sendS st xv := rfl
                have OD := hide (O3.out.woke xv y t hc hr)
                have SD := hide (send_is B F st (sendS st xv) xv 0 ⟨true, false, true, 0, y⟩ _ P4.out.p (by omega) (by omega) e1 e2 e3)
                clear e1 e2 e3
                unfold gv at SD
                go_wp2_with fail
                refine SD.out.mono ?_
                rintro r w5 ⟨rfl, k5, F5, n5, p5⟩
                have P5 := hide ((P4.out.step k5 n5 p5).below (below_alloc w5 (.cells #[.bool true, .bool false, .bool true, .int .i64 0, .int .i64 y.g, .int .i64 y.c, .int .i64 y.v] 49)))
                have Q5 := hide (heap_below (k5.heap X4.out NX.out) (below_alloc w5 (.cells #[.bool true, .bool false, .bool true, .int .i64 0, .int .i64 y.g, .int .i64 y.c, .int .i64 y.v] 49)))
                have A5 := hide (heap_new w5 (.cells #[.bool true, .bool false, .bool true, .int .i64 0, .int .i64 y.g, .int .i64 y.c, .int .i64 y.v] 49))
                have hq5 := heap_lt Q5.out
                have q3 : (w5.alloc (.cells #[.bool true, .bool false, .bool true, .int .i64 0, .int .i64 y.g, .int .i64 y.c, .int .i64 y.v] 49)).cell? ⟨sb, 3, none⟩ = some (.int .i64 xv) := cell_of Q5.out 3
                have BX6 := below_alloc (w5.alloc (.cells #[.bool true, .bool false, .bool true, .int .i64 0, .int .i64 y.g, .int .i64 y.c, .int .i64 y.v] 49)) (.cells #[.int .i64 xv] 3)
                have O6 := hide (P5.out.below BX6)
                have src6 := cell_one_new (w5.alloc (.cells #[.bool true, .bool false, .bool true, .int .i64 0, .int .i64 y.g, .int .i64 y.c, .int .i64 y.v] 49)) (.int .i64 xv) 3
                rw [World.size_alloc] at src6
                have SRC6 := hide src6
                clear src6
                have Q6 := hide (heap_below Q5.out BX6)
                have A6 := hide (heap_below A5.out BX6)
                have hsz6 : ((w5.alloc (.cells #[.bool true, .bool false, .bool true, .int .i64 0, .int .i64 y.g, .int .i64 y.c, .int .i64 y.v] 49)).alloc (.cells #[.int .i64 xv] 3)).heap.size = w5.heap.size + 1 + 1 := by rw [World.size_alloc, World.size_alloc]
                clear k5 n5 p5 BX6
                go_wp2_with (at_builtin; refine wpList_append_own_at _ rfl _ _ 38 rfl w.heap.size 3 i0 (.int .i64 0) 1 8 Try.underlying38 INF.out.1 INF.out.2.1 INF.out.2.2.1 INF.out.2.2.2 rfl (by decide) _ _ _ rfl O6.out.rs ⟨w5.heap.size + 1, 0, none⟩ 1 1 [.int .i64 xv] rfl rfl ?c1 ?c2 ?c3 ?c4 ?c5 ?_)
                case c1 => exact SRC6.out
                case c2 => exact ic_one [xv]
                case c3 => unfold maxLen; omega
                case c4 => omega
                case c5 => exact O6.out.b.size
                intro v6 w6 r6 g6 _ h6
                have P6 := hide (O6.out.appS r6 g6 h6 (by rw [hsz6]))
                have Q7 := hide (O6.out.keepS g6 Q6.out (by decide))
                have A7 := hide (O6.out.keepS g6 A6.out (by decide))
                have a2 : w6.cell? ⟨w5.heap.size, 2, none⟩ = some (.bool true) := cell_of A7.out 2
                have q7 : w6.cell? ⟨sb, 3, none⟩ = some (.int .i64 xv) := cell_of Q7.out 3
                clear r6 g6 h6 O6 SRC6
                have BX8 := below_alloc w6 (.cells #[.int .i64 xv] 3)
                have O8 := hide (P6.out.below BX8)
                have src8 := cell_one_new w6 (.int .i64 xv) 3
                have SRC8 := hide src8
                clear src8
                have hsz8 : (w6.alloc (.cells #[.int .i64 xv] 3)).heap.size = w6.heap.size + 1 := World.size_alloc _ _
                clear BX8
                go_wp2_with (at_builtin; refine wpList_append_own_at _ rfl _ _ 38 rfl w.heap.size 3 i0 (.int .i64 0) 1 8 Try.underlying38 INF.out.1 INF.out.2.1 INF.out.2.2.1 INF.out.2.2.2 rfl (by decide) _ _ _ rfl O8.out.rv ⟨w6.heap.size, 0, none⟩ 1 1 [.int .i64 xv] rfl rfl ?c1 ?c2 ?c3 ?c4 ?c5 ?_)
                case c1 => exact SRC8.out
                case c2 => exact ic_one [xv]
                case c3 => unfold maxLen; omega
                case c4 => omega
                case c5 => exact O8.out.b.size
                intro v8 w8 r8 g8 _ h8
                have P8 := hide (O8.out.appV r8 g8 h8 (by rw [hsz8]))
                clear r8 g8 h8 O8 SRC8
                go_wp2_with fail
                go_meet
                case rel => exact ⟨F5, sendS st xv, S ++ [xv], V ++ [xv], P8.out, OD.out, by first | omega | (simp; omega), by first | omega | (simp; omega)⟩
              | nil =>
                by_cases hl : st.buf.length < st.size
                · have e1 : sendG st = ⟨true, false, false, 0, ⟨0, 0, 0⟩⟩ := by simp [sendG, hc, hr, hl]
                  have e2 : sendE st = 0 := by simp [sendE, hc]
                  have e3 : sendS st xv = sendS st xv := rfl
                  have OD := hide (O3.out.room xv hc hr hl)
                  have SD := hide (send_is B F st (sendS st xv) xv 0 ⟨true, false, false, 0, ⟨0, 0, 0⟩⟩ _ P4.out.p (by omega) (by omega) e1 e2 e3)
                  clear e1 e2 e3
                  unfold gv at SD
                  go_wp2_with fail
                  refine SD.out.mono ?_
                  rintro r w5 ⟨rfl, k5, F5, n5, p5⟩
                  have P5 := hide ((P4.out.step k5 n5 p5).below (below_alloc w5 (.cells #[.bool true, .bool false, .bool false, .int .i64 0, .int .i64 0, .int .i64 0, .int .i64 0] 49)))
                  have Q5 := hide (heap_below (k5.heap X4.out NX.out) (below_alloc w5 (.cells #[.bool true, .bool false, .bool false, .int .i64 0, .int .i64 0, .int .i64 0, .int .i64 0] 49)))
                  have A5 := hide (heap_new w5 (.cells #[.bool true, .bool false, .bool false, .int .i64 0, .int .i64 0, .int .i64 0, .int .i64 0] 49))
                  have hq5 := heap_lt Q5.out
                  have q3 : (w5.alloc (.cells #[.bool true, .bool false, .bool false, .int .i64 0, .int .i64 0, .int .i64 0, .int .i64 0] 49)).cell? ⟨sb, 3, none⟩ = some (.int .i64 xv) := cell_of Q5.out 3
                  have BX6 := below_alloc (w5.alloc (.cells #[.bool true, .bool false, .bool false, .int .i64 0, .int .i64 0, .int .i64 0, .int .i64 0] 49)) (.cells #[.int .i64 xv] 3)
                  have O6 := hide (P5.out.below BX6)
                  have src6 := cell_one_new (w5.alloc (.cells #[.bool true, .bool false, .bool false, .int .i64 0, .int .i64 0, .int .i64 0, .int .i64 0] 49)) (.int .i64 xv) 3
                  rw [World.size_alloc] at src6
                  have SRC6 := hide src6
                  clear src6
                  have Q6 := hide (heap_below Q5.out BX6)
                  have A6 := hide (heap_below A5.out BX6)
                  have hsz6 : ((w5.alloc (.cells #[.bool true, .bool false, .bool false, .int .i64 0, .int .i64 0, .int .i64 0, .int .i64 0] 49)).alloc (.cells #[.int .i64 xv] 3)).heap.size = w5.heap.size + 1 + 1 := by rw [World.size_alloc, World.size_alloc]
                  clear k5 n5 p5 BX6
                  go_wp2_with (at_builtin; refine wpList_append_own_at _ rfl _ _ 38 rfl w.heap.size 3 i0 (.int .i64 0) 1 8 Try.underlying38 INF.out.1 INF.out.2.1 INF.out.2.2.1 INF.out.2.2.2 rfl (by decide) _ _ _ rfl O6.out.rs ⟨w5.heap.size + 1, 0, none⟩ 1 1 [.int .i64 xv] rfl rfl ?c1 ?c2 ?c3 ?c4 ?c5 ?_)
                  case c1 => exact SRC6.out
                  case c2 => exact ic_one [xv]
                  case c3 => unfold maxLen; omega
                  case c4 => omega
                  case c5 => exact O6.out.b.size
                  intro v6 w6 r6 g6 _ h6
                  have P6 := hide (O6.out.appS r6 g6 h6 (by rw [hsz6]))
                  have Q7 := hide (O6.out.keepS g6 Q6.out (by decide))
                  have A7 := hide (O6.out.keepS g6 A6.out (by decide))
                  have a2 : w6.cell? ⟨w5.heap.size, 2, none⟩ = some (.bool false) := cell_of A7.out 2
                  clear r6 g6 h6 O6 SRC6
                  go_wp2_with fail
                  go_meet
                  case rel => exact ⟨F5, sendS st xv, S ++ [xv], V, P6.out, OD.out, by first | omega | (simp; omega), by first | omega | (simp; omega)⟩
                · have e1 : sendG st = gz := by simp [sendG, hc, hr, hl]
                  have e2 : sendE st = 0 := by simp [sendE, hc]
                  have e3 : sendS st xv = st := by simp [sendS, hc, hr, hl]
                  have SD := hide (send_is B F st (st) xv 0 gz _ P4.out.p (by omega) (by omega) e1 e2 e3)
                  clear e1 e2 e3
                  unfold gv gz at SD
                  go_wp2_with fail
                  refine SD.out.mono ?_
                  rintro r w5 ⟨rfl, k5, F5, n5, p5⟩
                  have P5 := hide ((P4.out.step k5 n5 p5).below (below_alloc w5 (.cells #[.bool false, .bool false, .bool false, .int .i64 0, .int .i64 0, .int .i64 0, .int .i64 0] 49)))
                  clear k5 n5 p5
                  go_wp2_with fail
                  go_meet
                  case rel => exact ⟨F5, st, S, V, P5.out, O3.out, by first | omega | (simp; omega), by first | omega | (simp; omega)⟩
        by_cases c23 : what = 2 ∨ what = 3
        · rcases c23 with rfl | rfl
          · cases hb : st.buf with
            | nil =>
              cases hr : st.snd with
              | nil =>
                have e1 : recvG st = ⟨st.closed, false, false, 0, ⟨0, 0, 0⟩⟩ := by simp [recvG, hb, hr]
                have e3 : recvS st = st := by simp [recvS, hb, hr]
                have RV := hide (recv_is B F st (st) ⟨st.closed, false, false, 0, ⟨0, 0, 0⟩⟩ _ P4.out.p (by omega) (by omega) e1 e3)
                clear e1 e3
                unfold gv at RV
                go_wp2_with fail
                refine RV.out.mono ?_
                rintro r w5 ⟨rfl, k5, F5, n5, p5⟩
                have P5 := hide ((P4.out.step k5 n5 p5).below (below_alloc w5 (.cells #[.bool st.closed, .bool false, .bool false, .int .i64 0, .int .i64 0, .int .i64 0, .int .i64 0] 49)))
                clear k5 n5 p5
                go_wp2_with fail
                go_meet
                case rel => exact ⟨F5, st, S, V, P5.out, O3.out, by first | omega | (simp; omega), by first | omega | (simp; omega)⟩
              | cons y t =>
                have e1 : recvG st = ⟨true, true, true, y.v, y⟩ := by simp [recvG, hb, hr]
                have e3 : recvS st = recvS st := rfl
                have OD := hide (O3.out.rsnd y t hb hr)
                have RV := hide (recv_is B F st (recvS st) ⟨true, true, true, y.v, y⟩ _ P4.out.p (by omega) (by omega) e1 e3)
                clear e1 e3
                unfold gv at RV
                go_wp2_with fail
                refine RV.out.mono ?_
                rintro r w5 ⟨rfl, k5, F5, n5, p5⟩
                have P5 := hide ((P4.out.step k5 n5 p5).below (below_alloc w5 (.cells #[.bool true, .bool true, .bool true, .int .i64 y.v, .int .i64 y.g, .int .i64 y.c, .int .i64 y.v] 49)))
                have A5 := hide (heap_new w5 (.cells #[.bool true, .bool true, .bool true, .int .i64 y.v, .int .i64 y.g, .int .i64 y.c, .int .i64 y.v] 49))
                have BX6 := below_alloc (w5.alloc (.cells #[.bool true, .bool true, .bool true, .int .i64 y.v, .int .i64 y.g, .int .i64 y.c, .int .i64 y.v] 49)) (.cells #[.int .i64 y.v] 3)
                have O6 := hide (P5.out.below BX6)
                have src6 := cell_one_new (w5.alloc (.cells #[.bool true, .bool true, .bool true, .int .i64 y.v, .int .i64 y.g, .int .i64 y.c, .int .i64 y.v] 49)) (.int .i64 y.v) 3
                rw [World.size_alloc] at src6
                have SRC6 := hide src6
                clear src6
                have A6 := hide (heap_below A5.out BX6)
                have hsz6 : ((w5.alloc (.cells #[.bool true, .bool true, .bool true, .int .i64 y.v, .int .i64 y.g, .int .i64 y.c, .int .i64 y.v] 49)).alloc (.cells #[.int .i64 y.v] 3)).heap.size = w5.heap.size + 1 + 1 := by rw [World.size_alloc, World.size_alloc]
                clear k5 n5 p5 BX6
                go_wp2_with (at_builtin; refine wpList_append_own_at _ rfl _ _ 38 rfl w.heap.size 3 i0 (.int .i64 0) 1 8 Try.underlying38 INF.out.1 INF.out.2.1 INF.out.2.2.1 INF.out.2.2.2 rfl (by decide) _ _ _ rfl O6.out.rv ⟨w5.heap.size + 1, 0, none⟩ 1 1 [.int .i64 y.v] rfl rfl ?c1 ?c2 ?c3 ?c4 ?c5 ?_)
                case c1 => exact SRC6.out
                case c2 => exact ic_one [y.v]
                case c3 => unfold maxLen; omega
                case c4 => omega
                case c5 => exact O6.out.b.size
                intro v6 w6 r6 g6 _ h6
                have P6 := hide (O6.out.appV r6 g6 h6 (by rw [hsz6]))
                have A7 := hide (O6.out.keepV g6 A6.out (by decide))
                have a2 : w6.cell? ⟨w5.heap.size, 2, none⟩ = some (.bool true) := cell_of A7.out 2
                have a6 : w6.cell? ⟨w5.heap.size, 6, none⟩ = some (.int .i64 y.v) := cell_of A7.out 6
                clear r6 g6 h6 O6 SRC6
                have BX8 := below_alloc w6 (.cells #[.int .i64 y.v] 3)
                have O8 := hide (P6.out.below BX8)
                have src8 := cell_one_new w6 (.int .i64 y.v) 3
                have SRC8 := hide src8
                clear src8
                have hsz8 : (w6.alloc (.cells #[.int .i64 y.v] 3)).heap.size = w6.heap.size + 1 := World.size_alloc _ _
                clear BX8
                go_wp2_with (at_builtin; refine wpList_append_own_at _ rfl _ _ 38 rfl w.heap.size 3 i0 (.int .i64 0) 1 8 Try.underlying38 INF.out.1 INF.out.2.1 INF.out.2.2.1 INF.out.2.2.2 rfl (by decide) _ _ _ rfl O8.out.rs ⟨w6.heap.size, 0, none⟩ 1 1 [.int .i64 y.v] rfl rfl ?c1 ?c2 ?c3 ?c4 ?c5 ?_)
                case c1 => exact SRC8.out
                case c2 => exact ic_one [y.v]
                case c3 => unfold maxLen; omega
                case c4 => omega
                case c5 => exact O8.out.b.size
                intro v8 w8 r8 g8 _ h8
                have P8 := hide (O8.out.appS r8 g8 h8 (by rw [hsz8]))
                clear r8 g8 h8 O8 SRC8
                go_wp2_with fail
                go_meet
                case rel => exact ⟨F5, recvS st, S ++ [y.v], V ++ [y.v], P8.out, OD.out, by first | omega | (simp; omega), by first | omega | (simp; omega)⟩
            | cons x b =>
              cases hr : st.snd with
              | nil =>
                have e1 : recvG st = ⟨true, true, false, x, ⟨0, 0, 0⟩⟩ := by simp [recvG, hb, hr]
                have e3 : recvS st = recvS st := rfl
                have OD := hide (O3.out.rbuf x b hb hr)
                have RV := hide (recv_is B F st (recvS st) ⟨true, true, false, x, ⟨0, 0, 0⟩⟩ _ P4.out.p (by omega) (by omega) e1 e3)
                clear e1 e3
                unfold gv at RV
                go_wp2_with fail
                refine RV.out.mono ?_
                rintro r w5 ⟨rfl, k5, F5, n5, p5⟩
                have P5 := hide ((P4.out.step k5 n5 p5).below (below_alloc w5 (.cells #[.bool true, .bool true, .bool false, .int .i64 x, .int .i64 0, .int .i64 0, .int .i64 0] 49)))
                have A5 := hide (heap_new w5 (.cells #[.bool true, .bool true, .bool false, .int .i64 x, .int .i64 0, .int .i64 0, .int .i64 0] 49))
                have BX6 := below_alloc (w5.alloc (.cells #[.bool true, .bool true, .bool false, .int .i64 x, .int .i64 0, .int .i64 0, .int .i64 0] 49)) (.cells #[.int .i64 x] 3)
                have O6 := hide (P5.out.below BX6)
                have src6 := cell_one_new (w5.alloc (.cells #[.bool true, .bool true, .bool false, .int .i64 x, .int .i64 0, .int .i64 0, .int .i64 0] 49)) (.int .i64 x) 3
                rw [World.size_alloc] at src6
                have SRC6 := hide src6
                clear src6
                have A6 := hide (heap_below A5.out BX6)
                have hsz6 : ((w5.alloc (.cells #[.bool true, .bool true, .bool false, .int .i64 x, .int .i64 0, .int .i64 0, .int .i64 0] 49)).alloc (.cells #[.int .i64 x] 3)).heap.size = w5.heap.size + 1 + 1 := by rw [World.size_alloc, World.size_alloc]
                clear k5 n5 p5 BX6
                go_wp2_with (at_builtin; refine wpList_append_own_at _ rfl _ _ 38 rfl w.heap.size 3 i0 (.int .i64 0) 1 8 Try.underlying38 INF.out.1 INF.out.2.1 INF.out.2.2.1 INF.out.2.2.2 rfl (by decide) _ _ _ rfl O6.out.rv ⟨w5.heap.size + 1, 0, none⟩ 1 1 [.int .i64 x] rfl rfl ?c1 ?c2 ?c3 ?c4 ?c5 ?_)
                case c1 => exact SRC6.out
                case c2 => exact ic_one [x]
                case c3 => unfold maxLen; omega
                case c4 => omega
                case c5 => exact O6.out.b.size
                intro v6 w6 r6 g6 _ h6
                have P6 := hide (O6.out.appV r6 g6 h6 (by rw [hsz6]))
                have A7 := hide (O6.out.keepV g6 A6.out (by decide))
                have a2 : w6.cell? ⟨w5.heap.size, 2, none⟩ = some (.bool false) := cell_of A7.out 2
                have a6 : w6.cell? ⟨w5.heap.size, 6, none⟩ = some (.int .i64 0) := cell_of A7.out 6
                clear r6 g6 h6 O6 SRC6
                go_wp2_with fail
                go_meet
                case rel => exact ⟨F5, recvS st, S, V ++ [x], P6.out, OD.out, by first | omega | (simp; omega), by first | omega | (simp; omega)⟩
              | cons y t =>
                have e1 : recvG st = ⟨true, true, true, x, y⟩ := by simp [recvG, hb, hr]
                have e3 : recvS st = recvS st := rfl
                have OD := hide (O3.out.rboth x b y t hb hr)
                have RV := hide (recv_is B F st (recvS st) ⟨true, true, true, x, y⟩ _ P4.out.p (by omega) (by omega) e1 e3)
                clear e1 e3
                unfold gv at RV
                go_wp2_with fail
                refine RV.out.mono ?_
                rintro r w5 ⟨rfl, k5, F5, n5, p5⟩
                have P5 := hide ((P4.out.step k5 n5 p5).below (below_alloc w5 (.cells #[.bool true, .bool true, .bool true, .int .i64 x, .int .i64 y.g, .int .i64 y.c, .int .i64 y.v] 49)))
                have A5 := hide (heap_new w5 (.cells #[.bool true, .bool true, .bool true, .int .i64 x, .int .i64 y.g, .int .i64 y.c, .int .i64 y.v] 49))
                have BX6 := below_alloc (w5.alloc (.cells #[.bool true, .bool true, .bool true, .int .i64 x, .int .i64 y.g, .int .i64 y.c, .int .i64 y.v] 49)) (.cells #[.int .i64 x] 3)
                have O6 := hide (P5.out.below BX6)
                have src6 := cell_one_new (w5.alloc (.cells #[.bool true, .bool true, .bool true, .int .i64 x, .int .i64 y.g, .int .i64 y.c, .int .i64 y.v] 49)) (.int .i64 x) 3
                rw [World.size_alloc] at src6
                have SRC6 := hide src6
                clear src6
                have A6 := hide (heap_below A5.out BX6)
                have hsz6 : ((w5.alloc (.cells #[.bool true, .bool true, .bool true, .int .i64 x, .int .i64 y.g, .int .i64 y.c, .int .i64 y.v] 49)).alloc (.cells #[.int .i64 x] 3)).heap.size = w5.heap.size + 1 + 1 := by rw [World.size_alloc, World.size_alloc]
                clear k5 n5 p5 BX6
                go_wp2_with (at_builtin; refine wpList_append_own_at _ rfl _ _ 38 rfl w.heap.size 3 i0 (.int .i64 0) 1 8 Try.underlying38 INF.out.1 INF.out.2.1 INF.out.2.2.1 INF.out.2.2.2 rfl (by decide) _ _ _ rfl O6.out.rv ⟨w5.heap.size + 1, 0, none⟩ 1 1 [.int .i64 x] rfl rfl ?c1 ?c2 ?c3 ?c4 ?c5 ?_)
                case c1 => exact SRC6.out
                case c2 => exact ic_one [x]
                case c3 => unfold maxLen; omega
                case c4 => omega
                case c5 => exact O6.out.b.size
                intro v6 w6 r6 g6 _ h6
                have P6 := hide (O6.out.appV r6 g6 h6 (by rw [hsz6]))
                have A7 := hide (O6.out.keepV g6 A6.out (by decide))
                have a2 : w6.cell? ⟨w5.heap.size, 2, none⟩ = some (.bool true) := cell_of A7.out 2
                have a6 : w6.cell? ⟨w5.heap.size, 6, none⟩ = some (.int .i64 y.v) := cell_of A7.out 6
                clear r6 g6 h6 O6 SRC6
                have BX8 := below_alloc w6 (.cells #[.int .i64 y.v] 3)
                have O8 := hide (P6.out.below BX8)
                have src8 := cell_one_new w6 (.int .i64 y.v) 3
                have SRC8 := hide src8
                clear src8
                have hsz8 : (w6.alloc (.cells #[.int .i64 y.v] 3)).heap.size = w6.heap.size + 1 := World.size_alloc _ _
                clear BX8
                go_wp2_with (at_builtin; refine wpList_append_own_at _ rfl _ _ 38 rfl w.heap.size 3 i0 (.int .i64 0) 1 8 Try.underlying38 INF.out.1 INF.out.2.1 INF.out.2.2.1 INF.out.2.2.2 rfl (by decide) _ _ _ rfl O8.out.rs ⟨w6.heap.size, 0, none⟩ 1 1 [.int .i64 y.v] rfl rfl ?c1 ?c2 ?c3 ?c4 ?c5 ?_)
                case c1 => exact SRC8.out
                case c2 => exact ic_one [y.v]
                case c3 => unfold maxLen; omega
                case c4 => omega
                case c5 => exact O8.out.b.size
                intro v8 w8 r8 g8 _ h8
                have P8 := hide (O8.out.appS r8 g8 h8 (by rw [hsz8]))
                clear r8 g8 h8 O8 SRC8
                go_wp2_with fail
                go_meet
                case rel => exact ⟨F5, recvS st, S ++ [y.v], V ++ [x], P8.out, OD.out, by first | omega | (simp; omega), by first | omega | (simp; omega)⟩
          · cases hb : st.buf with
            | nil =>
              cases hr : st.snd with
              | nil =>
                have e1 : recvG st = ⟨st.closed, false, false, 0, ⟨0, 0, 0⟩⟩ := by simp [recvG, hb, hr]
                have e3 : recvS st = st := by simp [recvS, hb, hr]
                have RV := hide (recv_is B F st (st) ⟨st.closed, false, false, 0, ⟨0, 0, 0⟩⟩ _ P4.out.p (by omega) (by omega) e1 e3)
                clear e1 e3
                unfold gv at RV
                go_wp2_with fail
                refine RV.out.mono ?_
                rintro r w5 ⟨rfl, k5, F5, n5, p5⟩
                have P5 := hide ((P4.out.step k5 n5 p5).below (below_alloc w5 (.cells #[.bool st.closed, .bool false, .bool false, .int .i64 0, .int .i64 0, .int .i64 0, .int .i64 0] 49)))
                clear k5 n5 p5
                go_wp2_with fail
                go_meet
                case rel => exact ⟨F5, st, S, V, P5.out, O3.out, by first | omega | (simp; omega), by first | omega | (simp; omega)⟩
              | cons y t =>
                have e1 : recvG st = ⟨true, true, true, y.v, y⟩ := by simp [recvG, hb, hr]
                have e3 : recvS st = recvS st := rfl
                have OD := hide (O3.out.rsnd y t hb hr)
                have RV := hide (recv_is B F st (recvS st) ⟨true, true, true, y.v, y⟩ _ P4.out.p (by omega) (by omega) e1 e3)
                clear e1 e3
                unfold gv at RV
                go_wp2_with fail
                refine RV.out.mono ?_
                rintro r w5 ⟨rfl, k5, F5, n5, p5⟩
                have P5 := hide ((P4.out.step k5 n5 p5).below (below_alloc w5 (.cells #[.bool true, .bool true, .bool true, .int .i64 y.v, .int .i64 y.g, .int .i64 y.c, .int .i64 y.v] 49)))
                have A5 := hide (heap_new w5 (.cells #[.bool true, .bool true, .bool true, .int .i64 y.v, .int .i64 y.g, .int .i64 y.c, .int .i64 y.v] 49))
                have BX6 := below_alloc (w5.alloc (.cells #[.bool true, .bool true, .bool true, .int .i64 y.v, .int .i64 y.g, .int .i64 y.c, .int .i64 y.v] 49)) (.cells #[.int .i64 y.v] 3)
                have O6 := hide (P5.out.below BX6)
                have src6 := cell_one_new (w5.alloc (.cells #[.bool true, .bool true, .bool true, .int .i64 y.v, .int .i64 y.g, .int .i64 y.c, .int .i64 y.v] 49)) (.int .i64 y.v) 3
                rw [World.size_alloc] at src6
                have SRC6 := hide src6
                clear src6
                have A6 := hide (heap_below A5.out BX6)
                have hsz6 : ((w5.alloc (.cells #[.bool true, .bool true, .bool true, .int .i64 y.v, .int .i64 y.g, .int .i64 y.c, .int .i64 y.v] 49)).alloc (.cells #[.int .i64 y.v] 3)).heap.size = w5.heap.size + 1 + 1 := by rw [World.size_alloc, World.size_alloc]
                clear k5 n5 p5 BX6
                go_wp2_with (at_builtin; refine wpList_append_own_at _ rfl _ _ 38 rfl w.heap.size 3 i0 (.int .i64 0) 1 8 Try.underlying38 INF.out.1 INF.out.2.1 INF.out.2.2.1 INF.out.2.2.2 rfl (by decide) _ _ _ rfl O6.out.rv ⟨w5.heap.size + 1, 0, none⟩ 1 1 [.int .i64 y.v] rfl rfl ?c1 ?c2 ?c3 ?c4 ?c5 ?_)
                case c1 => exact SRC6.out
                case c2 => exact ic_one [y.v]
                case c3 => unfold maxLen; omega
                case c4 => omega
                case c5 => exact O6.out.b.size
                intro v6 w6 r6 g6 _ h6
                have P6 := hide (O6.out.appV r6 g6 h6 (by rw [hsz6]))
                have A7 := hide (O6.out.keepV g6 A6.out (by decide))
                have a2 : w6.cell? ⟨w5.heap.size, 2, none⟩ = some (.bool true) := cell_of A7.out 2
                have a6 : w6.cell? ⟨w5.heap.size, 6, none⟩ = some (.int .i64 y.v) := cell_of A7.out 6
                clear r6 g6 h6 O6 SRC6
                have BX8 := below_alloc w6 (.cells #[.int .i64 y.v] 3)
                have O8 := hide (P6.out.below BX8)
                have src8 := cell_one_new w6 (.int .i64 y.v) 3
                have SRC8 := hide src8
                clear src8
                have hsz8 : (w6.alloc (.cells #[.int .i64 y.v] 3)).heap.size = w6.heap.size + 1 := World.size_alloc _ _
                clear BX8
                go_wp2_with (at_builtin; refine wpList_append_own_at _ rfl _ _ 38 rfl w.heap.size 3 i0 (.int .i64 0) 1 8 Try.underlying38 INF.out.1 INF.out.2.1 INF.out.2.2.1 INF.out.2.2.2 rfl (by decide) _ _ _ rfl O8.out.rs ⟨w6.heap.size, 0, none⟩ 1 1 [.int .i64 y.v] rfl rfl ?c1 ?c2 ?c3 ?c4 ?c5 ?_)
                case c1 => exact SRC8.out
                case c2 => exact ic_one [y.v]
                case c3 => unfold maxLen; omega
                case c4 => omega
                case c5 => exact O8.out.b.size
                intro v8 w8 r8 g8 _ h8
                have P8 := hide (O8.out.appS r8 g8 h8 (by rw [hsz8]))
                clear r8 g8 h8 O8 SRC8
                go_wp2_with fail
                go_meet
                case rel => exact ⟨F5, recvS st, S ++ [y.v], V ++ [y.v], P8.out, OD.out, by first | omega | (simp; omega), by first | omega | (simp; omega)⟩
            | cons x b =>
              cases hr : st.snd with
              | nil =>
                have e1 : recvG st = ⟨true, true, false, x, ⟨0, 0, 0⟩⟩ := by simp [recvG, hb, hr]
                have e3 : recvS st = recvS st := rfl
                have OD := hide (O3.out.rbuf x b hb hr)
                have RV := hide (recv_is B F st (recvS st) ⟨true, true, false, x, ⟨0, 0, 0⟩⟩ _ P4.out.p (by omega) (by omega) e1 e3)
                clear e1 e3
                unfold gv at RV
                go_wp2_with fail
                refine RV.out.mono ?_
                rintro r w5 ⟨rfl, k5, F5, n5, p5⟩
                have P5 := hide ((P4.out.step k5 n5 p5).below (below_alloc w5 (.cells #[.bool true, .bool true, .bool false, .int .i64 x, .int .i64 0, .int .i64 0, .int .i64 0] 49)))
                have A5 := hide (heap_new w5 (.cells #[.bool true, .bool true, .bool false, .int .i64 x, .int .i64 0, .int .i64 0, .int .i64 0] 49))
                have BX6 := below_alloc (w5.alloc (.cells #[.bool true, .bool true, .bool false, .int .i64 x, .int .i64 0, .int .i64 0, .int .i64 0] 49)) (.cells #[.int .i64 x] 3)
                have O6 := hide (P5.out.below BX6)
                have src6 := cell_one_new (w5.alloc (.cells #[.bool true, .bool true, .bool false, .int .i64 x, .int .i64 0, .int .i64 0, .int .i64 0] 49)) (.int .i64 x) 3
                rw [World.size_alloc] at src6
                have SRC6 := hide src6
                clear src6
                have A6 := hide (heap_below A5.out BX6)
                have hsz6 : ((w5.alloc (.cells #[.bool true, .bool true, .bool false, .int .i64 x, .int .i64 0, .int .i64 0, .int .i64 0] 49)).alloc (.cells #[.int .i64 x] 3)).heap.size = w5.heap.size + 1 + 1 := by rw [World.size_alloc, World.size_alloc]
                clear k5 n5 p5 BX6
                go_wp2_with (at_builtin; refine wpList_append_own_at _ rfl _ _ 38 rfl w.heap.size 3 i0 (.int .i64 0) 1 8 Try.underlying38 INF.out.1 INF.out.2.1 INF.out.2.2.1 INF.out.2.2.2 rfl (by decide) _ _ _ rfl O6.out.rv ⟨w5.heap.size + 1, 0, none⟩ 1 1 [.int .i64 x] rfl rfl ?c1 ?c2 ?c3 ?c4 ?c5 ?_)
                case c1 => exact SRC6.out
                case c2 => exact ic_one [x]
                case c3 => unfold maxLen; omega
                case c4 => omega
                case c5 => exact O6.out.b.size
                intro v6 w6 r6 g6 _ h6
                have P6 := hide (O6.out.appV r6 g6 h6 (by rw [hsz6]))
                have A7 := hide (O6.out.keepV g6 A6.out (by decide))
                have a2 : w6.cell? ⟨w5.heap.size, 2, none⟩ = some (.bool false) := cell_of A7.out 2
                have a6 : w6.cell? ⟨w5.heap.size, 6, none⟩ = some (.int .i64 0) := cell_of A7.out 6
                clear r6 g6 h6 O6 SRC6
                go_wp2_with fail
                go_meet
                case rel => exact ⟨F5, recvS st, S, V ++ [x], P6.out, OD.out, by first | omega | (simp; omega), by first | omega | (simp; omega)⟩
              | cons y t =>
                have e1 : recvG st = ⟨true, true, true, x, y⟩ := by simp [recvG, hb, hr]
                have e3 : recvS st = recvS st := rfl
                have OD := hide (O3.out.rboth x b y t hb hr)
                have RV := hide (recv_is B F st (recvS st) ⟨true, true, true, x, y⟩ _ P4.out.p (by omega) (by omega) e1 e3)
                clear e1 e3
                unfold gv at RV
                go_wp2_with fail
                refine RV.out.mono ?_
                rintro r w5 ⟨rfl, k5, F5, n5, p5⟩
                have P5 := hide ((P4.out.step k5 n5 p5).below (below_alloc w5 (.cells #[.bool true, .bool true, .bool true, .int .i64 x, .int .i64 y.g, .int .i64 y.c, .int .i64 y.v] 49)))
                have A5 := hide (heap_new w5 (.cells #[.bool true, .bool true, .bool true, .int .i64 x, .int .i64 y.g, .int .i64 y.c, .int .i64 y.v] 49))
                have BX6 := below_alloc (w5.alloc (.cells #[.bool true, .bool true, .bool true, .int .i64 x, .int .i64 y.g, .int .i64 y.c, .int .i64 y.v] 49)) (.cells #[.int .i64 x] 3)
                have O6 := hide (P5.out.below BX6)
                have src6 := cell_one_new (w5.alloc (.cells #[.bool true, .bool true, .bool true, .int .i64 x, .int .i64 y.g, .int .i64 y.c, .int .i64 y.v] 49)) (.int .i64 x) 3
                rw [World.size_alloc] at src6
                have SRC6 := hide src6
                clear src6
                have A6 := hide (heap_below A5.out BX6)
                have hsz6 : ((w5.alloc (.cells #[.bool true, .bool true, .bool true, .int .i64 x, .int .i64 y.g, .int .i64 y.c, .int .i64 y.v] 49)).alloc (.cells #[.int .i64 x] 3)).heap.size = w5.heap.size + 1 + 1 := by rw [World.size_alloc, World.size_alloc]
                clear k5 n5 p5 BX6
                go_wp2_with (at_builtin; refine wpList_append_own_at _ rfl _ _ 38 rfl w.heap.size 3 i0 (.int .i64 0) 1 8 Try.underlying38 INF.out.1 INF.out.2.1 INF.out.2.2.1 INF.out.2.2.2 rfl (by decide) _ _ _ rfl O6.out.rv ⟨w5.heap.size + 1, 0, none⟩ 1 1 [.int .i64 x] rfl rfl ?c1 ?c2 ?c3 ?c4 ?c5 ?_)
                case c1 => exact SRC6.out
                case c2 => exact ic_one [x]
                case c3 => unfold maxLen; omega
                case c4 => omega
                case c5 => exact O6.out.b.size
                intro v6 w6 r6 g6 _ h6
                have P6 := hide (O6.out.appV r6 g6 h6 (by rw [hsz6]))
                have A7 := hide (O6.out.keepV g6 A6.out (by decide))
                have a2 : w6.cell? ⟨w5.heap.size, 2, none⟩ = some (.bool true) := cell_of A7.out 2
                have a6 : w6.cell? ⟨w5.heap.size, 6, none⟩ = some (.int .i64 y.v) := cell_of A7.out 6
                clear r6 g6 h6 O6 SRC6
                have BX8 := below_alloc w6 (.cells #[.int .i64 y.v] 3)
                have O8 := hide (P6.out.below BX8)
                have src8 := cell_one_new w6 (.int .i64 y.v) 3
                have SRC8 := hide src8
                clear src8
                have hsz8 : (w6.alloc (.cells #[.int .i64 y.v] 3)).heap.size = w6.heap.size + 1 := World.size_alloc _ _
                clear BX8
                go_wp2_with (at_builtin; refine wpList_append_own_at _ rfl _ _ 38 rfl w.heap.size 3 i0 (.int .i64 0) 1 8 Try.underlying38 INF.out.1 INF.out.2.1 INF.out.2.2.1 INF.out.2.2.2 rfl (by decide) _ _ _ rfl O8.out.rs ⟨w6.heap.size, 0, none⟩ 1 1 [.int .i64 y.v] rfl rfl ?c1 ?c2 ?c3 ?c4 ?c5 ?_)
                case c1 => exact SRC8.out
                case c2 => exact ic_one [y.v]
                case c3 => unfold maxLen; omega
                case c4 => omega
                case c5 => exact O8.out.b.size
                intro v8 w8 r8 g8 _ h8
                have P8 := hide (O8.out.appS r8 g8 h8 (by rw [hsz8]))
                clear r8 g8 h8 O8 SRC8
                go_wp2_with fail
                go_meet
                case rel => exact ⟨F5, recvS st, S ++ [y.v], V ++ [x], P8.out, OD.out, by first | omega | (simp; omega), by first | omega | (simp; omega)⟩
        by_cases c4 : what = 4
        · subst c4
          have WT := hide (wait_any B F st true ⟨xg, xc, xv⟩ _ P4.out.p)
          have hw := waitS_le st true ⟨xg, xc, xv⟩
          have hwb : (waitS st true ⟨xg, xc, xv⟩).buf = st.buf := by unfold waitS; split <;> rfl
          unfold wv at WT
          go_wp2_with fail
          refine WT.out.mono ?_
          rintro r w5 ⟨rfl, k5, F5, n5, p5⟩
          have P5 := hide (P4.out.step k5 n5 p5)
          clear k5 n5 p5
          go_wp2_with fail
          go_meet
          case rel => exact ⟨F5, waitS st true ⟨xg, xc, xv⟩, S, V, P5.out, O3.out.same hwb hw.1 hw.2.1 (O3.out.i.wait _ _), by omega, by omega⟩
        by_cases c5 : what = 5
        · subst c5
          have WT := hide (wait_any B F st false ⟨xg, xc, xv⟩ _ P4.out.p)
          have hw := waitS_le st false ⟨xg, xc, xv⟩
          have hwb : (waitS st false ⟨xg, xc, xv⟩).buf = st.buf := by unfold waitS; split <;> rfl
          unfold wv at WT
          go_wp2_with fail
          refine WT.out.mono ?_
          rintro r w5 ⟨rfl, k5, F5, n5, p5⟩
          have P5 := hide (P4.out.step k5 n5 p5)
          clear k5 n5 p5
          go_wp2_with fail
          go_meet
          case rel => exact ⟨F5, waitS st false ⟨xg, xc, xv⟩, S, V, P5.out, O3.out.same hwb hw.1 hw.2.1 (O3.out.i.wait _ _), by omega, by omega⟩
        by_cases c6 : what = 6
        · subst c6
          have hw := closeS_le st
          have hwb : (closeS st).buf = st.buf := by unfold closeS; split <;> rfl
          go_wp2_with fail
          refine (close_any B F st _ P4.out.p).mono ?_
          rintro r w5 ⟨oc, cc, od, cd, rfl, -, k5, F5, n5, p5⟩
          have P5 := hide (P4.out.step k5 n5 p5)
          clear k5 n5 p5
          go_wp2_with fail
          go_meet
          case rel => exact ⟨F5, closeS st, S, V, P5.out, O3.out.same hwb hw.1 hw.2.1 O3.out.i.close, by omega, by omega⟩
        by_cases c7 : what = 7
        · subst c7
          go_wp2_with fail
          refine (Pi.drop_any B F st xg _ P4.out.p).mono ?_
          rintro r w5 ⟨rfl, k5, F5, n5, p5⟩
          have P5 := hide (P4.out.step k5 n5 p5)
          clear k5 n5 p5
          go_wp2_with fail
          go_meet
          case rel => exact ⟨F5, dropS st xg, S, V, P5.out, O3.out.same rfl rfl rfl (O3.out.i.drop _), by omega, by omega⟩
        have d0 : (what == 0) = false := by rw [beq_eq_false_iff_ne]; omega
        have d1 : (what == 1) = false := by rw [beq_eq_false_iff_ne]; omega
        have d2 : (what == 2) = false := by rw [beq_eq_false_iff_ne]; omega
        have d3 : (what == 3) = false := by rw [beq_eq_false_iff_ne]; omega
        have d4 : (what == 4) = false := by rw [beq_eq_false_iff_ne]; omega
        have d5 : (what == 5) = false := by rw [beq_eq_false_iff_ne]; omega
        have d6 : (what == 6) = false := by rw [beq_eq_false_iff_ne]; omega
        have d7 : (what == 7) = false := by rw [beq_eq_false_iff_ne]; omega
        go_wp2_with fail
        go_meet
        case rel => exact ⟨F, st, S, V, P4.out, O3.out, by omega, by omega⟩
      case rest =>
        clear P4 X4 NX O3 lS lV
        obtain ⟨F5, st5, S5, V5, p5, o5, l5, m5⟩ := hcut
        obtain ⟨oS, cS, eS, aS, _⟩ := own_at p5.rs
        obtain ⟨oV, cV, eV, aV, _⟩ := own_at p5.rv
        subst eS eV
        have P5 := hide p5
        have OD5 := hide o5
        have AS := hide aS
        have AV := hide aV
        have h1 := o5.s
        have h2 := o5.g
        have h3 : S5.length = V5.length + st5.buf.length := by rw [o5.e, List.length_append]
        have EN : Hid (∀ i, i < V5.length → nth V5 i = nth S5 i) := by
          intro i hi
          have := o5.e
          rw [this, nth_lt V5 i hi, nth_lt _ i (by simp; omega), List.getElem_append_left]
        clear p5 o5 aS aV
        have CT := hide fun u h => counts_is B F5 st5 S5.length V5.length u h h1 h2
        have LN := hide fun u h => Pi.len_any B F5 st5 u h
        clear h1 h2
        generalize hnS : S5.length = nS at *
        generalize hnV : V5.length = nV at *
        generalize hnb : st5.buf.length = nb at *
        have f2 : decide ((nS : Int) < (nV : Int)) = false := decide_eq_false (by omega)
        have f3 : (((nS : Int) - (nV : Int)) != (nb : Int)) = false := by simp only [bne_eq_false_iff_eq]; omega
        have hle : nV ≤ nS := by omega
        clear h3
        go_wp2_with fail
        refine (CT.out _ P5.out.p).mono ?_
        rintro r w6 ⟨rfl, b6⟩
        have P6 := hide (P5.out.below b6)
        have AS6 := hide (AS.out.below b6)
        have AV6 := hide (AV.out.below b6)
        clear b6
        go_wp2_with fail
        refine (LN.out _ P6.out.p).mono ?_
        rintro r w7 ⟨rfl, rfl⟩
        go_wp2_with fail
        go_loopw [151] (fun i wx => ∃ m : Nat, m ≤ nV ∧ i = .int .i64 m ∧ Below w7.heap.size w7 wx) (fun i _ => nV - (intOf i).toNat)
        case atStart => exact ⟨0, Nat.zero_le _, rfl, Below.refl _ _⟩
        case round =>
          rename World => wx
          obtain ⟨m, hm, rfl, bx⟩ := hrel
          have BX := hide bx
          clear bx
          by_cases hlm : m < nV
          · have hlm' : (m : Int) < (nV : Int) := by omega
            have hlm2 : (m : Int) < (nS : Int) := by omega
            obtain ⟨b1, o1, rfl, q1⟩ := (AV6.out.below BX.out) m (by omega)
            obtain ⟨b2, o2, rfl, q2⟩ := (AS6.out.below BX.out) m (by omega)
            rw [← EN.out m hlm] at q2
            go_wp2_with fail
            go_quiet (fail)
            go_wp2_with fail
            go_roundw
            case rel => exact ⟨m + 1, by omega, by go_num, btr BX.out (bdrew _ _)⟩
            case measure => simp [intOf]; omega
          · have hlm' : ¬ ((m : Int) < (nV : Int)) := by omega
            go_wp2_with fail
            go_roundw
            case rel => exact ⟨k + 1, F5, st5, S5, V5, by omega, rfl, P6.out.below BX.out, OD5.out, by omega, by omega⟩
            case measure => simp [intOf]; omega
    · have hlt' : ¬ ((k : Int) < (l.length : Int)) := by omega
      go_wp2_with fail
      refine (hands_any _).mono ?_
      rintro r w8 ⟨rfl, b8⟩
      have B8 := hide (btr T3.out.b b8)
      clear b8
      go_wp2_with fail
      go_ret
      exact ⟨rfl, B8.out⟩

/-! ### the row -/
set_option maxRecDepth 100000 in
theorem lifted (os : Os) (started : os.Started) (H : Type) (enc : TypeId × Value → H) :
    ReturnsInHanded {} Try.checked os 4 .any (Rows.pipeOrderSpec.pre6 enc Try.prog Try.f4 Rows.pipeOrderRow.domain false) (Rows.pipeOrderSpec.post enc Try.prog Try.f4 false true false false) := by
  refine returnsInHanded_of_change (C := Try.checked) own started (by kernel_rfl) Try.func4
    (ChangeSpec.witness6 (enc := enc) (C := Try.checked) false ⟨#[], #[.int .i64 0, .slice none 0 0], []⟩ 8 (by kernel_rfl) (by kernel_rfl) (by kernel_rfl) (by kernel_rfl)) ?_
  intro W base args ds gs before hval0 hW hcnd _
  have hval : ∀ (j : Nat) t v, Try.f4.params[j]? = some t → args[j]? = some v → Value.okWide Try.prog W .any base t v := hval0
  have hW' := hW
  obtain ⟨p, q, hA0, hV, rfl, hfz, hnd⟩ := hW
  have hA : DataW.TrodAll enc Try.prog W 0 (fun _ => true) true Try.f4.params.toList args.toList ds p := hA0
  rw [Try.params4] at hA hval
  obtain ⟨v0, vs0, d0, ds0, p0, q0, hargs, rfl, rfl, h0, r0⟩ := trodAll_cons hA
  obtain ⟨v1, vs1, d1, ds1, p1, q1, rfl, rfl, rfl, h1, r1⟩ := trodAll_cons r0
  obtain ⟨rfl, rfl, rfl⟩ := trodAll_nil r1
  obtain rfl : args = #[v0, v1] := by cases args; simp_all
  obtain ⟨rfl, rfl⟩ := trodVars_none hV
  obtain ⟨a0, rfl, rfl, rfl, w0⟩ := open_int Try.underlying3 (hval 0 3 v0 rfl rfl) h0
  obtain ⟨oa1, n1, c1, rfl⟩ := okWide_slice Try.underlying22 (hval 1 22 v1 rfl rfl)
  have k1 := h1
  have lt1 : ∀ x ∈ p1, x.block < W.heap.size := by obtain ⟨m, hm⟩ := k1; exact DataW.trod_lt m _ _ _ hm
  obtain ⟨l1, rfl, A1, C1, M1⟩ := h1.elim fun _ hf => steps_open hf
  clear hA0 hval0
  refine (core (w := W) a0 oa1 l1 c1 A1 (Nat.le_trans C1 M1)).mono fun e W' ⟨he, bel⟩ => ?_
  subst he
  exact ⟨_, rfl, _, _, _, [], _, [], hW', trodAll_mk1 (shut_bool Try.underlying4 _), (trodAll_cons_mk (shut_int Try.underlying3 w0) (trodAll_cons_mk (Below.trod laidOut (by kernel_rfl) (of_decide_eq_true (by kernel_rfl)) k1 bel lt1) trodAll_mk0)), rfl, bel.frame _, fun h => by cases h⟩

theorem over : Rows.pipeOrderRow.holds Try.pinned (OpenSpec.ofChange Rows.pipeOrderSpec) :=
  OpenClaim.holds_of_wide 4 Try.f4 rfl rfl rfl rfl rfl rfl rfl ⟨rfl, rfl, rfl, rfl, rfl⟩ rfl rfl rfl rfl rfl (by kernel_rfl) Try.func4 (by kernel_rfl)
    (of_decide_eq_true (by kernel_rfl)) (by unfold Func.isWrapper; first | (rw [if_pos (by decide +kernel)]; kernel_rfl) | (rw [if_neg (by decide +kernel)]; exact ⟨rfl, rfl⟩))
    (fun os started H enc _ => lifted os started H enc)

/-- the statement -/
theorem proved : Rows.PipeOrderSaid := over
#print axioms proved
end Go.Proofs.Ytapabnakbaoijaa.pipeOrder
