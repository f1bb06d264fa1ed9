/- What is ready is done when it is tried, what is not changes nothing; for every capacity, every list of steps and every value. -/
import Derived.Test.YtapabnakbaoijaaKh
import Derived.Test.YtapabnakbaoijaaWh
import Derived.ShutString
import Derived.ChangeOld
import Derived.Below
namespace Go.Proofs.Ytapabnakbaoijaa.pipeReady
open Go.ChangeShapes Go.WideShapes Go.ChangeAt Go.RowKit
open Go.ChangeMaps (open_string shut_string)
open Ba Pe _root_.Go.Proofs.Ytapabnakbaoijaa.Pi Rp

theorem own : ownKnob Try.prog.godebug = none := by kernel_rfl
theorem laidOut : laidOutB Try.prog = true := by kernel_rfl

set_option maxRecDepth 100000 in
set_option maxHeartbeats 12800000 in
theorem core {w : World} (s : Int) (oa : Option Addr) (l : List (List Int)) (c : Nat) (hA : RAt w oa 4 l) (hl : l.length ≤ maxLen) (v : Int) :
    Calls Try.prog 7 #[.int .i64 s, .slice oa l.length c, .int .i64 v] w fun r w' => r = .returned (.bool true) ∧ Below w.heap.size w w' := by
  have HA := hide hA
  unfold maxLen at hl
  clear hA
  by_cases hsz : s < 0 ∨ 4 < s
  · go_enter Try.func7, Try.ntmps7
    go_wp2_with fail
    refine (Pi.new_err s _ hsz).mono ?_
    rintro r w1 ⟨rfl, rfl⟩
    go_wp2_with fail
    refine (rnew_err s _ hsz).mono ?_
    rintro r w2 ⟨rfl, rfl⟩
    go_wp2_with fail
    refine (hands_any _).mono ?_
    rintro r w5 ⟨rfl, b5⟩
    have B5 := hide b5
    clear b5
    go_wp2_with fail
    go_ret
    exact ⟨rfl, B5.out⟩
  obtain ⟨n, rfl⟩ := Int.eq_ofNat_of_zero_le (show 0 ≤ s by omega)
  have hn : n ≤ 4 := by omega
  clear hsz
  go_enter Try.func7, Try.ntmps7
  go_wp2_with fail
  refine (Pi.new_ok n _ hn).mono ?_
  rintro r w1 ⟨B, F, rfl, p1, l1, b1⟩
  have P1 := hide p1
  have L1 := hide l1
  have B1 := hide b1
  clear p1 l1 b1
  go_wp2_with fail
  refine (rnew_ok n _ hn).mono ?_
  rintro r w2 ⟨G, R, rfl, r2, l2, b2⟩
  have T2 : Hid (Tp w w2 B G F R 0 (st0 n)) := ⟨P1.out.below b2, r2, fun x hx hr => by have h1 := P1.out.bd x hx; have h2 := l2 x hr; omega, btr B1.out b2, L1.out, fun x hx => Nat.le_trans B1.out.size (l2 x hx), Nat.le_refl _, Nat.le_refl _⟩
  clear r2 l2 b2 P1 L1 B1
  by_cases h3 : 200 < l.length
  · have h3' : decide ((200 : Int) < (l.length : Int)) = true := decide_eq_true (by omega)
    go_wp2_with fail
    refine (hands_any _).mono ?_
    rintro r w5 ⟨rfl, b5⟩
    have B5 := hide (btr T2.out.b b5)
    clear b5
    go_wp2_with fail
    go_ret
    exact ⟨rfl, B5.out⟩
  have h3' : decide ((200 : Int) < (l.length : Int)) = false := decide_eq_false (by omega)
  go_wp2_with fail
  go_loopw [59] (fun j wr => ∃ (k : Nat) (F R : Nat → Prop) (st : St), k ≤ l.length ∧ j = .int .i64 k ∧ Tp w wr B G F R k st) (fun j _ => l.length - (intOf j).toNat)
  case atStart => exact ⟨0, F, R, st0 n, Nat.zero_le _, rfl, T2.out⟩
  case round =>
    clear T2
    obtain ⟨k, F, R, st, hk, rfl, t3⟩ := hrel
    have T3 := hide t3
    clear t3
    by_cases hlt : k < l.length
    · have hlt' : (k : Int) < (l.length : Int) := by omega
      obtain ⟨z, hz⟩ : ∃ z, l[k]? = some z := ⟨_, List.getElem?_eq_getElem hlt⟩
      obtain ⟨b', o', rfl, hc⟩ := (HA.out.below T3.out.b) k z hz
      have q0 := hc 0 (by decide)
      have q1 := hc 1 (by decide)
      have q2 := hc 2 (by decide)
      have q3 := hc 3 (by decide)
      rw [Nat.add_zero] at q0
      clear hc hz
      generalize nth z 0 = what at q0
      generalize nth z 1 = xg at q1
      generalize nth z 2 = xc at q2
      generalize nth z 3 = xv at q3
      have T4 := hide (T3.out.below (below_alloc wr (.cells #[.int .i64 what, .int .i64 xg, .int .i64 xc, .int .i64 xv] 34)))
      have DO := hide (T4.out.does (by omega) what ⟨xg, xc, xv⟩)
      simp only at DO
      clear T3
      go_wp2_with fail
      refine DO.out.mono ?_
      rintro r w5 ⟨rfl, F5, R5, st5, -, -, t5⟩
      have T5 := hide t5
      clear t5 q0 q1 q2 q3 T4 DO
      have h5s := T5.out.hs
      have h5g := T5.out.hg
      go_wp2_with fail
      refine (Ready_any B F5 st5 true _ T5.out.p).mono ?_
      rintro r w6 ⟨rfl, b6⟩
      have T6 := hide (T5.out.below b6)
      clear b6 T5
      go_wp2_with fail
      refine (Ready_any B F5 st5 false _ T6.out.p).mono ?_
      rintro r w7 ⟨rfl, b7⟩
      have T7 := hide (T6.out.below b7)
      clear b7 T6
      go_wp2_with fail
      refine (counts_any B F5 st5 _ T7.out.p).mono ?_
      rintro r w8 ⟨rfl, b8⟩
      have T8 := hide (T7.out.below b8)
      clear b8 T7
      cases hS : rdy st5 true
      · obtain ⟨e1, e2, e3⟩ := notReady_send hS v
        go_wp2_with fail
        refine (send_is B F5 st5 st5 v 0 gz _ T8.out.p (by omega) (by omega) e1 e2 e3).mono ?_
        rintro r w9 ⟨rfl, k9, F9, n9, p9⟩
        have T9 := hide ((T8.out.prog k9 n9 p9).below (below_alloc w9 (.cells #[.bool false, .bool false, .bool false, .int .i64 0, .int .i64 0, .int .i64 0, .int .i64 0] 49)))
        have X9 := hide (heap_new w9 (.cells #[.bool false, .bool false, .bool false, .int .i64 0, .int .i64 0, .int .i64 0, .int .i64 0] 49))
        clear k9 n9 p9 e1 e2 e3 T8
        unfold gv gz
        go_wp2_with fail
        generalize w9.alloc (.cells #[.bool false, .bool false, .bool false, .int .i64 0, .int .i64 0, .int .i64 0, .int .i64 0] 49) = W9 at T9 X9 ⊢
        generalize w9.heap.size = A9 at X9 ⊢
        refine (counts_any B F9 st5 _ T9.out.p).mono ?_
        rintro r u1 ⟨rfl, c1⟩
        have T10 := hide (T9.out.below c1)
        have x0 : u1.cell? ⟨A9, 0, none⟩ = some (.bool false) := cell_of (heap_below X9.out c1) 0
        clear c1 T9 X9
        cases hR : rdy st5 false
        · obtain ⟨e1, e3⟩ := notReady_recv hR
          go_wp2_with fail
          refine (recv_is B F9 st5 st5 gz _ T10.out.p (by omega) (by omega) e1 e3).mono ?_
          rintro r v9 ⟨rfl, k9, G9, n9, p9⟩
          have T11 := hide ((T10.out.prog k9 n9 p9).below (below_alloc v9 (.cells #[.bool false, .bool false, .bool false, .int .i64 0, .int .i64 0, .int .i64 0, .int .i64 0] 49)))
          have X11 := hide (heap_new v9 (.cells #[.bool false, .bool false, .bool false, .int .i64 0, .int .i64 0, .int .i64 0, .int .i64 0] 49))
          clear k9 n9 p9 e1 e3 T10
          unfold gv gz
          go_wp2_with fail
          generalize v9.alloc (.cells #[.bool false, .bool false, .bool false, .int .i64 0, .int .i64 0, .int .i64 0, .int .i64 0] 49) = V9 at T11 X11 ⊢
          generalize v9.heap.size = A11 at X11 ⊢
          refine (counts_any B G9 st5 _ T11.out.p).mono ?_
          rintro r u2 ⟨rfl, c2⟩
          have T12 := hide (T11.out.below c2)
          have x2 : u2.cell? ⟨A11, 0, none⟩ = some (.bool false) := cell_of (heap_below X11.out c2) 0
          clear c2 T11 X11
          go_wp2_with fail
          go_roundw
          case rel => exact ⟨k + 1, G9, R5, st5, by omega, by go_num, T12.out⟩
          case measure => simp [intOf]; omega
        · skip
          go_wp2_with fail
          go_roundw
          case rel => exact ⟨k + 1, F9, R5, st5, by omega, by go_num, T10.out⟩
          case measure => simp [intOf]; omega
      · skip
        cases hR : rdy st5 false
        · obtain ⟨e1, e3⟩ := notReady_recv hR
          go_wp2_with fail
          refine (recv_is B F5 st5 st5 gz _ T8.out.p (by omega) (by omega) e1 e3).mono ?_
          rintro r v9 ⟨rfl, k9, G9, n9, p9⟩
          have T11 := hide ((T8.out.prog k9 n9 p9).below (below_alloc v9 (.cells #[.bool false, .bool false, .bool false, .int .i64 0, .int .i64 0, .int .i64 0, .int .i64 0] 49)))
          have X11 := hide (heap_new v9 (.cells #[.bool false, .bool false, .bool false, .int .i64 0, .int .i64 0, .int .i64 0, .int .i64 0] 49))
          clear k9 n9 p9 e1 e3 T8
          unfold gv gz
          go_wp2_with fail
          generalize v9.alloc (.cells #[.bool false, .bool false, .bool false, .int .i64 0, .int .i64 0, .int .i64 0, .int .i64 0] 49) = V9 at T11 X11 ⊢
          generalize v9.heap.size = A11 at X11 ⊢
          refine (counts_any B G9 st5 _ T11.out.p).mono ?_
          rintro r u2 ⟨rfl, c2⟩
          have T12 := hide (T11.out.below c2)
          have x2 : u2.cell? ⟨A11, 0, none⟩ = some (.bool false) := cell_of (heap_below X11.out c2) 0
          clear c2 T11 X11
          go_wp2_with fail
          go_roundw
          case rel => exact ⟨k + 1, G9, R5, st5, by omega, by go_num, T12.out⟩
          case measure => simp [intOf]; omega
        · skip
          go_wp2_with fail
          go_roundw
          case rel => exact ⟨k + 1, F5, R5, st5, by omega, by go_num, T8.out⟩
          case measure => simp [intOf]; omega
    · have hlt' : ¬ ((k : Int) < (l.length : Int)) := by omega
      go_wp2_with fail
      refine (hands_any _).mono ?_
      rintro r w8 ⟨rfl, b8⟩
      have B8 := hide (btr T3.out.b b8)
      clear b8
      go_wp2_with fail
      go_ret
      exact ⟨rfl, B8.out⟩

/-! ### the row -/
set_option maxRecDepth 100000 in
theorem lifted (os : Os) (started : os.Started) (H : Type) (enc : TypeId × Value → H) :
    ReturnsInHanded {} Try.checked os 7 .any (Rows.pipeReadySpec.pre6 enc Try.prog Try.f7 Rows.pipeReadyRow.domain false) (Rows.pipeReadySpec.post enc Try.prog Try.f7 false true false false) := by
  refine returnsInHanded_of_change (C := Try.checked) own started (by kernel_rfl) Try.func7
    (ChangeSpec.witness6 (enc := enc) (C := Try.checked) false ⟨#[], #[.int .i64 0, .slice none 0 0, .int .i64 0], []⟩ 8 (by kernel_rfl) (by kernel_rfl) (by kernel_rfl) (by kernel_rfl)) ?_
  intro W base args ds gs before hval0 hW hcnd _
  have hval : ∀ (j : Nat) t v, Try.f7.params[j]? = some t → args[j]? = some v → Value.okWide Try.prog W .any base t v := hval0
  have hW' := hW
  obtain ⟨p, q, hA0, hV, rfl, hfz, hnd⟩ := hW
  have hA : DataW.TrodAll enc Try.prog W 0 (fun _ => true) true Try.f7.params.toList args.toList ds p := hA0
  rw [Try.params7] at hA hval
  obtain ⟨v0, vs0, d0, ds0, p0, q0, hargs, rfl, rfl, h0, r0⟩ := trodAll_cons hA
  obtain ⟨v1, vs1, d1, ds1, p1, q1, rfl, rfl, rfl, h1, r1⟩ := trodAll_cons r0
  obtain ⟨v2, vs2, d2, ds2, p2, q2, rfl, rfl, rfl, h2, r2⟩ := trodAll_cons r1
  obtain ⟨rfl, rfl, rfl⟩ := trodAll_nil r2
  obtain rfl : args = #[v0, v1, v2] := by cases args; simp_all
  obtain ⟨rfl, rfl⟩ := trodVars_none hV
  obtain ⟨a0, rfl, rfl, rfl, w0⟩ := open_int Try.underlying3 (hval 0 3 v0 rfl rfl) h0
  obtain ⟨oa1, n1, c1, rfl⟩ := okWide_slice Try.underlying22 (hval 1 22 v1 rfl rfl)
  have k1 := h1
  have lt1 : ∀ x ∈ p1, x.block < W.heap.size := by obtain ⟨m, hm⟩ := k1; exact DataW.trod_lt m _ _ _ hm
  obtain ⟨l1, rfl, A1, C1, M1⟩ := h1.elim fun _ hf => steps_open hf
  obtain ⟨a2, rfl, rfl, rfl, w2⟩ := open_int Try.underlying3 (hval 2 3 v2 rfl rfl) h2
  clear hA0 hval0
  refine (core (w := W) a0 oa1 l1 c1 A1 (Nat.le_trans C1 M1) a2).mono fun e W' ⟨he, bel⟩ => ?_
  subst he
  exact ⟨_, rfl, _, _, _, [], _, [], hW', trodAll_mk1 (shut_bool Try.underlying4 _), (trodAll_cons_mk (shut_int Try.underlying3 w0) (trodAll_cons_mk (Below.trod laidOut (by kernel_rfl) (of_decide_eq_true (by kernel_rfl)) k1 bel lt1) (trodAll_cons_mk (shut_int Try.underlying3 w2) trodAll_mk0))), rfl, bel.frame _, fun h => by cases h⟩

theorem over : Rows.pipeReadyRow.holds Try.pinned (OpenSpec.ofChange Rows.pipeReadySpec) :=
  OpenClaim.holds_of_wide 7 Try.f7 rfl rfl rfl rfl rfl rfl rfl ⟨rfl, rfl, rfl, rfl, rfl⟩ rfl rfl rfl rfl rfl (by kernel_rfl) Try.func7 (by kernel_rfl)
    (of_decide_eq_true (by kernel_rfl)) (by unfold Func.isWrapper; first | (rw [if_pos (by decide +kernel)]; kernel_rfl) | (rw [if_neg (by decide +kernel)]; exact ⟨rfl, rfl⟩))
    (fun os started H enc _ => lifted os started H enc)

/-- the statement -/
theorem proved : Rows.PipeReadySaid := over
#print axioms proved
end Go.Proofs.Ytapabnakbaoijaa.pipeReady
