/- Of a nil channel: it never is ready, who waits waits for ever, to close it is an error; for every waiter. -/
import Derived.Test.YtapabnakbaoijaaKa
import Derived.Test.YtapabnakbaoijaaWh
import Derived.ShutString
import Derived.ChangeOld
import Derived.Below
namespace Go.Proofs.Ytapabnakbaoijaa.pipeNil
open Go.ChangeShapes Go.WideShapes Go.ChangeAt Go.RowKit
open Go.ChangeMaps (open_string shut_string)
open Ba Pe _root_.Go.Proofs.Ytapabnakbaoijaa.Pi

theorem own : ownKnob Try.prog.godebug = none := by kernel_rfl
theorem laidOut : laidOutB Try.prog = true := by kernel_rfl

set_option maxRecDepth 100000 in
set_option maxHeartbeats 12800000 in
theorem core {w : World} (b : Bool) (x : Wt) :
    Calls Try.prog 6 #[.bool b, wv x] w fun r w' => r = .returned (.bool true) ∧ Below w.heap.size w w' := by
  have hfd : ∀ w, (Instr.field 49 (.agg #[.bool false, .bool false, .bool false, .int .i64 0, .int .i64 0, .int .i64 0, .int .i64 0]) 0).run Try.prog w = .ok (.bool false) w := fun _ => by kernel_rfl
  have WN := hide fun u => wait_nil b x u
  unfold wv at WN ⊢
  by_cases h1 : x.g < 0
  · have d1 : decide (0 ≤ x.g) = false := decide_eq_false (by omega)
    rw [show ae [] x = 1 by unfold ae; rw [if_neg (by rw [okb_iff]; omega)]] at WN
    go_enter Try.func6, Try.ntmps6
    go_wp2_with fail
    refine (send_nil x.v _).mono ?_
    rintro r w1 ⟨rfl, b1⟩
    have Q1 := hide (heap_below (heap_new w (.cells #[.int .i64 x.g, .int .i64 x.c, .int .i64 x.v] 32)) b1)
    have B1 := hide (btr (below_alloc w (.cells #[.int .i64 x.g, .int .i64 x.c, .int .i64 x.v] 32)) b1)
    have hq1 := heap_lt Q1.out
    have q0 : w1.cell? ⟨w.heap.size, 0, none⟩ = some (.int .i64 x.g) := cell_of Q1.out 0
    have q1 : w1.cell? ⟨w.heap.size, 1, none⟩ = some (.int .i64 x.c) := cell_of Q1.out 1
    have q2 : w1.cell? ⟨w.heap.size, 2, none⟩ = some (.int .i64 x.v) := cell_of Q1.out 2
    clear b1
    unfold gv gz
    go_wp2_with fail
    refine (close_nil _).mono ?_
    rintro r w2 ⟨rfl, rfl⟩
    go_wp2_with fail
    refine (counts_nil _).mono ?_
    rintro r w2 ⟨rfl, rfl⟩
    have G2 := hide (heap_new w1 (.cells #[.bool false, .bool false, .bool false, .int .i64 0, .int .i64 0, .int .i64 0, .int .i64 0] 49))
    have Q2 := hide (heap_below Q1.out (below_alloc w1 (.cells #[.bool false, .bool false, .bool false, .int .i64 0, .int .i64 0, .int .i64 0, .int .i64 0] 49)))
    have B2 := hide (btr B1.out (below_alloc w1 (.cells #[.bool false, .bool false, .bool false, .int .i64 0, .int .i64 0, .int .i64 0, .int .i64 0] 49)))
    clear q0 q1 q2 hq1 Q1 B1
    go_wp2_with fail
    generalize w1.alloc (.cells #[.bool false, .bool false, .bool false, .int .i64 0, .int .i64 0, .int .i64 0, .int .i64 0] 49) = W2 at G2 Q2 B2 ⊢
    generalize w1.heap.size = A at G2 ⊢
    refine (Ready_nil b _).mono ?_
    rintro r w3 ⟨rfl, b3⟩
    have G3 := hide (heap_below G2.out b3)
    have Q3 := hide (heap_below Q2.out b3)
    have B3 := hide (btr B2.out b3)
    have a0 : w3.cell? ⟨A, 0, none⟩ = some (.bool false) := cell_of G3.out 0
    clear b3 G2 Q2 B2
    go_wp2_with fail
    refine (recv_nil _).mono ?_
    rintro r w4 ⟨rfl, b4⟩
    have Q4 := hide (heap_below Q3.out b4)
    have B4 := hide (btr B3.out b4)
    have q0 : w4.cell? ⟨w.heap.size, 0, none⟩ = some (.int .i64 x.g) := cell_of Q4.out 0
    have q1 : w4.cell? ⟨w.heap.size, 1, none⟩ = some (.int .i64 x.c) := cell_of Q4.out 1
    have q2 : w4.cell? ⟨w.heap.size, 2, none⟩ = some (.int .i64 x.v) := cell_of Q4.out 2
    clear b4 G3 Q3 B3 a0
    unfold gv gz
    go_wp2_with fail
    refine (WN.out _).mono ?_
    rintro r w5 ⟨rfl, b5⟩
    have Q5 := hide (heap_below Q4.out b5)
    have B5 := hide (btr B4.out b5)
    have p0 : w5.cell? ⟨w.heap.size, 0, none⟩ = some (.int .i64 x.g) := cell_of Q5.out 0
    clear b5 Q4 B4 q0 q1 q2
    go_wp2_with fail
    refine (Pi.drop_nil x.g _).mono ?_
    rintro r w6 ⟨rfl, rfl⟩
    go_wp2_with fail
    refine (Pi.len_nil _).mono ?_
    rintro r w6 ⟨rfl, rfl⟩
    go_wp2_with fail
    refine (Pi.cap_nil _).mono ?_
    rintro r w6 ⟨rfl, rfl⟩
    go_wp2_with fail
    refine (closed_nil _).mono ?_
    rintro r w6 ⟨rfl, rfl⟩
    go_wp2_with fail
    refine (waiting_nil b _).mono ?_
    rintro r w7 ⟨⟨oa, rfl⟩, b7⟩
    have B7 := hide (btr B5.out b7)
    clear b7
    go_wp2_with fail
    refine (hands_any _).mono ?_
    rintro r w8 ⟨rfl, b8⟩
    have B8 := hide (btr B7.out b8)
    clear b8
    go_wp2_with fail
    go_ret
    exact ⟨rfl, B8.out⟩
  · have d1 : decide (0 ≤ x.g) = true := decide_eq_true (by omega)
    by_cases h2 : x.c < -1
    · rw [show ae [] x = 1 by unfold ae; rw [if_neg (by rw [okb_iff]; omega)]] at WN
      have d2 : decide (-1 ≤ x.c) = false := decide_eq_false (by omega)
      go_enter Try.func6, Try.ntmps6
      go_wp2_with fail
      refine (send_nil x.v _).mono ?_
      rintro r w1 ⟨rfl, b1⟩
      have Q1 := hide (heap_below (heap_new w (.cells #[.int .i64 x.g, .int .i64 x.c, .int .i64 x.v] 32)) b1)
      have B1 := hide (btr (below_alloc w (.cells #[.int .i64 x.g, .int .i64 x.c, .int .i64 x.v] 32)) b1)
      have hq1 := heap_lt Q1.out
      have q0 : w1.cell? ⟨w.heap.size, 0, none⟩ = some (.int .i64 x.g) := cell_of Q1.out 0
      have q1 : w1.cell? ⟨w.heap.size, 1, none⟩ = some (.int .i64 x.c) := cell_of Q1.out 1
      have q2 : w1.cell? ⟨w.heap.size, 2, none⟩ = some (.int .i64 x.v) := cell_of Q1.out 2
      clear b1
      unfold gv gz
      go_wp2_with fail
      refine (close_nil _).mono ?_
      rintro r w2 ⟨rfl, rfl⟩
      go_wp2_with fail
      refine (counts_nil _).mono ?_
      rintro r w2 ⟨rfl, rfl⟩
      have G2 := hide (heap_new w1 (.cells #[.bool false, .bool false, .bool false, .int .i64 0, .int .i64 0, .int .i64 0, .int .i64 0] 49))
      have Q2 := hide (heap_below Q1.out (below_alloc w1 (.cells #[.bool false, .bool false, .bool false, .int .i64 0, .int .i64 0, .int .i64 0, .int .i64 0] 49)))
      have B2 := hide (btr B1.out (below_alloc w1 (.cells #[.bool false, .bool false, .bool false, .int .i64 0, .int .i64 0, .int .i64 0, .int .i64 0] 49)))
      clear q0 q1 q2 hq1 Q1 B1
      go_wp2_with fail
      generalize w1.alloc (.cells #[.bool false, .bool false, .bool false, .int .i64 0, .int .i64 0, .int .i64 0, .int .i64 0] 49) = W2 at G2 Q2 B2 ⊢
      generalize w1.heap.size = A at G2 ⊢
      refine (Ready_nil b _).mono ?_
      rintro r w3 ⟨rfl, b3⟩
      have G3 := hide (heap_below G2.out b3)
      have Q3 := hide (heap_below Q2.out b3)
      have B3 := hide (btr B2.out b3)
      have a0 : w3.cell? ⟨A, 0, none⟩ = some (.bool false) := cell_of G3.out 0
      clear b3 G2 Q2 B2
      go_wp2_with fail
      refine (recv_nil _).mono ?_
      rintro r w4 ⟨rfl, b4⟩
      have Q4 := hide (heap_below Q3.out b4)
      have B4 := hide (btr B3.out b4)
      have q0 : w4.cell? ⟨w.heap.size, 0, none⟩ = some (.int .i64 x.g) := cell_of Q4.out 0
      have q1 : w4.cell? ⟨w.heap.size, 1, none⟩ = some (.int .i64 x.c) := cell_of Q4.out 1
      have q2 : w4.cell? ⟨w.heap.size, 2, none⟩ = some (.int .i64 x.v) := cell_of Q4.out 2
      clear b4 G3 Q3 B3 a0
      unfold gv gz
      go_wp2_with fail
      refine (WN.out _).mono ?_
      rintro r w5 ⟨rfl, b5⟩
      have Q5 := hide (heap_below Q4.out b5)
      have B5 := hide (btr B4.out b5)
      have p0 : w5.cell? ⟨w.heap.size, 0, none⟩ = some (.int .i64 x.g) := cell_of Q5.out 0
      clear b5 Q4 B4 q0 q1 q2
      go_wp2_with fail
      refine (Pi.drop_nil x.g _).mono ?_
      rintro r w6 ⟨rfl, rfl⟩
      go_wp2_with fail
      refine (Pi.len_nil _).mono ?_
      rintro r w6 ⟨rfl, rfl⟩
      go_wp2_with fail
      refine (Pi.cap_nil _).mono ?_
      rintro r w6 ⟨rfl, rfl⟩
      go_wp2_with fail
      refine (closed_nil _).mono ?_
      rintro r w6 ⟨rfl, rfl⟩
      go_wp2_with fail
      refine (waiting_nil b _).mono ?_
      rintro r w7 ⟨⟨oa, rfl⟩, b7⟩
      have B7 := hide (btr B5.out b7)
      clear b7
      go_wp2_with fail
      refine (hands_any _).mono ?_
      rintro r w8 ⟨rfl, b8⟩
      have B8 := hide (btr B7.out b8)
      clear b8
      go_wp2_with fail
      go_ret
      exact ⟨rfl, B8.out⟩
    · rw [show ae [] x = 0 by unfold ae; rw [if_pos (by rw [okb_iff]; omega)]; rfl] at WN
      have d2 : decide (-1 ≤ x.c) = true := decide_eq_true (by omega)
      go_enter Try.func6, Try.ntmps6
      go_wp2_with fail
      refine (send_nil x.v _).mono ?_
      rintro r w1 ⟨rfl, b1⟩
      have Q1 := hide (heap_below (heap_new w (.cells #[.int .i64 x.g, .int .i64 x.c, .int .i64 x.v] 32)) b1)
      have B1 := hide (btr (below_alloc w (.cells #[.int .i64 x.g, .int .i64 x.c, .int .i64 x.v] 32)) b1)
      have hq1 := heap_lt Q1.out
      have q0 : w1.cell? ⟨w.heap.size, 0, none⟩ = some (.int .i64 x.g) := cell_of Q1.out 0
      have q1 : w1.cell? ⟨w.heap.size, 1, none⟩ = some (.int .i64 x.c) := cell_of Q1.out 1
      have q2 : w1.cell? ⟨w.heap.size, 2, none⟩ = some (.int .i64 x.v) := cell_of Q1.out 2
      clear b1
      unfold gv gz
      go_wp2_with fail
      refine (close_nil _).mono ?_
      rintro r w2 ⟨rfl, rfl⟩
      go_wp2_with fail
      refine (counts_nil _).mono ?_
      rintro r w2 ⟨rfl, rfl⟩
      have G2 := hide (heap_new w1 (.cells #[.bool false, .bool false, .bool false, .int .i64 0, .int .i64 0, .int .i64 0, .int .i64 0] 49))
      have Q2 := hide (heap_below Q1.out (below_alloc w1 (.cells #[.bool false, .bool false, .bool false, .int .i64 0, .int .i64 0, .int .i64 0, .int .i64 0] 49)))
      have B2 := hide (btr B1.out (below_alloc w1 (.cells #[.bool false, .bool false, .bool false, .int .i64 0, .int .i64 0, .int .i64 0, .int .i64 0] 49)))
      clear q0 q1 q2 hq1 Q1 B1
      go_wp2_with fail
      generalize w1.alloc (.cells #[.bool false, .bool false, .bool false, .int .i64 0, .int .i64 0, .int .i64 0, .int .i64 0] 49) = W2 at G2 Q2 B2 ⊢
      generalize w1.heap.size = A at G2 ⊢
      refine (Ready_nil b _).mono ?_
      rintro r w3 ⟨rfl, b3⟩
      have G3 := hide (heap_below G2.out b3)
      have Q3 := hide (heap_below Q2.out b3)
      have B3 := hide (btr B2.out b3)
      have a0 : w3.cell? ⟨A, 0, none⟩ = some (.bool false) := cell_of G3.out 0
      clear b3 G2 Q2 B2
      go_wp2_with fail
      refine (recv_nil _).mono ?_
      rintro r w4 ⟨rfl, b4⟩
      have Q4 := hide (heap_below Q3.out b4)
      have B4 := hide (btr B3.out b4)
      have q0 : w4.cell? ⟨w.heap.size, 0, none⟩ = some (.int .i64 x.g) := cell_of Q4.out 0
      have q1 : w4.cell? ⟨w.heap.size, 1, none⟩ = some (.int .i64 x.c) := cell_of Q4.out 1
      have q2 : w4.cell? ⟨w.heap.size, 2, none⟩ = some (.int .i64 x.v) := cell_of Q4.out 2
      clear b4 G3 Q3 B3 a0
      unfold gv gz
      go_wp2_with fail
      refine (WN.out _).mono ?_
      rintro r w5 ⟨rfl, b5⟩
      have Q5 := hide (heap_below Q4.out b5)
      have B5 := hide (btr B4.out b5)
      have p0 : w5.cell? ⟨w.heap.size, 0, none⟩ = some (.int .i64 x.g) := cell_of Q5.out 0
      clear b5 Q4 B4 q0 q1 q2
      go_wp2_with fail
      refine (Pi.drop_nil x.g _).mono ?_
      rintro r w6 ⟨rfl, rfl⟩
      go_wp2_with fail
      refine (Pi.len_nil _).mono ?_
      rintro r w6 ⟨rfl, rfl⟩
      go_wp2_with fail
      refine (Pi.cap_nil _).mono ?_
      rintro r w6 ⟨rfl, rfl⟩
      go_wp2_with fail
      refine (closed_nil _).mono ?_
      rintro r w6 ⟨rfl, rfl⟩
      go_wp2_with fail
      refine (waiting_nil b _).mono ?_
      rintro r w7 ⟨⟨oa, rfl⟩, b7⟩
      have B7 := hide (btr B5.out b7)
      clear b7
      go_wp2_with fail
      refine (hands_any _).mono ?_
      rintro r w8 ⟨rfl, b8⟩
      have B8 := hide (btr B7.out b8)
      clear b8
      go_wp2_with fail
      go_ret
      exact ⟨rfl, B8.out⟩

/-! ### the row -/
set_option maxRecDepth 100000 in
theorem lifted (os : Os) (started : os.Started) (H : Type) (enc : TypeId × Value → H) :
    ReturnsInHanded {} Try.checked os 6 .any (Rows.pipeNilSpec.pre6 enc Try.prog Try.f6 Rows.pipeNilRow.domain false) (Rows.pipeNilSpec.post enc Try.prog Try.f6 false true false false) := by
  refine returnsInHanded_of_change (C := Try.checked) own started (by kernel_rfl) Try.func6
    (ChangeSpec.witness6 (enc := enc) (C := Try.checked) false ⟨#[], #[.bool false, .agg #[.int .i64 0, .int .i64 0, .int .i64 0]], []⟩ 8 (by kernel_rfl) (by kernel_rfl) (by kernel_rfl) (by kernel_rfl)) ?_
  intro W base args ds gs before hval0 hW hcnd _
  have hval : ∀ (j : Nat) t v, Try.f6.params[j]? = some t → args[j]? = some v → Value.okWide Try.prog W .any base t v := hval0
  have hW' := hW
  obtain ⟨p, q, hA0, hV, rfl, hfz, hnd⟩ := hW
  have hA : DataW.TrodAll enc Try.prog W 0 (fun _ => true) true Try.f6.params.toList args.toList ds p := hA0
  rw [Try.params6] at hA hval
  obtain ⟨v0, vs0, d0, ds0, p0, q0, hargs, rfl, rfl, h0, r0⟩ := trodAll_cons hA
  obtain ⟨v1, vs1, d1, ds1, p1, q1, rfl, rfl, rfl, h1, r1⟩ := trodAll_cons r0
  obtain ⟨rfl, rfl, rfl⟩ := trodAll_nil r1
  obtain rfl : args = #[v0, v1] := by cases args; simp_all
  obtain ⟨rfl, rfl⟩ := trodVars_none hV
  obtain ⟨a0, rfl, rfl, rfl⟩ := open_bool Try.underlying4 (hval 0 4 v0 rfl rfl) h0
  have k1 := h1
  have lt1 : ∀ x ∈ p1, x.block < W.heap.size := by obtain ⟨m, hm⟩ := k1; exact DataW.trod_lt m _ _ _ hm
  obtain ⟨x1, rfl⟩ := h1.elim fun _ hf => wt_open hf
  clear hA0 hval0
  refine (core (w := W) a0 x1).mono fun e W' ⟨he, bel⟩ => ?_
  subst he
  exact ⟨_, rfl, _, _, _, [], _, [], hW', trodAll_mk1 (shut_bool Try.underlying4 _), (trodAll_cons_mk (shut_bool Try.underlying4 a0) (trodAll_cons_mk (Below.trod laidOut (by kernel_rfl) (of_decide_eq_true (by kernel_rfl)) k1 bel lt1) trodAll_mk0)), rfl, bel.frame _, fun h => by cases h⟩

theorem over : Rows.pipeNilRow.holds Try.pinned (OpenSpec.ofChange Rows.pipeNilSpec) :=
  OpenClaim.holds_of_wide 6 Try.f6 rfl rfl rfl rfl rfl rfl rfl ⟨rfl, rfl, rfl, rfl, rfl⟩ rfl rfl rfl rfl rfl (by kernel_rfl) Try.func6 (by kernel_rfl)
    (of_decide_eq_true (by kernel_rfl)) (by unfold Func.isWrapper; first | (rw [if_pos (by decide +kernel)]; kernel_rfl) | (rw [if_neg (by decide +kernel)]; exact ⟨rfl, rfl⟩))
    (fun os started H enc _ => lifted os started H enc)

/-- the statement -/
theorem proved : Rows.PipeNilSaid := over
#print axioms proved
end Go.Proofs.Ytapabnakbaoijaa.pipeNil
