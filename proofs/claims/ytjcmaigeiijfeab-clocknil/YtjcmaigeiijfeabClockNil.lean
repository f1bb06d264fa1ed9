/- For every tid, number and list, the law ClockNil returns true, so a nil clock has noughts, and what changes one answers ErrState: under no condition. -/
import Derived.Test.YtjcmaigeiijfeabRows
import Derived.WalkKit
import Derived.ProofKit
import Derived.OpenShut
import Derived.Test.YtjcmaigeiijfeabEp
import Derived.Test.YtjcmaigeiijfeabCs
import Derived.ShutString
import Derived.ChangeOld
import Derived.Below
namespace Go.Proofs.Ytjcmaigeiijfeab.clockNil
open Go.ChangeShapes Go.WideShapes Go.ChangeAt Go.RowKit
open Go.ChangeMaps (open_string shut_string)
set_option linter.unusedVariables false

theorem own : ownKnob Try.prog.godebug = none := by kernel_rfl
theorem laidOut : laidOutB Try.prog = true := by kernel_rfl

/-- WHAT THE WALK IS TOLD OF A SLICE OF INTEGERS THAT CAME IN: it is nil; or it leads to a row of 'cap' cells, the numbers 'zs' (the first 'len' are its elements, the rest its spare room), each fitting its kind. -/
def IsRow (k : IntKind) (w : World) (a : Option Addr) (len cap : Nat) (zs : List Int) : Prop :=
  (a = none ∧ len = 0 ∧ cap = 0 ∧ zs = []) ∨
  ∃ x, a = some x ∧ len ≤ cap ∧ cap ≤ maxLen ∧ zs.length = cap ∧ (∀ i, i < zs.length → w.cell? (x.add i) = some (.int k (zs.getD i 0))) ∧ ∀ n ∈ zs, (Lit.int k n).wf = true

open Ck
set_option maxHeartbeats 1600000

theorem isRow_at {w : World} {a : Option Addr} {len cap : Nat} {z : List Int} (h : IsRow .i64 w a len cap z) : ∃ l, l.length = len ∧ At w a l ∧ len ≤ cap ∧ cap ≤ maxLen := by
  rcases h with ⟨rfl, rfl, rfl, rfl⟩ | ⟨x, rfl, hl, hm, hz, hcell, _⟩
  · exact ⟨[], rfl, fun k hk => absurd hk (Nat.not_lt_zero _), Nat.le_refl _, Nat.zero_le _⟩
  · refine ⟨z.take len, by simp; omega, fun k hk => ?_, hl, hm⟩
    have hk' : k < len ∧ k < z.length := by simp at hk; omega
    obtain ⟨b, off, spot⟩ := x
    have hspot : spot = none := by simpa [Addr.add] using World.cell?_spot (hcell 0 (by omega))
    subst hspot
    have hc := hcell k hk'.2
    refine ⟨b, off, rfl, ?_⟩
    rw [nth_take z len k hk'.1]
    rw [Addr.add_lit] at hc
    exact hc

theorem epoch_nil (t : Int) (w : World) :
    Calls Try.prog 33 #[.pointer none, .int .i64 t] w fun r w' => r = .returned (.int .u64 0) ∧ w' = w := by
  have H : Hid (t < 0 ∨ 256 ≤ t ∨ (0 : Int) < 1 ∨ (1048576 : Int) < 0) := .inr (.inr (.inl (by decide)))
  go_enter Try.func33, Try.ntmps33
  go_wp2_with (first | (go_at_call 27; refine (get_nil _ _).mono ?_; rintro r w' ⟨rfl, rfl⟩) | (go_at_call 9; refine (Ep.pack_no t 0 H.out _).mono ?_; rintro r w' ⟨rfl, rfl⟩))
  go_ret
  exact ⟨rfl, rfl⟩

theorem copy_nil_ck (w : World) :
    Calls Try.prog 23 #[.pointer none] w fun r w' => ∃ A, r = .returned (.pointer (some ⟨A, 0, none⟩)) ∧ CK w' A [] ∧ Below w.heap.size w w' := by
  refine (copy_nil w).mono ?_
  rintro r w' ⟨rfl, rfl⟩
  exact ⟨_, rfl, (new_rep _).ck, below_alloc _ _⟩

theorem okT_no (t : Int) (h : t < 0 ∨ 255 < t) : okT t = false := by
  have : ¬ (okT t = true) := by rw [okT_iff]; omega
  simpa using this
theorem okN_no (t : Int) (h : t < 0 ∨ 1048576 < t) : okN t = false := by
  have : ¬ (okN t = true) := by rw [okN_iff]; omega
  simpa using this
theorem okM_no (t : Int) (h : t < 1 ∨ 1048576 < t) : okM t = false := by
  have : ¬ (okM t = true) := by rw [okM_iff]; omega
  simpa using this
set_option maxHeartbeats 1600000 in
theorem case1 (a0 a1 : Int) (a2 : Option Addr) (len2 cap2 : Nat) (la : List Int) (w : World) (AA : Hid (At w a2 la)) (HA : Hid (la.length = len2 ∧ len2 ≤ cap2 ∧ cap2 ≤ maxLen)) (t0 : a0 < 0) :
    Calls Try.prog 8 #[.int .i64 a0, .int .i64 a1, .slice a2 len2 cap2] w fun e w' => e = .returned (.bool true) ∧ Below w.heap.size w w' := by
  go_enter Try.func8, Try.ntmps8
  go_wp2_with fail
  refine (of_any _ la _ _ HA.out.1 _ AA.out HA.out.2.1 HA.out.2.2).mono ?_
  rintro r w1 ⟨p1, e1, rfl, h1⟩
  have BB : Hid (Below w.heap.size w w1) := h1.below
  rcases h1 with ⟨q1, rfl, n0, n1, _⟩ | ⟨rfl, _, v1, A1, rfl, _⟩
  · clear q1
    go_wp2_with (first | (go_at_call 27; refine (get_nil _ _).mono ?_; rintro r w' ⟨rfl, rfl⟩) | (go_at_call 19; refine (set_arg none _ _ _ (.inl (okT_no _ (.inl t0)))).mono ?_; rintro r w' ⟨rfl, rfl⟩) | (go_at_call 17; refine (tick_arg none _ _ _ (.inl (okT_no _ (.inl t0)))).mono ?_; rintro r w' ⟨rfl, rfl⟩) | (go_at_call 33; refine (epoch_nil _ _).mono ?_; rintro r w' ⟨rfl, rfl⟩))
    refine (list_nil _).mono ?_
    rintro r w4 ⟨rfl, rfl⟩
    go_wp2_with (first | (go_at_call 33; refine (epoch_nil _ _).mono ?_; rintro r w' ⟨rfl, rfl⟩))
    refine (copy_nil_ck _).mono ?_
    rintro r w5 ⟨A5, rfl, k5, b5⟩
    have K5 := hide k5
    have B5 := hide (btr BB.out b5)
    clear k5 b5
    go_wp2_with fail
    refine (list_any _ [] _ K5.out).mono ?_
    rintro r w6 ⟨rfl, hw6⟩
    have B6 : Hid (Below w.heap.size w w6) := by show Below _ _ _; rw [hw6]; exact btr B5.out (below_alloc _ _)
    clear hw6
    go_wp2_with (go_at_call 15; refine (joins_any _).mono ?_; rintro r w8 ⟨rfl, hb8⟩)
    go_ret
    exact ⟨rfl, btr B6.out hb8⟩
  · go_wp2_with (first | (go_at_call 29; refine (within_nil _ _).mono ?_; rintro r w' ⟨rfl, rfl⟩) | fail)
    refine (join_nil _ _).mono ?_
    rintro r w' ⟨rfl, rfl⟩
    go_wp2_with (first | (go_at_call 29; refine (within_nil _ _).mono ?_; rintro r w' ⟨rfl, rfl⟩) | fail)
    refine (join_of_nil _ _).mono ?_
    rintro r w' ⟨rfl, rfl⟩
    go_wp2_with (first | (go_at_call 27; refine (get_nil _ _).mono ?_; rintro r w' ⟨rfl, rfl⟩) | (go_at_call 19; refine (set_arg none _ _ _ (.inl (okT_no _ (.inl t0)))).mono ?_; rintro r w' ⟨rfl, rfl⟩) | (go_at_call 17; refine (tick_arg none _ _ _ (.inl (okT_no _ (.inl t0)))).mono ?_; rintro r w' ⟨rfl, rfl⟩) | (go_at_call 33; refine (epoch_nil _ _).mono ?_; rintro r w' ⟨rfl, rfl⟩))
    refine (list_nil _).mono ?_
    rintro r w4 ⟨rfl, rfl⟩
    go_wp2_with (first | (go_at_call 33; refine (epoch_nil _ _).mono ?_; rintro r w' ⟨rfl, rfl⟩))
    refine (copy_nil_ck _).mono ?_
    rintro r w5 ⟨A5, rfl, k5, b5⟩
    have K5 := hide k5
    have B5 := hide (btr BB.out b5)
    clear k5 b5
    go_wp2_with fail
    refine (list_any _ [] _ K5.out).mono ?_
    rintro r w6 ⟨rfl, hw6⟩
    have B6 : Hid (Below w.heap.size w w6) := by show Below _ _ _; rw [hw6]; exact btr B5.out (below_alloc _ _)
    clear hw6
    go_wp2_with (go_at_call 15; refine (joins_any _).mono ?_; rintro r w8 ⟨rfl, hb8⟩)
    go_ret
    exact ⟨rfl, btr B6.out hb8⟩

set_option maxHeartbeats 1600000 in
theorem case2 (a0 a1 : Int) (a2 : Option Addr) (len2 cap2 : Nat) (la : List Int) (w : World) (AA : Hid (At w a2 la)) (HA : Hid (la.length = len2 ∧ len2 ≤ cap2 ∧ cap2 ≤ maxLen)) (t1 : 255 < a0) :
    Calls Try.prog 8 #[.int .i64 a0, .int .i64 a1, .slice a2 len2 cap2] w fun e w' => e = .returned (.bool true) ∧ Below w.heap.size w w' := by
  go_enter Try.func8, Try.ntmps8
  go_wp2_with fail
  refine (of_any _ la _ _ HA.out.1 _ AA.out HA.out.2.1 HA.out.2.2).mono ?_
  rintro r w1 ⟨p1, e1, rfl, h1⟩
  have BB : Hid (Below w.heap.size w w1) := h1.below
  rcases h1 with ⟨q1, rfl, n0, n1, _⟩ | ⟨rfl, _, v1, A1, rfl, _⟩
  · clear q1
    go_wp2_with (first | (go_at_call 27; refine (get_nil _ _).mono ?_; rintro r w' ⟨rfl, rfl⟩) | (go_at_call 19; refine (set_arg none _ _ _ (.inl (okT_no _ (.inr t1)))).mono ?_; rintro r w' ⟨rfl, rfl⟩) | (go_at_call 17; refine (tick_arg none _ _ _ (.inl (okT_no _ (.inr t1)))).mono ?_; rintro r w' ⟨rfl, rfl⟩) | (go_at_call 33; refine (epoch_nil _ _).mono ?_; rintro r w' ⟨rfl, rfl⟩))
    refine (list_nil _).mono ?_
    rintro r w4 ⟨rfl, rfl⟩
    go_wp2_with (first | (go_at_call 33; refine (epoch_nil _ _).mono ?_; rintro r w' ⟨rfl, rfl⟩))
    refine (copy_nil_ck _).mono ?_
    rintro r w5 ⟨A5, rfl, k5, b5⟩
    have K5 := hide k5
    have B5 := hide (btr BB.out b5)
    clear k5 b5
    go_wp2_with fail
    refine (list_any _ [] _ K5.out).mono ?_
    rintro r w6 ⟨rfl, hw6⟩
    have B6 : Hid (Below w.heap.size w w6) := by show Below _ _ _; rw [hw6]; exact btr B5.out (below_alloc _ _)
    clear hw6
    go_wp2_with (go_at_call 15; refine (joins_any _).mono ?_; rintro r w8 ⟨rfl, hb8⟩)
    go_ret
    exact ⟨rfl, btr B6.out hb8⟩
  · go_wp2_with (first | (go_at_call 29; refine (within_nil _ _).mono ?_; rintro r w' ⟨rfl, rfl⟩) | fail)
    refine (join_nil _ _).mono ?_
    rintro r w' ⟨rfl, rfl⟩
    go_wp2_with (first | (go_at_call 29; refine (within_nil _ _).mono ?_; rintro r w' ⟨rfl, rfl⟩) | fail)
    refine (join_of_nil _ _).mono ?_
    rintro r w' ⟨rfl, rfl⟩
    go_wp2_with (first | (go_at_call 27; refine (get_nil _ _).mono ?_; rintro r w' ⟨rfl, rfl⟩) | (go_at_call 19; refine (set_arg none _ _ _ (.inl (okT_no _ (.inr t1)))).mono ?_; rintro r w' ⟨rfl, rfl⟩) | (go_at_call 17; refine (tick_arg none _ _ _ (.inl (okT_no _ (.inr t1)))).mono ?_; rintro r w' ⟨rfl, rfl⟩) | (go_at_call 33; refine (epoch_nil _ _).mono ?_; rintro r w' ⟨rfl, rfl⟩))
    refine (list_nil _).mono ?_
    rintro r w4 ⟨rfl, rfl⟩
    go_wp2_with (first | (go_at_call 33; refine (epoch_nil _ _).mono ?_; rintro r w' ⟨rfl, rfl⟩))
    refine (copy_nil_ck _).mono ?_
    rintro r w5 ⟨A5, rfl, k5, b5⟩
    have K5 := hide k5
    have B5 := hide (btr BB.out b5)
    clear k5 b5
    go_wp2_with fail
    refine (list_any _ [] _ K5.out).mono ?_
    rintro r w6 ⟨rfl, hw6⟩
    have B6 : Hid (Below w.heap.size w w6) := by show Below _ _ _; rw [hw6]; exact btr B5.out (below_alloc _ _)
    clear hw6
    go_wp2_with (go_at_call 15; refine (joins_any _).mono ?_; rintro r w8 ⟨rfl, hb8⟩)
    go_ret
    exact ⟨rfl, btr B6.out hb8⟩

set_option maxHeartbeats 1600000 in
theorem case3 (a0 a1 : Int) (a2 : Option Addr) (len2 cap2 : Nat) (la : List Int) (w : World) (AA : Hid (At w a2 la)) (HA : Hid (la.length = len2 ∧ len2 ≤ cap2 ∧ cap2 ≤ maxLen)) (t0 : 0 ≤ a0) (t1 : a0 ≤ 255) (m0 : a1 < 0) :
    Calls Try.prog 8 #[.int .i64 a0, .int .i64 a1, .slice a2 len2 cap2] w fun e w' => e = .returned (.bool true) ∧ Below w.heap.size w w' := by
  have TT : Hid (okT a0 = true) := by show _ = _; rw [okT_iff]; omega
  have MM : Hid (okM a1 = false) := okM_no _ (by omega)
  go_enter Try.func8, Try.ntmps8
  go_wp2_with fail
  refine (of_any _ la _ _ HA.out.1 _ AA.out HA.out.2.1 HA.out.2.2).mono ?_
  rintro r w1 ⟨p1, e1, rfl, h1⟩
  have BB : Hid (Below w.heap.size w w1) := h1.below
  rcases h1 with ⟨q1, rfl, n0, n1, _⟩ | ⟨rfl, _, v1, A1, rfl, _⟩
  · clear q1
    go_wp2_with (first | (go_at_call 27; refine (get_nil _ _).mono ?_; rintro r w' ⟨rfl, rfl⟩) | (go_at_call 19; refine (set_arg none _ _ _ (.inr (okN_no _ (.inl m0)))).mono ?_; rintro r w' ⟨rfl, rfl⟩) | (go_at_call 17; refine (tick_arg none _ _ _ (.inr MM.out)).mono ?_; rintro r w' ⟨rfl, rfl⟩) | (go_at_call 33; refine (epoch_nil _ _).mono ?_; rintro r w' ⟨rfl, rfl⟩))
    refine (list_nil _).mono ?_
    rintro r w4 ⟨rfl, rfl⟩
    go_wp2_with (first | (go_at_call 33; refine (epoch_nil _ _).mono ?_; rintro r w' ⟨rfl, rfl⟩))
    refine (copy_nil_ck _).mono ?_
    rintro r w5 ⟨A5, rfl, k5, b5⟩
    have K5 := hide k5
    have B5 := hide (btr BB.out b5)
    clear k5 b5
    go_wp2_with fail
    refine (list_any _ [] _ K5.out).mono ?_
    rintro r w6 ⟨rfl, hw6⟩
    have B6 : Hid (Below w.heap.size w w6) := by show Below _ _ _; rw [hw6]; exact btr B5.out (below_alloc _ _)
    clear hw6
    go_wp2_with (go_at_call 15; refine (joins_any _).mono ?_; rintro r w8 ⟨rfl, hb8⟩)
    go_ret
    exact ⟨rfl, btr B6.out hb8⟩
  · go_wp2_with (first | (go_at_call 29; refine (within_nil _ _).mono ?_; rintro r w' ⟨rfl, rfl⟩) | fail)
    refine (join_nil _ _).mono ?_
    rintro r w' ⟨rfl, rfl⟩
    go_wp2_with (first | (go_at_call 29; refine (within_nil _ _).mono ?_; rintro r w' ⟨rfl, rfl⟩) | fail)
    refine (join_of_nil _ _).mono ?_
    rintro r w' ⟨rfl, rfl⟩
    go_wp2_with (first | (go_at_call 27; refine (get_nil _ _).mono ?_; rintro r w' ⟨rfl, rfl⟩) | (go_at_call 19; refine (set_arg none _ _ _ (.inr (okN_no _ (.inl m0)))).mono ?_; rintro r w' ⟨rfl, rfl⟩) | (go_at_call 17; refine (tick_arg none _ _ _ (.inr MM.out)).mono ?_; rintro r w' ⟨rfl, rfl⟩) | (go_at_call 33; refine (epoch_nil _ _).mono ?_; rintro r w' ⟨rfl, rfl⟩))
    refine (list_nil _).mono ?_
    rintro r w4 ⟨rfl, rfl⟩
    go_wp2_with (first | (go_at_call 33; refine (epoch_nil _ _).mono ?_; rintro r w' ⟨rfl, rfl⟩))
    refine (copy_nil_ck _).mono ?_
    rintro r w5 ⟨A5, rfl, k5, b5⟩
    have K5 := hide k5
    have B5 := hide (btr BB.out b5)
    clear k5 b5
    go_wp2_with fail
    refine (list_any _ [] _ K5.out).mono ?_
    rintro r w6 ⟨rfl, hw6⟩
    have B6 : Hid (Below w.heap.size w w6) := by show Below _ _ _; rw [hw6]; exact btr B5.out (below_alloc _ _)
    clear hw6
    go_wp2_with (go_at_call 15; refine (joins_any _).mono ?_; rintro r w8 ⟨rfl, hb8⟩)
    go_ret
    exact ⟨rfl, btr B6.out hb8⟩

set_option maxHeartbeats 1600000 in
theorem case4 (a0 a1 : Int) (a2 : Option Addr) (len2 cap2 : Nat) (la : List Int) (w : World) (AA : Hid (At w a2 la)) (HA : Hid (la.length = len2 ∧ len2 ≤ cap2 ∧ cap2 ≤ maxLen)) (t0 : 0 ≤ a0) (t1 : a0 ≤ 255) (m0 : 0 ≤ a1) (m1 : a1 < 1) :
    Calls Try.prog 8 #[.int .i64 a0, .int .i64 a1, .slice a2 len2 cap2] w fun e w' => e = .returned (.bool true) ∧ Below w.heap.size w w' := by
  have TT : Hid (okT a0 = true) := by show _ = _; rw [okT_iff]; omega
  have MM : Hid (okM a1 = false) := okM_no _ (by omega)
  have NN : Hid (okN a1 = true) := by show _ = _; rw [okN_iff]; omega
  go_enter Try.func8, Try.ntmps8
  go_wp2_with fail
  refine (of_any _ la _ _ HA.out.1 _ AA.out HA.out.2.1 HA.out.2.2).mono ?_
  rintro r w1 ⟨p1, e1, rfl, h1⟩
  have BB : Hid (Below w.heap.size w w1) := h1.below
  rcases h1 with ⟨q1, rfl, n0, n1, _⟩ | ⟨rfl, _, v1, A1, rfl, _⟩
  · clear q1
    go_wp2_with (first | (go_at_call 27; refine (get_nil _ _).mono ?_; rintro r w' ⟨rfl, rfl⟩) | (go_at_call 19; refine (set_nil _ _ _ TT.out NN.out).mono ?_; rintro r w' ⟨rfl, rfl⟩) | (go_at_call 17; refine (tick_arg none _ _ _ (.inr MM.out)).mono ?_; rintro r w' ⟨rfl, rfl⟩) | (go_at_call 33; refine (epoch_nil _ _).mono ?_; rintro r w' ⟨rfl, rfl⟩))
    refine (list_nil _).mono ?_
    rintro r w4 ⟨rfl, rfl⟩
    go_wp2_with (first | (go_at_call 33; refine (epoch_nil _ _).mono ?_; rintro r w' ⟨rfl, rfl⟩))
    refine (copy_nil_ck _).mono ?_
    rintro r w5 ⟨A5, rfl, k5, b5⟩
    have K5 := hide k5
    have B5 := hide (btr BB.out b5)
    clear k5 b5
    go_wp2_with fail
    refine (list_any _ [] _ K5.out).mono ?_
    rintro r w6 ⟨rfl, hw6⟩
    have B6 : Hid (Below w.heap.size w w6) := by show Below _ _ _; rw [hw6]; exact btr B5.out (below_alloc _ _)
    clear hw6
    go_wp2_with (go_at_call 15; refine (joins_any _).mono ?_; rintro r w8 ⟨rfl, hb8⟩)
    go_ret
    exact ⟨rfl, btr B6.out hb8⟩
  · go_wp2_with (first | (go_at_call 29; refine (within_nil _ _).mono ?_; rintro r w' ⟨rfl, rfl⟩) | fail)
    refine (join_nil _ _).mono ?_
    rintro r w' ⟨rfl, rfl⟩
    go_wp2_with (first | (go_at_call 29; refine (within_nil _ _).mono ?_; rintro r w' ⟨rfl, rfl⟩) | fail)
    refine (join_of_nil _ _).mono ?_
    rintro r w' ⟨rfl, rfl⟩
    go_wp2_with (first | (go_at_call 27; refine (get_nil _ _).mono ?_; rintro r w' ⟨rfl, rfl⟩) | (go_at_call 19; refine (set_nil _ _ _ TT.out NN.out).mono ?_; rintro r w' ⟨rfl, rfl⟩) | (go_at_call 17; refine (tick_arg none _ _ _ (.inr MM.out)).mono ?_; rintro r w' ⟨rfl, rfl⟩) | (go_at_call 33; refine (epoch_nil _ _).mono ?_; rintro r w' ⟨rfl, rfl⟩))
    refine (list_nil _).mono ?_
    rintro r w4 ⟨rfl, rfl⟩
    go_wp2_with (first | (go_at_call 33; refine (epoch_nil _ _).mono ?_; rintro r w' ⟨rfl, rfl⟩))
    refine (copy_nil_ck _).mono ?_
    rintro r w5 ⟨A5, rfl, k5, b5⟩
    have K5 := hide k5
    have B5 := hide (btr BB.out b5)
    clear k5 b5
    go_wp2_with fail
    refine (list_any _ [] _ K5.out).mono ?_
    rintro r w6 ⟨rfl, hw6⟩
    have B6 : Hid (Below w.heap.size w w6) := by show Below _ _ _; rw [hw6]; exact btr B5.out (below_alloc _ _)
    clear hw6
    go_wp2_with (go_at_call 15; refine (joins_any _).mono ?_; rintro r w8 ⟨rfl, hb8⟩)
    go_ret
    exact ⟨rfl, btr B6.out hb8⟩

set_option maxHeartbeats 1600000 in
theorem case5 (a0 a1 : Int) (a2 : Option Addr) (len2 cap2 : Nat) (la : List Int) (w : World) (AA : Hid (At w a2 la)) (HA : Hid (la.length = len2 ∧ len2 ≤ cap2 ∧ cap2 ≤ maxLen)) (t0 : 0 ≤ a0) (t1 : a0 ≤ 255) (m2 : 1048576 < a1) :
    Calls Try.prog 8 #[.int .i64 a0, .int .i64 a1, .slice a2 len2 cap2] w fun e w' => e = .returned (.bool true) ∧ Below w.heap.size w w' := by
  have TT : Hid (okT a0 = true) := by show _ = _; rw [okT_iff]; omega
  have hd : decide (a1 ≤ 1048576) = false := by simp; omega
  go_enter Try.func8, Try.ntmps8
  go_wp2_with fail
  refine (of_any _ la _ _ HA.out.1 _ AA.out HA.out.2.1 HA.out.2.2).mono ?_
  rintro r w1 ⟨p1, e1, rfl, h1⟩
  have BB : Hid (Below w.heap.size w w1) := h1.below
  rcases h1 with ⟨q1, rfl, n0, n1, _⟩ | ⟨rfl, _, v1, A1, rfl, _⟩
  · clear q1
    go_wp2_with (first | (go_at_call 27; refine (get_nil _ _).mono ?_; rintro r w' ⟨rfl, rfl⟩) | (go_at_call 19; refine (set_arg none _ _ _ (.inr (okN_no _ (.inr m2)))).mono ?_; rintro r w' ⟨rfl, rfl⟩) | (go_at_call 17; refine (tick_arg none _ _ _ (.inr (okM_no _ (.inr m2)))).mono ?_; rintro r w' ⟨rfl, rfl⟩) | (go_at_call 33; refine (epoch_nil _ _).mono ?_; rintro r w' ⟨rfl, rfl⟩))
    refine (list_nil _).mono ?_
    rintro r w4 ⟨rfl, rfl⟩
    go_wp2_with (first | (go_at_call 33; refine (epoch_nil _ _).mono ?_; rintro r w' ⟨rfl, rfl⟩))
    refine (copy_nil_ck _).mono ?_
    rintro r w5 ⟨A5, rfl, k5, b5⟩
    have K5 := hide k5
    have B5 := hide (btr BB.out b5)
    clear k5 b5
    go_wp2_with fail
    refine (list_any _ [] _ K5.out).mono ?_
    rintro r w6 ⟨rfl, hw6⟩
    have B6 : Hid (Below w.heap.size w w6) := by show Below _ _ _; rw [hw6]; exact btr B5.out (below_alloc _ _)
    clear hw6
    go_wp2_with (go_at_call 15; refine (joins_any _).mono ?_; rintro r w8 ⟨rfl, hb8⟩)
    go_ret
    exact ⟨rfl, btr B6.out hb8⟩
  · go_wp2_with (first | (go_at_call 29; refine (within_nil _ _).mono ?_; rintro r w' ⟨rfl, rfl⟩) | fail)
    refine (join_nil _ _).mono ?_
    rintro r w' ⟨rfl, rfl⟩
    go_wp2_with (first | (go_at_call 29; refine (within_nil _ _).mono ?_; rintro r w' ⟨rfl, rfl⟩) | fail)
    refine (join_of_nil _ _).mono ?_
    rintro r w' ⟨rfl, rfl⟩
    go_wp2_with (first | (go_at_call 27; refine (get_nil _ _).mono ?_; rintro r w' ⟨rfl, rfl⟩) | (go_at_call 19; refine (set_arg none _ _ _ (.inr (okN_no _ (.inr m2)))).mono ?_; rintro r w' ⟨rfl, rfl⟩) | (go_at_call 17; refine (tick_arg none _ _ _ (.inr (okM_no _ (.inr m2)))).mono ?_; rintro r w' ⟨rfl, rfl⟩) | (go_at_call 33; refine (epoch_nil _ _).mono ?_; rintro r w' ⟨rfl, rfl⟩))
    refine (list_nil _).mono ?_
    rintro r w4 ⟨rfl, rfl⟩
    go_wp2_with (first | (go_at_call 33; refine (epoch_nil _ _).mono ?_; rintro r w' ⟨rfl, rfl⟩))
    refine (copy_nil_ck _).mono ?_
    rintro r w5 ⟨A5, rfl, k5, b5⟩
    have K5 := hide k5
    have B5 := hide (btr BB.out b5)
    clear k5 b5
    go_wp2_with fail
    refine (list_any _ [] _ K5.out).mono ?_
    rintro r w6 ⟨rfl, hw6⟩
    have B6 : Hid (Below w.heap.size w w6) := by show Below _ _ _; rw [hw6]; exact btr B5.out (below_alloc _ _)
    clear hw6
    go_wp2_with (go_at_call 15; refine (joins_any _).mono ?_; rintro r w8 ⟨rfl, hb8⟩)
    go_ret
    exact ⟨rfl, btr B6.out hb8⟩

set_option maxHeartbeats 1600000 in
theorem case6 (a0 a1 : Int) (a2 : Option Addr) (len2 cap2 : Nat) (la : List Int) (w : World) (AA : Hid (At w a2 la)) (HA : Hid (la.length = len2 ∧ len2 ≤ cap2 ∧ cap2 ≤ maxLen)) (t0 : 0 ≤ a0) (t1 : a0 ≤ 255) (m1 : 1 ≤ a1) (m2 : a1 ≤ 1048576) :
    Calls Try.prog 8 #[.int .i64 a0, .int .i64 a1, .slice a2 len2 cap2] w fun e w' => e = .returned (.bool true) ∧ Below w.heap.size w w' := by
  have TT : Hid (okT a0 = true) := by show _ = _; rw [okT_iff]; omega
  have NN : Hid (okN a1 = true) := by show _ = _; rw [okN_iff]; omega
  have MM : Hid (okM a1 = true) := by show _ = _; rw [okM_iff]; omega
  go_enter Try.func8, Try.ntmps8
  go_wp2_with fail
  refine (of_any _ la _ _ HA.out.1 _ AA.out HA.out.2.1 HA.out.2.2).mono ?_
  rintro r w1 ⟨p1, e1, rfl, h1⟩
  have BB : Hid (Below w.heap.size w w1) := h1.below
  rcases h1 with ⟨q1, rfl, n0, n1, _⟩ | ⟨rfl, _, v1, A1, rfl, _⟩
  · clear q1
    go_wp2_with (first | (go_at_call 27; refine (get_nil _ _).mono ?_; rintro r w' ⟨rfl, rfl⟩) | (go_at_call 19; refine (set_nil _ _ _ TT.out NN.out).mono ?_; rintro r w' ⟨rfl, rfl⟩) | (go_at_call 17; refine (tick_nil _ _ _ TT.out MM.out).mono ?_; rintro r w' ⟨rfl, rfl⟩) | (go_at_call 33; refine (epoch_nil _ _).mono ?_; rintro r w' ⟨rfl, rfl⟩))
    refine (list_nil _).mono ?_
    rintro r w4 ⟨rfl, rfl⟩
    go_wp2_with (first | (go_at_call 33; refine (epoch_nil _ _).mono ?_; rintro r w' ⟨rfl, rfl⟩))
    refine (copy_nil_ck _).mono ?_
    rintro r w5 ⟨A5, rfl, k5, b5⟩
    have K5 := hide k5
    have B5 := hide (btr BB.out b5)
    clear k5 b5
    go_wp2_with fail
    refine (list_any _ [] _ K5.out).mono ?_
    rintro r w6 ⟨rfl, hw6⟩
    have B6 : Hid (Below w.heap.size w w6) := by show Below _ _ _; rw [hw6]; exact btr B5.out (below_alloc _ _)
    clear hw6
    go_wp2_with (go_at_call 15; refine (joins_any _).mono ?_; rintro r w8 ⟨rfl, hb8⟩)
    go_ret
    exact ⟨rfl, btr B6.out hb8⟩
  · go_wp2_with (first | (go_at_call 29; refine (within_nil _ _).mono ?_; rintro r w' ⟨rfl, rfl⟩) | fail)
    refine (join_nil _ _).mono ?_
    rintro r w' ⟨rfl, rfl⟩
    go_wp2_with (first | (go_at_call 29; refine (within_nil _ _).mono ?_; rintro r w' ⟨rfl, rfl⟩) | fail)
    refine (join_of_nil _ _).mono ?_
    rintro r w' ⟨rfl, rfl⟩
    go_wp2_with (first | (go_at_call 27; refine (get_nil _ _).mono ?_; rintro r w' ⟨rfl, rfl⟩) | (go_at_call 19; refine (set_nil _ _ _ TT.out NN.out).mono ?_; rintro r w' ⟨rfl, rfl⟩) | (go_at_call 17; refine (tick_nil _ _ _ TT.out MM.out).mono ?_; rintro r w' ⟨rfl, rfl⟩) | (go_at_call 33; refine (epoch_nil _ _).mono ?_; rintro r w' ⟨rfl, rfl⟩))
    refine (list_nil _).mono ?_
    rintro r w4 ⟨rfl, rfl⟩
    go_wp2_with (first | (go_at_call 33; refine (epoch_nil _ _).mono ?_; rintro r w' ⟨rfl, rfl⟩))
    refine (copy_nil_ck _).mono ?_
    rintro r w5 ⟨A5, rfl, k5, b5⟩
    have K5 := hide k5
    have B5 := hide (btr BB.out b5)
    clear k5 b5
    go_wp2_with fail
    refine (list_any _ [] _ K5.out).mono ?_
    rintro r w6 ⟨rfl, hw6⟩
    have B6 : Hid (Below w.heap.size w w6) := by show Below _ _ _; rw [hw6]; exact btr B5.out (below_alloc _ _)
    clear hw6
    go_wp2_with (go_at_call 15; refine (joins_any _).mono ?_; rintro r w8 ⟨rfl, hb8⟩)
    go_ret
    exact ⟨rfl, btr B6.out hb8⟩

/-! ### the walk -/
theorem walk (a0 : Int) (a1 : Int) (a2 : Option Addr) (len2 cap2 : Nat) (z2 : List Int) (w : World) (w0 : (Lit.int .i64 a0).wf = true) (w1 : (Lit.int .i64 a1).wf = true) (w2 : IsRow .i64 w a2 len2 cap2 z2) :
    Calls Try.prog 8 #[.int .i64 a0, .int .i64 a1, .slice a2 len2 cap2] w fun e w' => e = .returned (.bool true) ∧ Below w.heap.size w w' := by
  obtain ⟨la, hla, hAa, hca, hma⟩ := isRow_at w2
  have HA := hide (And.intro hla (And.intro hca hma))
  by_cases t0 : a0 < 0
  · exact case1 a0 a1 _ _ _ la w hAa HA t0
  by_cases t1 : 255 < a0
  · exact case2 a0 a1 _ _ _ la w hAa HA t1
  by_cases m0 : a1 < 0
  · exact case3 a0 a1 _ _ _ la w hAa HA (by omega) (by omega) m0
  by_cases m1 : a1 < 1
  · exact case4 a0 a1 _ _ _ la w hAa HA (by omega) (by omega) (by omega) m1
  by_cases m2 : 1048576 < a1
  · exact case5 a0 a1 _ _ _ la w hAa HA (by omega) (by omega) m2
  exact case6 a0 a1 _ _ _ la w hAa HA (by omega) (by omega) (by omega) (by omega)

/-! ### the row -/
set_option maxRecDepth 100000 in
theorem lifted (os : Os) (started : os.Started) (H : Type) (enc : TypeId × Value → H) :
    ReturnsInHanded {} Try.checked os 8 .any (Rows.clockNilSpec.pre6 enc Try.prog Try.f8 Rows.clockNilRow.domain false) (Rows.clockNilSpec.post enc Try.prog Try.f8 false true false false) := by
  refine returnsInHanded_of_change (C := Try.checked) own started (by kernel_rfl) Try.func8
    (ChangeSpec.witness6 (enc := enc) (C := Try.checked) false ⟨#[], #[.int .i64 0, .int .i64 0, .slice none 0 0], []⟩ 8 (by kernel_rfl) (by kernel_rfl) (by kernel_rfl) (by kernel_rfl)) ?_
  intro W base args ds gs before hval0 hW hcnd _
  have hval : ∀ (j : Nat) t v, Try.f8.params[j]? = some t → args[j]? = some v → Value.okWide Try.prog W .any base t v := hval0
  have hW' := hW
  obtain ⟨p, q, hA0, hV, rfl, hfz, hnd⟩ := hW
  have hA : DataW.TrodAll enc Try.prog W 0 (fun _ => true) true Try.f8.params.toList args.toList ds p := hA0
  rw [Try.params8] at hA hval
  obtain ⟨v0, vs0, d0, ds0, p0, q0, hargs, rfl, rfl, h0, r0⟩ := trodAll_cons hA
  obtain ⟨v1, vs1, d1, ds1, p1, q1, rfl, rfl, rfl, h1, r1⟩ := trodAll_cons r0
  obtain ⟨v2, vs2, d2, ds2, p2, q2, rfl, rfl, rfl, h2, r2⟩ := trodAll_cons r1
  obtain ⟨rfl, rfl, rfl⟩ := trodAll_nil r2
  obtain rfl : args = #[v0, v1, v2] := by cases args; simp_all
  obtain ⟨rfl, rfl⟩ := trodVars_none hV
  obtain ⟨a0, rfl, rfl, rfl, w0⟩ := open_int Try.underlying3 (hval 0 3 v0 rfl rfl) h0
  obtain ⟨a1, rfl, rfl, rfl, w1⟩ := open_int Try.underlying3 (hval 1 3 v1 rfl rfl) h1
  obtain ⟨a2, len2, cap2, rfl⟩ := okWide_slice Try.underlying46 (hval 2 46 v2 rfl rfl)
  have k2 := h2
  have lt2 : ∀ x ∈ p2, x.block < W.heap.size := by obtain ⟨m, hm⟩ := k2; exact DataW.trod_lt m _ _ _ hm
  obtain ⟨z2, w2⟩ : ∃ zs, IsRow .i64 W a2 len2 cap2 zs := by
    obtain ⟨fuel, hf⟩ := h2
    rcases open_ints Try.underlying46 Try.underlying3 (by kernel_rfl) hf with ⟨hcs, _⟩ | ⟨x, l, c, zs, hcs, _, hl, hm, hz, _, hcell, hwz⟩
    · simp [Value.cells] at hcs
      obtain ⟨rfl, rfl, rfl⟩ := hcs
      exact ⟨[], .inl ⟨rfl, rfl, rfl, rfl⟩⟩
    · simp [Value.cells] at hcs
      obtain ⟨rfl, rfl, rfl⟩ := hcs
      exact ⟨zs, .inr ⟨_, rfl, hl, hm, by simpa using hz, hcell, hwz⟩⟩
  clear hA0 hval0
  refine (walk a0 a1 a2 len2 cap2 z2 W w0 w1 w2).mono fun e W' ⟨he, bel⟩ => ?_
  subst he
  exact ⟨_, rfl, _, _, _, [], _, [], hW', trodAll_mk1 (shut_bool Try.underlying4 _), (trodAll_cons_mk (shut_int Try.underlying3 w0) (trodAll_cons_mk (shut_int Try.underlying3 w1) (trodAll_cons_mk (Below.trod laidOut (by kernel_rfl) (of_decide_eq_true (by kernel_rfl)) k2 bel lt2) trodAll_mk0))), rfl, bel.frame _, fun h => by cases h⟩

theorem over : Rows.clockNilRow.holds Try.pinned (OpenSpec.ofChange Rows.clockNilSpec) :=
  OpenClaim.holds_of_wide 8 Try.f8 rfl rfl rfl rfl rfl rfl rfl ⟨rfl, rfl, rfl, rfl, rfl⟩ rfl rfl rfl rfl rfl (by kernel_rfl) Try.func8 (by kernel_rfl)
    (of_decide_eq_true (by kernel_rfl)) (by unfold Func.isWrapper; first | (rw [if_pos (by decide +kernel)]; kernel_rfl) | (rw [if_neg (by decide +kernel)]; exact ⟨rfl, rfl⟩))
    (fun os started H enc _ => lifted os started H enc)

/-- ████ THE STATEMENT ████ -/
theorem proved : Rows.ClockNilSaid := over
#print axioms proved
end Go.Proofs.Ytjcmaigeiijfeab.clockNil
