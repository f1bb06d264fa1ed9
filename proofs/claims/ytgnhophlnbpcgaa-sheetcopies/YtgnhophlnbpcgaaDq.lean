/- The reference's bit and Numbers, over this seat's program. -/
import Derived.Test.YtgnhophlnbpcgaaDo
namespace Go.Proofs.Ytgnhophlnbpcgaa
open Go.ChangeShapes Go.WideShapes Go.ChangeAt Go.RowKit
namespace De
open Ba Re

theorem rbit_any (b : Bool) (w : World) :
    Calls Try.prog 80 #[.bool b] w fun r w' => r = .returned (.int .i64 (bt b)) ∧ w' = w := by
  cases b
  all_goals
    go_enter Try.func80, Try.ntmps80
    go_wp2
    go_ret
    exact ⟨rfl, rfl⟩

/-- what the making of the numbers keeps: the operation at B, the numbers so far -/
structure MK (w wr : World) (B : Nat) (k a b : Int) (s : Value) (d : Bool) (v : Value) (xs : List Int) : Prop where
  op : wr.heap[B]? = some (.cells #[.int .i64 k, .int .i64 a, .int .i64 b, s, .bool d] 24 (0, 0))
  own : wr.ownsRow w.heap.size 3 1 v xs.length (xs.map (Value.int .i64))
  bel : Below w.heap.size w wr
theorem MK.below {w wr wr' : World} {B : Nat} {k a b : Int} {s v : Value} {d : Bool} {xs : List Int} (h : MK w wr B k a b s d v xs) (hb : Below wr.heap.size wr wr') : MK w wr' B k a b s d v xs :=
  ⟨heap_below h.op hb, owns_below h.own hb, btr h.bel hb⟩
theorem MK.grown {w wr wr' : World} {B : Nat} {k a b : Int} {s v v' : Value} {d : Bool} {xs xs' : List Int} (h : MK w wr B k a b s d v xs) (hg : wr.grownBy wr' v.ownBlock) (ho : wr'.ownsRow w.heap.size 3 1 v' xs'.length (xs'.map (Value.int .i64))) : MK w wr' B k a b s d v' xs' :=
  ⟨(hg.block B (heap_lt h.op) (own_ne h.own h.op (by decide))).trans h.op, ho, h.bel.grown hg h.bel.size (fun x hx => (h.own.lt x hx).1)⟩
theorem MK.start (w : World) (k a b : Int) (s : Value) (d : Bool) : MK w ((w.alloc (.cells #[.int .i64 k, .int .i64 a, .int .i64 b, s, .bool d] 24)).alloc (.cells #[.int .i64 k] 3)) w.heap.size k a b s d (.slice (some ⟨w.heap.size + 1, 0, none⟩) 1 1) [k] := by
  generalize hO : Obj.cells #[Value.int .i64 k, .int .i64 a, .int .i64 b, s, .bool d] 24 = O
  generalize hK : Obj.cells #[Value.int .i64 k] 3 = K
  have B1 := below_alloc w O
  have B2 := below_alloc (w.alloc O) K
  have q1 := heap_below (heap_new w O) B2
  have q2 := heap_new (w.alloc O) K
  rw [World.size_alloc] at q2
  subst hO hK
  exact ⟨q1, ⟨rfl, .inr ⟨w.heap.size + 1, 1, _, rfl, by omega, q2, Nat.le_refl _, by decide, rfl, rfl⟩⟩, btr B1 B2⟩

set_option maxHeartbeats 1600000 in
theorem rnums_1 (a b : Int) (d : Bool) (oa : Option Addr) (n c : Nat) (w : World) :
    Calls Try.prog 71 #[.agg #[.int .i64 1, .int .i64 a, .int .i64 b, .slice oa n c, .bool d]] w fun r w' => NA r w' [1, a] ∧ Below w.heap.size w w' := by
  obtain ⟨i0, hi, hz0, hz1, hz2⟩ := info_parts info_int
  have INF := hide (And.intro hi (And.intro hz0 (And.intro hz1 hz2)))
  clear hi hz0 hz1 hz2
  have M0 := hide (MK.start w 1 a b (.slice oa n c) d)
  have j0 : ∀ w, (Instr.index 9 (.string (bs [112, 46])) (.int .i64 0)).run Try.prog w = .ok (.int .u8 112) w := ixA 1 (by decide) (by decide)
  have j1 : ∀ w, (Instr.index 9 (.string (bs [112, 46])) (.int .i64 1)).run Try.prog w = .ok (.int .u8 46) w := ixB 1 (by decide) (by decide)
  go_enter Try.func71, Try.ntmps71
  go_wp2_with fail
  refine (row_1 _).mono ?_
  rintro r w1 ⟨rfl, b1⟩
  have M1 := hide (M0.out.below b1)
  clear b1
  have L1 := hide (M1.out.below (below_alloc w1 (.cells #[.int .i64 a] 3)))
  have oc := cell_of M1.out.op 1
  simp at oc
  go_wp2_with (at_builtin; refine wpList_append_own _ rfl _ _ 36 rfl w.heap.size 3 i0 (.int .i64 0) 1 8 Try.underlying36 INF.out.1 INF.out.2.1 INF.out.2.2.1 INF.out.2.2.2 rfl (by decide) _ _ _ rfl L1.out.own ⟨w1.heap.size, 0, none⟩ 1 1 [.int .i64 a] rfl rfl ?c1 ?c2 ?c3 ?c4 ?c5 ?_)
  case c1 => exact src_new w1 [a]
  case c2 => intro u hu; simp at hu; subst hu; rfl
  case c3 => unfold maxLen; simp
  case c4 => simp
  case c5 => exact L1.out.bel.size
  intro v2 w2 hown hgrow _
  have M2 := hide (L1.out.grown (xs' := [1, a]) hgrow hown)
  clear hown hgrow oc
  obtain ⟨oa2, c2, hv2, -⟩ := owns_at M2.out.own
  subst hv2
  go_wp2_with fail
  go_ret
  obtain ⟨oa', c', hv', hat'⟩ := owns_at M2.out.own
  exact ⟨⟨oa', c', by rw [← hv']; rfl, hat'⟩, M2.out.bel⟩

set_option maxHeartbeats 1600000 in
theorem rnums_2 (a b : Int) (d : Bool) (oa : Option Addr) (n c : Nat) (w : World) :
    Calls Try.prog 71 #[.agg #[.int .i64 2, .int .i64 a, .int .i64 b, .slice oa n c, .bool d]] w fun r w' => NA r w' [2, a, b] ∧ Below w.heap.size w w' := by
  obtain ⟨i0, hi, hz0, hz1, hz2⟩ := info_parts info_int
  have INF := hide (And.intro hi (And.intro hz0 (And.intro hz1 hz2)))
  clear hi hz0 hz1 hz2
  have M0 := hide (MK.start w 2 a b (.slice oa n c) d)
  have j0 : ∀ w, (Instr.index 9 (.string (bs [99, 109])) (.int .i64 0)).run Try.prog w = .ok (.int .u8 99) w := ixA 2 (by decide) (by decide)
  have j1 : ∀ w, (Instr.index 9 (.string (bs [99, 109])) (.int .i64 1)).run Try.prog w = .ok (.int .u8 109) w := ixB 2 (by decide) (by decide)
  go_enter Try.func71, Try.ntmps71
  go_wp2_with fail
  refine (row_2 _).mono ?_
  rintro r w1 ⟨rfl, b1⟩
  have M1 := hide (M0.out.below b1)
  clear b1
  have L1 := hide (M1.out.below (below_alloc w1 (.cells #[.int .i64 a] 3)))
  have oc := cell_of M1.out.op 1
  simp at oc
  go_wp2_with (at_builtin; refine wpList_append_own _ rfl _ _ 36 rfl w.heap.size 3 i0 (.int .i64 0) 1 8 Try.underlying36 INF.out.1 INF.out.2.1 INF.out.2.2.1 INF.out.2.2.2 rfl (by decide) _ _ _ rfl L1.out.own ⟨w1.heap.size, 0, none⟩ 1 1 [.int .i64 a] rfl rfl ?c1 ?c2 ?c3 ?c4 ?c5 ?_)
  case c1 => exact src_new w1 [a]
  case c2 => intro u hu; simp at hu; subst hu; rfl
  case c3 => unfold maxLen; simp
  case c4 => simp
  case c5 => exact L1.out.bel.size
  intro v2 w2 hown hgrow _
  have M2 := hide (L1.out.grown (xs' := [2, a]) hgrow hown)
  clear hown hgrow oc
  obtain ⟨oa2, c2, hv2, -⟩ := owns_at M2.out.own
  subst hv2
  have L2 := hide (M2.out.below (below_alloc w2 (.cells #[.int .i64 b] 3)))
  have oc := cell_of M2.out.op 2
  simp at oc
  go_wp2_with (at_builtin; refine wpList_append_own _ rfl _ _ 36 rfl w.heap.size 3 i0 (.int .i64 0) 1 8 Try.underlying36 INF.out.1 INF.out.2.1 INF.out.2.2.1 INF.out.2.2.2 rfl (by decide) _ _ _ rfl L2.out.own ⟨w2.heap.size, 0, none⟩ 1 1 [.int .i64 b] rfl rfl ?c1 ?c2 ?c3 ?c4 ?c5 ?_)
  case c1 => exact src_new w2 [b]
  case c2 => intro u hu; simp at hu; subst hu; rfl
  case c3 => unfold maxLen; simp
  case c4 => simp
  case c5 => exact L2.out.bel.size
  intro v3 w3 hown hgrow _
  have M3 := hide (L2.out.grown (xs' := [2, a, b]) hgrow hown)
  clear hown hgrow oc
  obtain ⟨oa3, c3, hv3, -⟩ := owns_at M3.out.own
  subst hv3
  go_wp2_with fail
  go_ret
  obtain ⟨oa', c', hv', hat'⟩ := owns_at M3.out.own
  exact ⟨⟨oa', c', by rw [← hv']; rfl, hat'⟩, M3.out.bel⟩

set_option maxHeartbeats 1600000 in
theorem rnums_3 (a b : Int) (d : Bool) (oa : Option Addr) (n c : Nat) (w : World) :
    Calls Try.prog 71 #[.agg #[.int .i64 3, .int .i64 a, .int .i64 b, .slice oa n c, .bool d]] w fun r w' => NA r w' [3, a, b] ∧ Below w.heap.size w w' := by
  obtain ⟨i0, hi, hz0, hz1, hz2⟩ := info_parts info_int
  have INF := hide (And.intro hi (And.intro hz0 (And.intro hz1 hz2)))
  clear hi hz0 hz1 hz2
  have M0 := hide (MK.start w 3 a b (.slice oa n c) d)
  have j0 : ∀ w, (Instr.index 9 (.string (bs [99, 118])) (.int .i64 0)).run Try.prog w = .ok (.int .u8 99) w := ixA 3 (by decide) (by decide)
  have j1 : ∀ w, (Instr.index 9 (.string (bs [99, 118])) (.int .i64 1)).run Try.prog w = .ok (.int .u8 118) w := ixB 3 (by decide) (by decide)
  go_enter Try.func71, Try.ntmps71
  go_wp2_with fail
  refine (row_3 _).mono ?_
  rintro r w1 ⟨rfl, b1⟩
  have M1 := hide (M0.out.below b1)
  clear b1
  have L1 := hide (M1.out.below (below_alloc w1 (.cells #[.int .i64 a] 3)))
  have oc := cell_of M1.out.op 1
  simp at oc
  go_wp2_with (at_builtin; refine wpList_append_own _ rfl _ _ 36 rfl w.heap.size 3 i0 (.int .i64 0) 1 8 Try.underlying36 INF.out.1 INF.out.2.1 INF.out.2.2.1 INF.out.2.2.2 rfl (by decide) _ _ _ rfl L1.out.own ⟨w1.heap.size, 0, none⟩ 1 1 [.int .i64 a] rfl rfl ?c1 ?c2 ?c3 ?c4 ?c5 ?_)
  case c1 => exact src_new w1 [a]
  case c2 => intro u hu; simp at hu; subst hu; rfl
  case c3 => unfold maxLen; simp
  case c4 => simp
  case c5 => exact L1.out.bel.size
  intro v2 w2 hown hgrow _
  have M2 := hide (L1.out.grown (xs' := [3, a]) hgrow hown)
  clear hown hgrow oc
  obtain ⟨oa2, c2, hv2, -⟩ := owns_at M2.out.own
  subst hv2
  have L2 := hide (M2.out.below (below_alloc w2 (.cells #[.int .i64 b] 3)))
  have oc := cell_of M2.out.op 2
  simp at oc
  go_wp2_with (at_builtin; refine wpList_append_own _ rfl _ _ 36 rfl w.heap.size 3 i0 (.int .i64 0) 1 8 Try.underlying36 INF.out.1 INF.out.2.1 INF.out.2.2.1 INF.out.2.2.2 rfl (by decide) _ _ _ rfl L2.out.own ⟨w2.heap.size, 0, none⟩ 1 1 [.int .i64 b] rfl rfl ?c1 ?c2 ?c3 ?c4 ?c5 ?_)
  case c1 => exact src_new w2 [b]
  case c2 => intro u hu; simp at hu; subst hu; rfl
  case c3 => unfold maxLen; simp
  case c4 => simp
  case c5 => exact L2.out.bel.size
  intro v3 w3 hown hgrow _
  have M3 := hide (L2.out.grown (xs' := [3, a, b]) hgrow hown)
  clear hown hgrow oc
  obtain ⟨oa3, c3, hv3, -⟩ := owns_at M3.out.own
  subst hv3
  go_wp2_with fail
  go_ret
  obtain ⟨oa', c', hv', hat'⟩ := owns_at M3.out.own
  exact ⟨⟨oa', c', by rw [← hv']; rfl, hat'⟩, M3.out.bel⟩

set_option maxHeartbeats 1600000 in
theorem rnums_4 (a b : Int) (d : Bool) (oa : Option Addr) (n c : Nat) (w : World) :
    Calls Try.prog 71 #[.agg #[.int .i64 4, .int .i64 a, .int .i64 b, .slice oa n c, .bool d]] w fun r w' => NA r w' [4, a] ∧ Below w.heap.size w w' := by
  obtain ⟨i0, hi, hz0, hz1, hz2⟩ := info_parts info_int
  have INF := hide (And.intro hi (And.intro hz0 (And.intro hz1 hz2)))
  clear hi hz0 hz1 hz2
  have M0 := hide (MK.start w 4 a b (.slice oa n c) d)
  have j0 : ∀ w, (Instr.index 9 (.string (bs [99, 46])) (.int .i64 0)).run Try.prog w = .ok (.int .u8 99) w := ixA 4 (by decide) (by decide)
  have j1 : ∀ w, (Instr.index 9 (.string (bs [99, 46])) (.int .i64 1)).run Try.prog w = .ok (.int .u8 46) w := ixB 4 (by decide) (by decide)
  go_enter Try.func71, Try.ntmps71
  go_wp2_with fail
  refine (row_4 _).mono ?_
  rintro r w1 ⟨rfl, b1⟩
  have M1 := hide (M0.out.below b1)
  clear b1
  have L1 := hide (M1.out.below (below_alloc w1 (.cells #[.int .i64 a] 3)))
  have oc := cell_of M1.out.op 1
  simp at oc
  go_wp2_with (at_builtin; refine wpList_append_own _ rfl _ _ 36 rfl w.heap.size 3 i0 (.int .i64 0) 1 8 Try.underlying36 INF.out.1 INF.out.2.1 INF.out.2.2.1 INF.out.2.2.2 rfl (by decide) _ _ _ rfl L1.out.own ⟨w1.heap.size, 0, none⟩ 1 1 [.int .i64 a] rfl rfl ?c1 ?c2 ?c3 ?c4 ?c5 ?_)
  case c1 => exact src_new w1 [a]
  case c2 => intro u hu; simp at hu; subst hu; rfl
  case c3 => unfold maxLen; simp
  case c4 => simp
  case c5 => exact L1.out.bel.size
  intro v2 w2 hown hgrow _
  have M2 := hide (L1.out.grown (xs' := [4, a]) hgrow hown)
  clear hown hgrow oc
  obtain ⟨oa2, c2, hv2, -⟩ := owns_at M2.out.own
  subst hv2
  go_wp2_with fail
  go_ret
  obtain ⟨oa', c', hv', hat'⟩ := owns_at M2.out.own
  exact ⟨⟨oa', c', by rw [← hv']; rfl, hat'⟩, M2.out.bel⟩

set_option maxHeartbeats 1600000 in
theorem rnums_5 (a b : Int) (d : Bool) (oa : Option Addr) (n c : Nat) (w : World) :
    Calls Try.prog 71 #[.agg #[.int .i64 5, .int .i64 a, .int .i64 b, .slice oa n c, .bool d]] w fun r w' => NA r w' [5, a] ∧ Below w.heap.size w w' := by
  obtain ⟨i0, hi, hz0, hz1, hz2⟩ := info_parts info_int
  have INF := hide (And.intro hi (And.intro hz0 (And.intro hz1 hz2)))
  clear hi hz0 hz1 hz2
  have M0 := hide (MK.start w 5 a b (.slice oa n c) d)
  have j0 : ∀ w, (Instr.index 9 (.string (bs [99, 46])) (.int .i64 0)).run Try.prog w = .ok (.int .u8 99) w := ixA 5 (by decide) (by decide)
  have j1 : ∀ w, (Instr.index 9 (.string (bs [99, 46])) (.int .i64 1)).run Try.prog w = .ok (.int .u8 46) w := ixB 5 (by decide) (by decide)
  go_enter Try.func71, Try.ntmps71
  go_wp2_with fail
  refine (row_5 _).mono ?_
  rintro r w1 ⟨rfl, b1⟩
  have M1 := hide (M0.out.below b1)
  clear b1
  have L1 := hide (M1.out.below (below_alloc w1 (.cells #[.int .i64 a] 3)))
  have oc := cell_of M1.out.op 1
  simp at oc
  go_wp2_with (at_builtin; refine wpList_append_own _ rfl _ _ 36 rfl w.heap.size 3 i0 (.int .i64 0) 1 8 Try.underlying36 INF.out.1 INF.out.2.1 INF.out.2.2.1 INF.out.2.2.2 rfl (by decide) _ _ _ rfl L1.out.own ⟨w1.heap.size, 0, none⟩ 1 1 [.int .i64 a] rfl rfl ?c1 ?c2 ?c3 ?c4 ?c5 ?_)
  case c1 => exact src_new w1 [a]
  case c2 => intro u hu; simp at hu; subst hu; rfl
  case c3 => unfold maxLen; simp
  case c4 => simp
  case c5 => exact L1.out.bel.size
  intro v2 w2 hown hgrow _
  have M2 := hide (L1.out.grown (xs' := [5, a]) hgrow hown)
  clear hown hgrow oc
  obtain ⟨oa2, c2, hv2, -⟩ := owns_at M2.out.own
  subst hv2
  go_wp2_with fail
  go_ret
  obtain ⟨oa', c', hv', hat'⟩ := owns_at M2.out.own
  exact ⟨⟨oa', c', by rw [← hv']; rfl, hat'⟩, M2.out.bel⟩

set_option maxHeartbeats 1600000 in
theorem rnums_7 (a b : Int) (d : Bool) (oa : Option Addr) (n c : Nat) (w : World) :
    Calls Try.prog 71 #[.agg #[.int .i64 7, .int .i64 a, .int .i64 b, .slice oa n c, .bool d]] w fun r w' => NA r w' [7, a] ∧ Below w.heap.size w w' := by
  obtain ⟨i0, hi, hz0, hz1, hz2⟩ := info_parts info_int
  have INF := hide (And.intro hi (And.intro hz0 (And.intro hz1 hz2)))
  clear hi hz0 hz1 hz2
  have M0 := hide (MK.start w 7 a b (.slice oa n c) d)
  have j0 : ∀ w, (Instr.index 9 (.string (bs [120, 46])) (.int .i64 0)).run Try.prog w = .ok (.int .u8 120) w := ixA 7 (by decide) (by decide)
  have j1 : ∀ w, (Instr.index 9 (.string (bs [120, 46])) (.int .i64 1)).run Try.prog w = .ok (.int .u8 46) w := ixB 7 (by decide) (by decide)
  go_enter Try.func71, Try.ntmps71
  go_wp2_with fail
  refine (row_7 _).mono ?_
  rintro r w1 ⟨rfl, b1⟩
  have M1 := hide (M0.out.below b1)
  clear b1
  have L1 := hide (M1.out.below (below_alloc w1 (.cells #[.int .i64 a] 3)))
  have oc := cell_of M1.out.op 1
  simp at oc
  go_wp2_with (at_builtin; refine wpList_append_own _ rfl _ _ 36 rfl w.heap.size 3 i0 (.int .i64 0) 1 8 Try.underlying36 INF.out.1 INF.out.2.1 INF.out.2.2.1 INF.out.2.2.2 rfl (by decide) _ _ _ rfl L1.out.own ⟨w1.heap.size, 0, none⟩ 1 1 [.int .i64 a] rfl rfl ?c1 ?c2 ?c3 ?c4 ?c5 ?_)
  case c1 => exact src_new w1 [a]
  case c2 => intro u hu; simp at hu; subst hu; rfl
  case c3 => unfold maxLen; simp
  case c4 => simp
  case c5 => exact L1.out.bel.size
  intro v2 w2 hown hgrow _
  have M2 := hide (L1.out.grown (xs' := [7, a]) hgrow hown)
  clear hown hgrow oc
  obtain ⟨oa2, c2, hv2, -⟩ := owns_at M2.out.own
  subst hv2
  go_wp2_with fail
  go_ret
  obtain ⟨oa', c', hv', hat'⟩ := owns_at M2.out.own
  exact ⟨⟨oa', c', by rw [← hv']; rfl, hat'⟩, M2.out.bel⟩

set_option maxHeartbeats 1600000 in
theorem rnums_8 (a b : Int) (d : Bool) (oa : Option Addr) (n c : Nat) (w : World) :
    Calls Try.prog 71 #[.agg #[.int .i64 8, .int .i64 a, .int .i64 b, .slice oa n c, .bool d]] w fun r w' => NA r w' [8, a] ∧ Below w.heap.size w w' := by
  obtain ⟨i0, hi, hz0, hz1, hz2⟩ := info_parts info_int
  have INF := hide (And.intro hi (And.intro hz0 (And.intro hz1 hz2)))
  clear hi hz0 hz1 hz2
  have M0 := hide (MK.start w 8 a b (.slice oa n c) d)
  have j0 : ∀ w, (Instr.index 9 (.string (bs [120, 46])) (.int .i64 0)).run Try.prog w = .ok (.int .u8 120) w := ixA 8 (by decide) (by decide)
  have j1 : ∀ w, (Instr.index 9 (.string (bs [120, 46])) (.int .i64 1)).run Try.prog w = .ok (.int .u8 46) w := ixB 8 (by decide) (by decide)
  go_enter Try.func71, Try.ntmps71
  go_wp2_with fail
  refine (row_8 _).mono ?_
  rintro r w1 ⟨rfl, b1⟩
  have M1 := hide (M0.out.below b1)
  clear b1
  have L1 := hide (M1.out.below (below_alloc w1 (.cells #[.int .i64 a] 3)))
  have oc := cell_of M1.out.op 1
  simp at oc
  go_wp2_with (at_builtin; refine wpList_append_own _ rfl _ _ 36 rfl w.heap.size 3 i0 (.int .i64 0) 1 8 Try.underlying36 INF.out.1 INF.out.2.1 INF.out.2.2.1 INF.out.2.2.2 rfl (by decide) _ _ _ rfl L1.out.own ⟨w1.heap.size, 0, none⟩ 1 1 [.int .i64 a] rfl rfl ?c1 ?c2 ?c3 ?c4 ?c5 ?_)
  case c1 => exact src_new w1 [a]
  case c2 => intro u hu; simp at hu; subst hu; rfl
  case c3 => unfold maxLen; simp
  case c4 => simp
  case c5 => exact L1.out.bel.size
  intro v2 w2 hown hgrow _
  have M2 := hide (L1.out.grown (xs' := [8, a]) hgrow hown)
  clear hown hgrow oc
  obtain ⟨oa2, c2, hv2, -⟩ := owns_at M2.out.own
  subst hv2
  go_wp2_with fail
  go_ret
  obtain ⟨oa', c', hv', hat'⟩ := owns_at M2.out.own
  exact ⟨⟨oa', c', by rw [← hv']; rfl, hat'⟩, M2.out.bel⟩

set_option maxHeartbeats 1600000 in
theorem rnums_9 (a b : Int) (d : Bool) (oa : Option Addr) (n c : Nat) (w : World) :
    Calls Try.prog 71 #[.agg #[.int .i64 9, .int .i64 a, .int .i64 b, .slice oa n c, .bool d]] w fun r w' => NA r w' [9] ∧ Below w.heap.size w w' := by
  obtain ⟨i0, hi, hz0, hz1, hz2⟩ := info_parts info_int
  have INF := hide (And.intro hi (And.intro hz0 (And.intro hz1 hz2)))
  clear hi hz0 hz1 hz2
  have M0 := hide (MK.start w 9 a b (.slice oa n c) d)
  have j0 : ∀ w, (Instr.index 9 (.string (bs [46, 46])) (.int .i64 0)).run Try.prog w = .ok (.int .u8 46) w := ixA 9 (by decide) (by decide)
  have j1 : ∀ w, (Instr.index 9 (.string (bs [46, 46])) (.int .i64 1)).run Try.prog w = .ok (.int .u8 46) w := ixB 9 (by decide) (by decide)
  go_enter Try.func71, Try.ntmps71
  go_wp2_with fail
  refine (row_9 _).mono ?_
  rintro r w1 ⟨rfl, b1⟩
  have M1 := hide (M0.out.below b1)
  clear b1
  go_wp2_with fail
  go_ret
  obtain ⟨oa', c', hv', hat'⟩ := owns_at M1.out.own
  exact ⟨⟨oa', c', by rw [← hv']; rfl, hat'⟩, M1.out.bel⟩

set_option maxRecDepth 100000 in
set_option maxHeartbeats 1600000 in
theorem rnums_6 (a b : Int) (d : Bool) (cs : List Cs) (oa : Option Addr) (c : Nat) (w : World) (hA : CAt w oa cs) (hl : cs.length ≤ 4) :
    Calls Try.prog 71 #[.agg #[.int .i64 6, .int .i64 a, .int .i64 b, .slice oa cs.length c, .bool d]] w fun r w' => (∃ oa' c', r = .returned (.slice oa' (nums ⟨6, a, b, cs, d⟩).length c') ∧ At w' oa' (nums ⟨6, a, b, cs, d⟩)) ∧ Below w.heap.size w w' := by
  have HA := hide hA
  obtain ⟨i0, hi, hz0, hz1, hz2⟩ := info_parts info_int
  have INF := hide (And.intro hi (And.intro hz0 (And.intro hz1 hz2)))
  clear hi hz0 hz1 hz2 hA
  have L2 := hide (MK.start w 6 a b (.slice oa cs.length c) d)
  go_enter Try.func71, Try.ntmps71
  go_wp2_with fail
  generalize ((w.alloc (.cells #[.int .i64 6, .int .i64 a, .int .i64 b, .slice oa cs.length c, .bool d] 24)).alloc (.cells #[.int .i64 6] 3)) = wr at L2 ⊢
  have oc4 := cell_of L2.out.op 4
  have oc3 := cell_of L2.out.op 3
  have NE := hide (own_ne L2.out.own L2.out.op (by decide))
  have olt := heap_lt L2.out.op
  have BS := hide L2.out.bel.size
  have HN := hide (INF.out)
  simp at oc4 oc3
  go_region_held3 (fun w' => w'.cell? ⟨w.heap.size, 4, none⟩ = some (.bool d) ∧ w'.cell? ⟨w.heap.size, 3, none⟩ = some (.slice oa cs.length c))
    (first
      | go_keep
      | (go_split_ands
         refine ⟨?_, ?_⟩
         · (rw [hgrow.cell_far _ (by simp; omega) NE.out]; assumption)
         · (rw [hgrow.cell_far _ (by simp; omega) NE.out]; assumption)))
    (first
      | (go_at_call 80; refine (rbit_any _ _).mono ?_; rintro r w' ⟨rfl, rfl⟩)
      | ((refine step_append_lies _ (by rfl) _ _ _ (by rfl) w.heap.size 3 i0 _ 1 8 Try.underlying36 INF.out.1 INF.out.2.1 INF.out.2.2.1 INF.out.2.2.2 rfl (by omega) _ _ _ (by rfl) ((L2.out.own.alloc _).drew) ⟨wr.heap.size, 0, none⟩ 2 2 [.int .i64 (bt d), .int .i64 (cs.length : Int)] (by rfl) (by rfl) (World.news_of_block (cs := #[.int .i64 (bt d), .int .i64 (cs.length : Int)]) (t := 3) (fr := (0, 0)) (heap_alloc_new wr _)) (by simp [Value.oneCell']) (by omega) (by simp [maxLen]) (by simp) (by simp; exact Nat.le_succ_of_le BS.out) (wr.heap.size + 1) (by simp) ?_; intro g cap w3 hown hgrow hat hlt)))
  have L3 := hide ((L2.out.below (btr (below_alloc wr (.cells #[.int .i64 (bt d), .int .i64 (cs.length : Int)] 3)) (bdrew1 _))).grown (xs' := [6, bt d, (cs.length : Int)]) hgrow hown)
  have oc3 := cell_of L3.out.op 3
  simp at oc3
  clear hown hgrow hat hlt NE oc4
  go_wp2_with fail
  go_loopw [3, 25] (fun l i wr => ∃ (j : Nat) (v : Value), j ≤ cs.length ∧ i = .int .i64 (j : Int) ∧ l = v ∧ MK w wr w.heap.size 6 a b (.slice oa cs.length c) d v ([6, bt d, (cs.length : Int)] ++ (cs.take j).flatMap cn)) (fun _ i _ => cs.length - (intOf i).toNat)
  case atStart => exact ⟨0, _, Nat.zero_le _, rfl, rfl, by simpa using L3.out⟩
  case round =>
    clear L2 L3 oc3 BS olt
    obtain ⟨j, v, hj, rfl, rfl, hnk⟩ := hrel
    by_cases hlt : j < cs.length
    · have hlt' : decide ((j : Int) < (cs.length : Int)) = true := by simp; omega
      obtain ⟨x, hx⟩ : ∃ x, cs[j]? = some x := ⟨cs[j], by simp [hlt]⟩
      obtain ⟨b', off, rfl, q1, q2, q3⟩ := (HA.out.below hnk.bel) j x hx
      have PS := hide (flat_take cs j x hx)
      have LN := hide (flat_len cs j)
      have L5 := hide (hnk.below (below_alloc wr (.cells #[.bool x.send, .int .i64 x.ch, .int .i64 x.val] 58)))
      have HC := hide (heap_new wr (.cells #[.bool x.send, .int .i64 x.ch, .int .i64 x.val] 58))
      obtain ⟨X, hX⟩ : ∃ X : List Int, [6, bt d, (cs.length : Int)] ++ (cs.take j).flatMap cn = X := ⟨_, rfl⟩
      have XL : Hid (X.length + 3 ≤ 1000) := by
        show _ ≤ _
        have := LN.out
        rw [← hX]
        simp at this ⊢
        omega
      rw [hX] at L5
      have HX := hide hX
      clear hnk hx hX
      go_wp2_with fail
      generalize wr.alloc (.cells #[.bool x.send, .int .i64 x.ch, .int .i64 x.val] 58) = W5 at L5 HC ⊢
      have e0 := cell_of HC.out 0
      have e1 := cell_of HC.out 1
      have e2 := cell_of HC.out 2
      simp at e0 e1 e2
      have clt := heap_lt HC.out
      have NE := hide (own_ne L5.out.own HC.out (by decide))
      have BS := hide L5.out.bel.size
      go_region_held3 (fun w' => w'.cell? ⟨wr.heap.size, 0, none⟩ = some (.bool x.send) ∧ w'.cell? ⟨wr.heap.size, 1, none⟩ = some (.int .i64 x.ch) ∧ w'.cell? ⟨wr.heap.size, 2, none⟩ = some (.int .i64 x.val))
        (first
          | go_keep
          | (go_split_ands
             refine ⟨?_, ?_, ?_⟩
             · (rw [hgrow.cell_far _ (by simp; omega) NE.out]; assumption)
             · (rw [hgrow.cell_far _ (by simp; omega) NE.out]; assumption)
             · (rw [hgrow.cell_far _ (by simp; omega) NE.out]; assumption)))
        (first
          | (go_at_call 80; refine (rbit_any _ _).mono ?_; rintro r w' ⟨rfl, rfl⟩)
          | ((refine step_append_lies _ (by rfl) _ _ _ (by rfl) w.heap.size 3 i0 _ 1 8 Try.underlying36 INF.out.1 INF.out.2.1 INF.out.2.2.1 INF.out.2.2.2 rfl (by omega) _ _ _ (by rfl) ((L5.out.own.alloc _).drew) ⟨W5.heap.size, 0, none⟩ 3 3 [.int .i64 (bt x.send), .int .i64 x.ch, .int .i64 x.val] (by rfl) (by rfl) (World.news_of_block (cs := #[.int .i64 (bt x.send), .int .i64 x.ch, .int .i64 x.val]) (t := 3) (fr := (0, 0)) (heap_alloc_new W5 _)) (by simp [Value.oneCell']) (by omega) (by have := XL.out; unfold maxLen; omega) (by have := XL.out; omega) (by simp; exact Nat.le_succ_of_le BS.out) (W5.heap.size + 1) (by simp) ?_; intro g2 cap2 w6 hown hgrow hat2 hlt2)))
      have L6 := hide ((L5.out.below (btr (below_alloc W5 (.cells #[.int .i64 (bt x.send), .int .i64 x.ch, .int .i64 x.val] 3)) (bdrew1 _))).grown (xs' := X ++ [bt x.send, x.ch, x.val]) hgrow (by
        rw [List.map_append, List.length_append]
        exact hown))
      clear hown hgrow hat2 hlt2 e0 e1 e2
      go_wp2_with fail

      go_roundw
      case rel =>
        repeat apply Exists.intro
        refine ⟨⟨j + 1, _, by omega, by go_num, rfl, by
          rw [PS.out, ← List.append_assoc, HX.out]
          exact L6.out⟩, rfl⟩
      case measure => simp [intOf]; omega
    · have hlt' : decide ((j : Int) < (cs.length : Int)) = false := by simp; omega
      have e : j = cs.length := by omega
      subst e
      have EN : Hid (nums ⟨6, a, b, cs, d⟩ = [6, bt d, (cs.length : Int)] ++ (cs.take cs.length).flatMap cn) := by
        show _ = _
        rw [List.take_length]
        rfl
      obtain ⟨oa', c', hv', hat'⟩ := owns_at hnk.own
      subst hv'
      have AT := hide hat'
      have L2 := hide hnk
      clear hat' hnk
      go_wp2_with fail
      go_ret
      exact ⟨⟨oa', c', by rw [EN.out]; rfl, by rw [EN.out]; exact AT.out⟩, L2.out.bel⟩
theorem rnums_any (o : OpD) (oa : Option Addr) (c : Nat) (w : World) (hA : CAt w oa o.cases) (hl : o.cases.length ≤ 4) (h1 : 1 ≤ o.kind) (h2 : o.kind ≤ 9) :
    Calls Try.prog 71 #[.agg #[.int .i64 o.kind, .int .i64 o.a, .int .i64 o.b, .slice oa o.cases.length c, .bool o.def_]] w fun r w' => (∃ oa' c', r = .returned (.slice oa' (nums o).length c') ∧ At w' oa' (nums o)) ∧ Below w.heap.size w w' := by
  obtain ⟨k, a, b, cs, d⟩ := o
  simp only at h1 h2 hA hl
  rcases kind_cases h1 h2 with rfl | rfl | rfl | rfl | rfl | rfl | rfl | rfl | rfl
  · exact rnums_1 a b d oa _ c w
  · exact rnums_2 a b d oa _ c w
  · exact rnums_3 a b d oa _ c w
  · exact rnums_4 a b d oa _ c w
  · exact rnums_5 a b d oa _ c w
  · exact rnums_6 a b d cs oa c w hA hl
  · exact rnums_7 a b d oa _ c w
  · exact rnums_8 a b d oa _ c w
  · exact rnums_9 a b d oa _ c w
end De
end Go.Proofs.Ytgnhophlnbpcgaa
