/- The document's gauge, over this seat's program: Ordered, Closed. -/
import Derived.Test.YtdpadpmhbmimkaaGu5
namespace Go.Proofs.Ytdpadpmhbmimkaa
open Go.ChangeShapes Go.WideShapes Go.ChangeAt Go.RowKit
namespace Gu
open En Ba

set_option maxRecDepth 100000 in
set_option maxHeartbeats 3200000 in
theorem rordered_any (oa : Option Addr) (l : List Ev) (c i : Nat) (e : Ev) (w : World) (hA : EsAt w oa l) (hi : l[i]? = some e) (hl : l.length ≤ 2000) :
    Calls Try.prog 20 #[.slice oa l.length c, .int .i64 i] w fun r w' => r = .returned (.bool (ordered (inn l i e.c) e l[i + 1]?)) ∧ Below w.heap.size w w' := by
  have hil : i < l.length := (List.getElem?_eq_some_iff.1 hi).1
  obtain ⟨b1, o1, rfl, -⟩ := hA i e hi
  obtain ⟨p0, p1, p2, p3, p4, p5, p6, p7⟩ := hA.read hi
  have IN := hide (rin_any (some ⟨b1, o1, none⟩) l c e.c (i + 1) (w.alloc (.cells #[.int .i64 e.k, .int .i64 e.g, .int .i64 e.c, .int .i64 e.a, .int .i64 e.v, .int .i64 e.m, .bool e.s, .bool e.o] 31)) (hA.below (below_alloc _ _)) (by omega) hl)
  have OR : Hid (ordered (inn l i e.c) e l[i + 1]? = if moves e = true then (inn l (i + 1) e.c).right else true) := by
    show _ = _
    rw [inn_succ hi]
    unfold ordered ins
    split
    · simp [*]
    · rfl
  rw [OR.out]
  have B0 := hide (below_alloc w (.cells #[.int .i64 e.k, .int .i64 e.g, .int .i64 e.c, .int .i64 e.a, .int .i64 e.v, .int .i64 e.m, .bool e.s, .bool e.o] 31))
  obtain ⟨M, hM⟩ : ∃ M, l.length = M := ⟨_, rfl⟩
  rw [hM] at hil hl IN ⊢
  have hiM : (i : Int) < (M : Int) := by omega
  clear hM OR hA hi
  cases hm : moves e
  · rw [if_neg (by simp)]
    unfold moves at hm
    simp only [Bool.or_eq_false_iff, decide_eq_false_iff_not, Bool.and_eq_false_iff] at hm
    obtain ⟨h3, h4⟩ := hm
    have d3 : (e.k != 3) = true := by simp [h3]
    by_cases k4 : e.k = 4
    · have d4 : (e.k != 4) = false := by simp [k4]
      have ho : e.o = false := by
        rcases h4 with q | q
        · exact absurd k4 q
        · exact q
      rw [ho] at p7
      clear k4 h3 h4
      have B0' := hide B0.out
      rw [ho] at B0'
      go_enter Try.func20, Try.ntmps20
      go_wp2_with fail
      go_ret
      exact ⟨rfl, B0'.out⟩
    · have d4 : (e.k != 4) = true := by simp [k4]
      clear k4 h3 h4
      go_enter Try.func20, Try.ntmps20
      go_wp2_with fail
      go_ret
      exact ⟨rfl, B0.out⟩
  · rw [if_pos rfl]
    have wi : IntKind.i64.wrap ((i : Int) + 1) = (((i + 1 : Nat)) : Int) := by rw [IntKind.wrap_i64]; omega
    obtain ⟨s, hs⟩ : ∃ s, inn l (i + 1) e.c = s := ⟨_, rfl⟩
    rw [hs] at IN ⊢
    clear hs
    have hfd : ∀ (a : Int) (v : Value) (x y : Bool) (u : World), (Instr.field 54 (.agg #[.int .i64 a, v, .bool x, .bool y]) 3).run Try.prog u = .ok (.bool y) u := fun _ _ _ _ _ => by kernel_rfl
    rcases moves_k hm with k3 | ⟨k4, ho⟩
    · have d3 : (e.k != 3) = false := by simp [k3]
      clear hm k3
      go_enter Try.func20, Try.ntmps20
      go_wp2_with fail
      refine IN.out.mono ?_
      rintro r w1 ⟨⟨oa', c', rfl⟩, b1⟩
      have B1 := hide (btr B0.out b1)
      clear b1
      go_wp2_with fail
      go_ret
      exact ⟨rfl, B1.out⟩
    · have d3 : (e.k != 3) = true := by simp [k4]
      have d4 : (e.k != 4) = false := by simp [k4]
      rw [ho] at p7 IN B0
      clear hm k4
      go_enter Try.func20, Try.ntmps20
      go_wp2_with fail
      refine IN.out.mono ?_
      rintro r w1 ⟨⟨oa', c', rfl⟩, b1⟩
      have B1 := hide (btr B0.out b1)
      clear b1
      go_wp2_with fail
      go_ret
      exact ⟨rfl, B1.out⟩
set_option maxRecDepth 100000 in
set_option maxHeartbeats 3200000 in
theorem rclosed_any (oa : Option Addr) (l : List Ev) (c i : Nat) (e : Ev) (w : World) (hA : EsAt w oa l) (hi : l[i]? = some e) (hl : l.length ≤ 2000) :
    Calls Try.prog 21 #[.slice oa l.length c, .int .i64 i] w fun r w' => r = .returned (.bool (closedF (inn l i e.c) e)) ∧ Below w.heap.size w w' := by
  have hil : i < l.length := (List.getElem?_eq_some_iff.1 hi).1
  obtain ⟨b1, o1, rfl, -⟩ := hA i e hi
  obtain ⟨p0, p1, p2, p3, p4, p5, p6, p7⟩ := hA.read hi
  have IN := hide (rin_any (some ⟨b1, o1, none⟩) l c e.c i (w.alloc (.cells #[.int .i64 e.k, .int .i64 e.g, .int .i64 e.c, .int .i64 e.a, .int .i64 e.v, .int .i64 e.m, .bool e.s, .bool e.o] 31)) (hA.below (below_alloc _ _)) (by omega) hl)
  have B0 := hide (below_alloc w (.cells #[.int .i64 e.k, .int .i64 e.g, .int .i64 e.c, .int .i64 e.a, .int .i64 e.v, .int .i64 e.m, .bool e.s, .bool e.o] 31))
  have EV0 := hide (heap_new w (.cells #[.int .i64 e.k, .int .i64 e.g, .int .i64 e.c, .int .i64 e.a, .int .i64 e.v, .int .i64 e.m, .bool e.s, .bool e.o] 31))
  have LN := inn_len l e.c i
  obtain ⟨M, hM⟩ : ∃ M, l.length = M := ⟨_, rfl⟩
  rw [hM] at hil hl IN ⊢
  have hiM : (i : Int) < (M : Int) := by omega
  clear hM hA hi
  obtain ⟨s, hs⟩ : ∃ s, inn l i e.c = s := ⟨_, rfl⟩
  rw [hs] at IN LN ⊢
  clear hs
  obtain ⟨q, hq⟩ : ∃ q, closedF s e = q := ⟨_, rfl⟩
  rw [hq]
  unfold closedF at hq
  by_cases k1 : e.k < 3
  · rw [if_pos (.inl k1)] at hq
    subst hq
    have d1 : decide (e.k < 3) = true := decide_eq_true k1
    go_enter Try.func21, Try.ntmps21
    go_wp2_with fail
    go_ret
    exact ⟨rfl, B0.out⟩
  have d1 : decide (e.k < 3) = false := decide_eq_false k1
  by_cases k2 : 5 < e.k
  · rw [if_pos (.inr k2)] at hq
    subst hq
    have d2 : decide (5 < e.k) = true := decide_eq_true k2
    go_enter Try.func21, Try.ntmps21
    go_wp2_with fail
    go_ret
    exact ⟨rfl, B0.out⟩
  have d2 : decide (5 < e.k) = false := decide_eq_false k2
  rw [if_neg (by omega)] at hq
  have CELLS : ∀ (oa' : Option Addr) (c' : Nat) (w1 : World), Below w.heap.size w w1 → w1.heap[w.heap.size]? = some (.cells #[.int .i64 e.k, .int .i64 e.g, .int .i64 e.c, .int .i64 e.a, .int .i64 e.v, .int .i64 e.m, .bool e.s, .bool e.o] 31) → True := fun _ _ _ _ _ => trivial
  clear CELLS
  by_cases k4 : e.k = 4
  · have d4 : (e.k == 4) = true := by simp [k4]
    by_cases ho : e.o = false
    · rw [if_pos ⟨k4, ho⟩] at hq
      rw [ho] at p7 IN B0 EV0
      clear k4 k1 k2
      go_enter Try.func21, Try.ntmps21
      go_wp2_with fail
      refine IN.out.mono ?_
      rintro r w1 ⟨⟨oa', c', rfl⟩, b1⟩
      have B1 := hide (btr (btr B0.out b1) (below_alloc w1 (.cells #[.int .i64 s.size, .slice oa' s.L.length c', .bool s.closed, .bool s.right] 54)))
      have EV1 := heap_below (heap_below EV0.out b1) (below_alloc w1 (.cells #[.int .i64 s.size, .slice oa' s.L.length c', .bool s.closed, .bool s.right] 54))
      have hw1 : w.heap.size < w1.heap.size := heap_lt (heap_below EV0.out b1)
      have v0 := cell_of EV1 0
      have v7 := cell_of EV1 7
      simp at v0 v7
      clear b1 EV1
      have hLe : s.L.isEmpty = ((s.L.length : Int) == 0) := by
        rw [Bool.eq_iff_iff]; simp [List.isEmpty_iff]
      rw [hLe] at hq
      obtain ⟨n, hn⟩ : ∃ n, s.L.length = n := ⟨_, rfl⟩
      rw [hn] at hq B1 LN v0 v7 ⊢
      have hb2 : ((n : Int) == 0) = (n == 0) := by rw [Bool.eq_iff_iff]; simp
      cases hc : s.closed
      · rw [hc] at hq
        simp only [Bool.false_and] at hq
        subst hq
        rw [hc] at B1 v0 v7
        go_wp2_with fail
        go_ret
        exact ⟨rfl, B1.out⟩
      · rw [hc] at hq
        simp only [Bool.true_and] at hq
        rw [hc] at B1 v0 v7
        rw [hb2] at hq
        clear hb2 hLe
        cases hz : (n == 0)
        · have hz2 : ((n : Int) == 0) = false := by simp at hz ⊢; omega
          rw [hz] at hq
          subst hq
          go_wp2_with fail
          go_ret
          exact ⟨rfl, B1.out⟩
        · have hz2 : ((n : Int) == 0) = true := by simp at hz ⊢; omega
          rw [hz] at hq
          subst hq
          go_wp2_with fail
          go_ret
          exact ⟨rfl, B1.out⟩
    · have ho1 : e.o = true := by simpa using ho
      rw [if_neg (by simp [ho])] at hq
      rw [ho1] at p7 IN B0 EV0
      obtain ⟨lm, hlm⟩ : ∃ lm, decide (e.m < 0) = lm := ⟨_, rfl⟩
      have hq2 : q = if lm then true else !s.closed := by
        rw [← hq, ← hlm]
        by_cases h : e.m < 0
        · simp [k4, h]
        · simp [h]
      clear k4 k1 k2 hq
      go_enter Try.func21, Try.ntmps21
      go_wp2_with fail
      refine IN.out.mono ?_
      rintro r w1 ⟨⟨oa', c', rfl⟩, b1⟩
      have B1 := hide (btr (btr B0.out b1) (below_alloc w1 (.cells #[.int .i64 s.size, .slice oa' s.L.length c', .bool s.closed, .bool s.right] 54)))
      have EV1 := heap_below (heap_below EV0.out b1) (below_alloc w1 (.cells #[.int .i64 s.size, .slice oa' s.L.length c', .bool s.closed, .bool s.right] 54))
      have hw1 : w.heap.size < w1.heap.size := heap_lt (heap_below EV0.out b1)
      have v0 := cell_of EV1 0
      have v5 := cell_of EV1 5
      have v7 := cell_of EV1 7
      simp at v0 v5 v7
      clear b1 EV1
      cases lm
      · rw [if_neg (by simp)] at hq2
        subst hq2
        go_wp2_with fail
        go_ret
        exact ⟨rfl, B1.out⟩
      · rw [if_pos rfl] at hq2
        subst hq2
        go_wp2_with fail
        go_ret
        exact ⟨rfl, B1.out⟩
  · have d4 : (e.k == 4) = false := by simp [k4]
    rw [if_neg (fun h => k4 h.1), if_neg (fun h => k4 h.1)] at hq
    clear k4 k1 k2
    go_enter Try.func21, Try.ntmps21
    go_wp2_with fail
    refine IN.out.mono ?_
    rintro r w1 ⟨⟨oa', c', rfl⟩, b1⟩
    have B1 := hide (btr (btr B0.out b1) (below_alloc w1 (.cells #[.int .i64 s.size, .slice oa' s.L.length c', .bool s.closed, .bool s.right] 54)))
    have EV1 := heap_below (heap_below EV0.out b1) (below_alloc w1 (.cells #[.int .i64 s.size, .slice oa' s.L.length c', .bool s.closed, .bool s.right] 54))
    have hw1 : w.heap.size < w1.heap.size := heap_lt (heap_below EV0.out b1)
    have v0 := cell_of EV1 0
    simp at v0
    subst hq
    clear b1 EV1
    go_wp2_with fail
    go_ret
    exact ⟨rfl, B1.out⟩
end Gu
end Go.Proofs.Ytdpadpmhbmimkaa
