/- The reference's Decode where it ends before the kind's own numbers, over this seat's program. -/
import Derived.Test.YtabbmfaklekojaaDu
namespace Go.Proofs.Ytabbmfaklekojaa
open Go.ChangeShapes Go.WideShapes Go.ChangeAt Go.RowKit
namespace De
open Ba Re

/-- the answer's room and what is read, at the start -/
theorem start_res (w w1 : World) (kb : KB (w.heap.size + 1) ((w.alloc (.cells #[.int .i64 0, .int .i64 0, .int .i64 0, .slice none 0 0, .bool false, .int .i64 0] 29)).alloc (.cells #[.int .i64 0, .int .i64 0, .int .i64 0, .slice none 0 0, .bool false, .int .i64 0] 29)) w1) : w1.heap[w.heap.size]? = some (.cells #[.int .i64 0, .int .i64 0, .int .i64 0, .slice none 0 0, .bool false, .int .i64 0] 29 (0, 0)) ∧ Below w.heap.size w w1 := by
  have r0 := heap_below (heap_new w (.cells #[.int .i64 0, .int .i64 0, .int .i64 0, .slice none 0 0, .bool false, .int .i64 0] 29)) (below_alloc (w.alloc (.cells #[.int .i64 0, .int .i64 0, .int .i64 0, .slice none 0 0, .bool false, .int .i64 0] 29)) (.cells #[.int .i64 0, .int .i64 0, .int .i64 0, .slice none 0 0, .bool false, .int .i64 0] 29))
  have b0 := btr (below_alloc w (.cells #[.int .i64 0, .int .i64 0, .int .i64 0, .slice none 0 0, .bool false, .int .i64 0] 29)) (below_alloc (w.alloc (.cells #[.int .i64 0, .int .i64 0, .int .i64 0, .slice none 0 0, .bool false, .int .i64 0] 29)) (.cells #[.int .i64 0, .int .i64 0, .int .i64 0, .slice none 0 0, .bool false, .int .i64 0] 29))
  exact ⟨kb.heap r0 (by omega), KB.below b0 kb (by omega)⟩
theorem chk_kind (o : OpD) (p : Int) (h : o.kind < 1 ∨ 9 < o.kind) : (chk o p == 0) = false := by
  have : (okP p && (decide (1 ≤ o.kind) && decide (o.kind ≤ 9))) = false := by
    simp
    omega
  simp [chk, this]

set_option maxRecDepth 100000 in
set_option maxHeartbeats 3200000 in
theorem rdecode_n (s : ByteArray) (p : Int) (w : World) (hp : okP p = true) (hs : s.size ≤ maxLen) (ht : tk (nbs s) = none) :
    Calls Try.prog 10 #[.string s, .int .i64 p] w fun r w' => RD s p r w' ∧ Below w.heap.size w w' := by
  obtain ⟨p1, p2⟩ := (okP_iff p).1 hp
  have e1 : decide (p < 1) = false := by simp; omega
  have e2 : decide (8 < p) = false := by simp; omega
  have HT := hide ht
  have HS := hide hs
  have RO := hide (rop_none ht)
  clear ht hs
  have G0 : Hid (GS ((w.alloc (.cells #[.int .i64 0, .int .i64 0, .int .i64 0, .slice none 0 0, .bool false, .int .i64 0] 29)).alloc (.cells #[.int .i64 0, .int .i64 0, .int .i64 0, .slice none 0 0, .bool false, .int .i64 0] 29)) (w.heap.size + 1) 0) := by
    have := heap_new (w.alloc (.cells #[.int .i64 0, .int .i64 0, .int .i64 0, .slice none 0 0, .bool false, .int .i64 0] 29)) (.cells #[.int .i64 0, .int .i64 0, .int .i64 0, .slice none 0 0, .bool false, .int .i64 0] 29)
    rw [World.size_alloc] at this
    exact this
  go_enter Try.func10, Try.ntmps10
  go_wp2_with fail
  refine (rnumber_none s (w.heap.size + 1) 0 _ G0.out (Nat.zero_le _) HS.out HT.out).mono ?_
  rintro r w1 ⟨rfl, g1, k1⟩
  have D1 := hide (start_res w w1 k1)
  obtain ⟨⟨z0, z1, z2, z3, z4, z5⟩, f0, f1, f2, f3, f4, f5⟩ := six_cells D1.out.1
  clear g1 k1
  go_wp2_with fail
  exact bodyPost_ret (results_row2 Try.results10 _ _ _ _ _ rfl rfl (loadVar_got (six_set D1.out.1 _ _ _ _ _ _) rfl)) rfl ⟨.inl ⟨.inl RO.out, rfl⟩, below_six D1.out.2 (Nat.le_refl _) _ _ _ _ _ _⟩

set_option maxRecDepth 100000 in
set_option maxHeartbeats 3200000 in
theorem rdecode_x (s : ByteArray) (p : Int) (w : World) (hp : okP p = true) (hs : s.size ≤ maxLen) (n k : Nat) (ht : tk (nbs s) = some (n, k)) (hn : n < 1 ∨ 9 < n) :
    Calls Try.prog 10 #[.string s, .int .i64 p] w fun r w' => RD s p r w' ∧ Below w.heap.size w w' := by
  obtain ⟨p1, p2⟩ := (okP_iff p).1 hp
  have e1 : decide (p < 1) = false := by simp; omega
  have e2 : decide (8 < p) = false := by simp; omega
  have HT := hide ht
  have HS := hide hs
  have RO := hide (chk_kind (rop s false).1 p (by rw [rop_kind, rnum_s ht]; simp only; omega))
  clear ht hs
  have G0 : Hid (GS ((w.alloc (.cells #[.int .i64 0, .int .i64 0, .int .i64 0, .slice none 0 0, .bool false, .int .i64 0] 29)).alloc (.cells #[.int .i64 0, .int .i64 0, .int .i64 0, .slice none 0 0, .bool false, .int .i64 0] 29)) (w.heap.size + 1) 0) := by
    have := heap_new (w.alloc (.cells #[.int .i64 0, .int .i64 0, .int .i64 0, .slice none 0 0, .bool false, .int .i64 0] 29)) (.cells #[.int .i64 0, .int .i64 0, .int .i64 0, .slice none 0 0, .bool false, .int .i64 0] 29)
    rw [World.size_alloc] at this
    exact this
  go_enter Try.func10, Try.ntmps10
  go_wp2_with fail
  refine (rnumber_some s (w.heap.size + 1) 0 n k _ G0.out (Nat.zero_le _) HS.out HT.out).mono ?_
  rintro r w1 ⟨rfl, g1, k1⟩
  have D1 := hide (start_res w w1 k1)
  obtain ⟨⟨z0, z1, z2, z3, z4, z5⟩, f0, f1, f2, f3, f4, f5⟩ := six_cells D1.out.1
  clear g1 k1
  by_cases h1 : n < 1
  · have d1 : decide ((n : Int) < 1) = true := by simp; omega
    go_wp2_with fail
    exact bodyPost_ret (results_row2 Try.results10 _ _ _ _ _ rfl rfl (loadVar_got (six_set D1.out.1 _ _ _ _ _ _) rfl)) rfl ⟨.inl ⟨.inr RO.out, rfl⟩, below_six D1.out.2 (Nat.le_refl _) _ _ _ _ _ _⟩
  · have d1 : decide ((n : Int) < 1) = false := by simp; omega
    have d2 : decide (9 < (n : Int)) = true := by simp; omega
    go_wp2_with fail
    exact bodyPost_ret (results_row2 Try.results10 _ _ _ _ _ rfl rfl (loadVar_got (six_set D1.out.1 _ _ _ _ _ _) rfl)) rfl ⟨.inl ⟨.inr RO.out, rfl⟩, below_six D1.out.2 (Nat.le_refl _) _ _ _ _ _ _⟩
end De
end Go.Proofs.Ytabbmfaklekojaa
