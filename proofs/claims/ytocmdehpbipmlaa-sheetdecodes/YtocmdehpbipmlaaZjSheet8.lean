import Derived.Test.YtocmdehpbipmlaaZjSheet7
import Derived.Deep.RegionWith
/- The reference's Decode: what it answers, plain; and its walk but for a select, over this seat's program. -/
namespace Go.Proofs.Ytocmdehpbipmlaa
open Go.ChangeShapes Go.WideShapes Go.ChangeAt Go.RowKit
namespace De
open Ba Re

theorem sx0 (s : ByteArray) : s.extract 0 s.size = s := nbs_inj (by rw [nsfx rfl]; rfl)
theorem sxsx (s : ByteArray) (a b : Nat) : (s.extract a s.size).extract b (s.extract a s.size).size = s.extract (a + b) s.size := nbs_inj (by rw [nsfx (nsfx rfl a), nsfx rfl, List.drop_drop])
theorem rx_n {s : ByteArray} {z : Nat} (h : tk ((nbs s).drop z) = none) : rnum (s.extract z s.size) false = (0, bs [], true) := rnum_n (by rw [nsfx rfl]; exact h)
theorem rx_s {s : ByteArray} {z n k : Nat} (h : tk ((nbs s).drop z) = some (n, k)) : rnum (s.extract z s.size) false = ((n : Int), s.extract (z + k) s.size, false) := by
  rw [rnum_s (s := s.extract z s.size) (n := n) (k := k) (by rw [nsfx rfl]; exact h), sxsx]
theorem rup_t (m : Int) (s : ByteArray) : rup m s true = (0, s, true) := by
  simp [rup, rnum_t]
theorem rop_kind (s : ByteArray) (f : Bool) : (rop s f).1.kind = (rnum s f).1 := by
  unfold rop
  cases h : (rnum s f).1 == 6 <;> simp [h]
theorem rop_none {s : ByteArray} (h : tk (nbs s) = none) : (rop s false).2.2 = true := by
  unfold rop
  rw [rnum_n h]
  rfl
theorem rop_0 {s : ByteArray} {n k : Nat} (h : tk (nbs s) = some (n, k)) (h0 : nf (n : Int) = 0) (h6 : ((n : Int) == 6) = false) : rop s false = (⟨(n : Int), 0, 0, [], false⟩, s.extract k s.size, false) := by
  unfold rop
  rw [rnum_s h]
  simp only [h0, h6, rf, cond_false]
theorem rop_1n {s : ByteArray} {n k : Nat} (h : tk (nbs s) = some (n, k)) (h0 : nf (n : Int) = 1) (h6 : ((n : Int) == 6) = false) (ha : tk ((nbs s).drop k) = none) : (rop s false).2.2 = true := by
  unfold rop
  rw [rnum_s h]
  simp only [h0, h6, rf, cond_false, rx_n ha]
theorem rop_1 {s : ByteArray} {n k a q : Nat} (h : tk (nbs s) = some (n, k)) (h0 : nf (n : Int) = 1) (h6 : ((n : Int) == 6) = false) (ha : tk ((nbs s).drop k) = some (a, q)) : rop s false = (⟨(n : Int), (a : Int), 0, [], false⟩, s.extract (k + q) s.size, false) := by
  unfold rop
  rw [rnum_s h]
  simp only [h0, h6, rf, cond_false, rx_s ha]
theorem rop_2n {s : ByteArray} {n k : Nat} (h : tk (nbs s) = some (n, k)) (h0 : nf (n : Int) = 2) (h6 : ((n : Int) == 6) = false) (ha : tk ((nbs s).drop k) = none) : (rop s false).2.2 = true := by
  unfold rop
  rw [rnum_s h]
  simp only [h0, h6, rf, cond_false, rx_n ha, rnum_t]
theorem rop_2m {s : ByteArray} {n k a q : Nat} (h : tk (nbs s) = some (n, k)) (h0 : nf (n : Int) = 2) (h6 : ((n : Int) == 6) = false) (ha : tk ((nbs s).drop k) = some (a, q)) (hb : tk ((nbs s).drop (k + q)) = none) : (rop s false).2.2 = true := by
  unfold rop
  rw [rnum_s h]
  simp only [h0, h6, rf, cond_false, rx_s ha, rx_n hb]
theorem rop_2 {s : ByteArray} {n k a q b r : Nat} (h : tk (nbs s) = some (n, k)) (h0 : nf (n : Int) = 2) (h6 : ((n : Int) == 6) = false) (ha : tk ((nbs s).drop k) = some (a, q)) (hb : tk ((nbs s).drop (k + q)) = some (b, r)) : rop s false = (⟨(n : Int), (a : Int), (b : Int), [], false⟩, s.extract (k + q + r) s.size, false) := by
  unfold rop
  rw [rnum_s h]
  simp only [h0, h6, rf, cond_false, rx_s ha, rx_s hb]

/-- what the reference's Decode answers where the number of programs is one -/
def RD (s : ByteArray) (p : Int) (N : Nat) (r : Ending) (w' : World) : Prop :=
  (((rop s false).2.2 = true ∨ (chk (rop s false).1 p == 0) = false) ∧ r = .returned (.tuple #[.agg #[.int .i64 0, .int .i64 0, .int .i64 0, .slice none 0 0, .bool false, .int .i64 0], .int .i64 4])) ∨
  ((rop s false).2.2 = false ∧ chk (rop s false).1 p = 0 ∧ ∃ oa c z, z ≤ s.size ∧ (rop s false).2.1 = s.extract z s.size ∧ r = .returned (.tuple #[.agg #[.int .i64 (rop s false).1.kind, .int .i64 (rop s false).1.a, .int .i64 (rop s false).1.b, .slice oa (rop s false).1.cases.length c, .bool (rop s false).1.def_, .int .i64 (z : Int)], .int .i64 0]) ∧ CAt w' oa (rop s false).1.cases ∧ ∀ a, oa = some a → N ≤ a.block)

theorem size_got : (Try.prog.info? 29).map (·.size) = some 6 := by kernel_rfl
theorem loadVar_got {w : World} {b : Nat} {c : Array Value} {t : TypeId} (h : w.heap[b]? = some (.cells c t (0, 0))) (hc : c.size = 6) : (loadVar 29 ⟨b, 0, none⟩).run Try.prog w = .ok (.agg c) w :=
  run_loadVar_row w b t _ _ _ _ h Try.underlying29 rfl (by rw [size_got, hc])
theorem six_set {w : World} {b : Nat} {x0 x1 x2 x3 x4 x5 : Value} {t : TypeId} (h : w.heap[b]? = some (.cells #[x0, x1, x2, x3, x4, x5] t (0, 0))) (u0 u1 u2 u3 u4 u5 : Value) : ((((((w.setCell ⟨b, 0, none⟩ u0).setCell ⟨b, 1, none⟩ u1).setCell ⟨b, 2, none⟩ u2).setCell ⟨b, 3, none⟩ u3).setCell ⟨b, 4, none⟩ u4).setCell ⟨b, 5, none⟩ u5).heap[b]? = some (.cells #[u0, u1, u2, u3, u4, u5] t (0, 0)) := by
  rw [Ba.heap_setCell_same (Ba.heap_setCell_same (Ba.heap_setCell_same (Ba.heap_setCell_same (Ba.heap_setCell_same (Ba.heap_setCell_same h u0) u1) u2) u3) u4) u5]
  rfl
theorem six_cells {w : World} {b : Nat} {x0 x1 x2 x3 x4 x5 : Value} {t : TypeId} (h : w.heap[b]? = some (.cells #[x0, x1, x2, x3, x4, x5] t (0, 0))) : (w.cell? ⟨b, 0, none⟩ = some x0 ∧ w.cell? ⟨b, 1, none⟩ = some x1 ∧ w.cell? ⟨b, 2, none⟩ = some x2 ∧ w.cell? ⟨b, 3, none⟩ = some x3 ∧ w.cell? ⟨b, 4, none⟩ = some x4 ∧ w.cell? ⟨b, 5, none⟩ = some x5) ∧ w.frozen? ⟨b, 0, none⟩ = false ∧ w.frozen? ⟨b, 1, none⟩ = false ∧ w.frozen? ⟨b, 2, none⟩ = false ∧ w.frozen? ⟨b, 3, none⟩ = false ∧ w.frozen? ⟨b, 4, none⟩ = false ∧ w.frozen? ⟨b, 5, none⟩ = false :=
  ⟨⟨cell_of h 0, cell_of h 1, cell_of h 2, cell_of h 3, cell_of h 4, cell_of h 5⟩, frozen_of h 0, frozen_of h 1, frozen_of h 2, frozen_of h 3, frozen_of h 4, frozen_of h 5⟩

theorem below_six {w a : World} {Z : Nat} (h : Below w.heap.size w a) (hZ : w.heap.size ≤ Z) (u0 u1 u2 u3 u4 u5 : Value) : Below w.heap.size w ((((((a.setCell ⟨Z, 0, none⟩ u0).setCell ⟨Z, 1, none⟩ u1).setCell ⟨Z, 2, none⟩ u2).setCell ⟨Z, 3, none⟩ u3).setCell ⟨Z, 4, none⟩ u4).setCell ⟨Z, 5, none⟩ u5) :=
  (((((h.setCell hZ _).setCell hZ _).setCell hZ _).setCell hZ _).setCell hZ _).setCell hZ _
theorem chk_neg (k a b : Int) (cs : List Cs) (d : Bool) (p : Int) (h : a < 0 ∨ b < 0) : (chk ⟨k, a, b, cs, d⟩ p == 0) = false := by
  cases hc : chk ⟨k, a, b, cs, d⟩ p == 0
  · rfl
  · have := chk_zero (o := ⟨k, a, b, cs, d⟩) (p := p) (by simpa using hc)
    simp only at this
    omega


set_option maxRecDepth 100000 in
set_option maxHeartbeats 3200000 in
theorem rdecode_0 (s : ByteArray) (p : Int) (w : World) (hp : okP p = true) (hs : s.size ≤ maxLen) (n k : Nat) (h1 : 1 ≤ n) (h9 : n ≤ 9) (ht : tk (nbs s) = some (n, k)) (hA : ((sA (n : Int) : Int) != 46) = false) (hB : ((sB (n : Int) : Int) != 46) = false) (h6 : ((n : Int) == 6) = false) (h0 : nf (n : Int) = 0) :
    Calls Try.prog 10 #[.string s, .int .i64 p] w fun r w' => RD s p w.heap.size r w' ∧ Below w.heap.size w w' := by
  obtain ⟨p1, p2⟩ := (okP_iff p).1 hp
  have e1 : decide (p < 1) = false := by simp; omega
  have e2 : decide (8 < p) = false := by simp; omega
  have hk := tk_le' ht
  rw [nbs_length] at hk
  have HT := hide ht
  have HS := hide hs
  have d1 : decide ((n : Int) < 1) = false := by simp; omega
  have d2 : decide (9 < (n : Int)) = false := by simp; omega
  have i0 := ixA (n : Int) (by omega) (by omega)
  have i1 := ixB (n : Int) (by omega) (by omega)
  have RW := hide (fun w => row_any (n : Int) (by omega) (by omega) w)
  generalize sA (n : Int) = u at RW i0 i1 hA
  generalize sB (n : Int) = v at RW i0 i1 hB
  have RO := hide (rop_0 ht h0 h6)
  clear ht hs h0
  have G0 : Hid (GS ((w.alloc (.cells #[.int .i64 0, .int .i64 0, .int .i64 0, .slice none 0 0, .bool false, .int .i64 0] 29)).alloc (.cells #[.int .i64 0, .int .i64 0, .int .i64 0, .slice none 0 0, .bool false, .int .i64 0] 29)) (w.heap.size + 1) 0) := by
    have := heap_new (w.alloc (.cells #[.int .i64 0, .int .i64 0, .int .i64 0, .slice none 0 0, .bool false, .int .i64 0] 29)) (.cells #[.int .i64 0, .int .i64 0, .int .i64 0, .slice none 0 0, .bool false, .int .i64 0] 29)
    rw [World.size_alloc] at this
    exact this
  go_enter Try.func10, Try.ntmps10
  go_wp2_with fail
  refine (rnumber_some s (w.heap.size + 1) 0 n k _ G0.out (Nat.zero_le _) HS.out HT.out).mono ?_
  rw [Nat.zero_add]
  rintro r w1 ⟨rfl, g1, k1⟩
  have D1 := hide (DS.start (n : Int) g1 k1)
  clear g1 k1
  go_wp2_with fail
  refine (RW.out _).mono ?_
  rintro r w2 ⟨rfl, b2⟩
  have D2 := hide (D1.out.below b2)
  clear b2
  obtain ⟨y0, y1, y2, y3, y4⟩ := op_cells D2.out.op
  go_wp2_with fail
  refine (rcheck_any ⟨(n : Int), 0, 0, [], false⟩ none 0 p _ (CAt.nil _ _) (Nat.zero_le _)).mono ?_
  rintro r w5 ⟨rfl, b5⟩
  have D5 := hide (D2.out.below b5)
  obtain ⟨⟨z0, z1, z2, z3, z4, z5⟩, f0, f1, f2, f3, f4, f5⟩ := six_cells D5.out.res
  obtain ⟨x0, x1, x2, x3, x4⟩ := op_cells D5.out.op
  have gc := cell_of D5.out.gs 5
  simp at gc
  clear b5
  cases hc : chk ⟨(n : Int), 0, 0, [], false⟩ p == 0
  · have hc' : (chk ⟨(n : Int), 0, 0, [], false⟩ p != 0) = true := by simp [bne, hc]
    have HC := hide hc
    clear hc
    go_wp2_with fail
    exact bodyPost_ret (results_row2 Try.results10 _ _ _ _ _ rfl rfl (loadVar_got (six_set D5.out.res _ _ _ _ _ _) rfl)) rfl ⟨.inl ⟨.inr (by rw [RO.out]; exact HC.out), rfl⟩, below_six D5.out.bel D5.out.ne.1 _ _ _ _ _ _⟩
  · have hc' : (chk ⟨(n : Int), 0, 0, [], false⟩ p != 0) = false := by simp [bne, hc]
    have HC : Hid (chk ⟨(n : Int), 0, 0, [], false⟩ p = 0) := by show _ = _; simpa using hc
    clear hc
    go_wp2_with fail
    go_region
    all_goals
      go_wp2_with fail
      exact bodyPost_ret (results_row2 Try.results10 _ _ _ _ _ rfl rfl (loadVar_got (heap_below (six_set D5.out.res _ _ _ _ _ _) (bdrew1 _)) rfl)) rfl ⟨.inr ⟨by rw [RO.out], by rw [RO.out]; exact HC.out, none, 0, k, by omega, by rw [RO.out], by rw [RO.out]; go_num, by rw [RO.out]; exact ⟨CAt.nil _ _, fun a e => by cases e⟩⟩, btr (below_six D5.out.bel D5.out.ne.1 _ _ _ _ _ _) (bdrew1 _)⟩

set_option maxRecDepth 100000 in
set_option maxHeartbeats 3200000 in
theorem rdecode_1 (s : ByteArray) (p : Int) (w : World) (hp : okP p = true) (hs : s.size ≤ maxLen) (n k : Nat) (h1 : 1 ≤ n) (h9 : n ≤ 9) (ht : tk (nbs s) = some (n, k)) (hA : ((sA (n : Int) : Int) != 46) = true) (hB : ((sB (n : Int) : Int) != 46) = false) (h6 : ((n : Int) == 6) = false) (h0 : nf (n : Int) = 1) (a q : Nat) (ha : tk ((nbs s).drop k) = some (a, q)) :
    Calls Try.prog 10 #[.string s, .int .i64 p] w fun r w' => RD s p w.heap.size r w' ∧ Below w.heap.size w w' := by
  obtain ⟨p1, p2⟩ := (okP_iff p).1 hp
  have e1 : decide (p < 1) = false := by simp; omega
  have e2 : decide (8 < p) = false := by simp; omega
  have hk := tk_le' ht
  rw [nbs_length] at hk
  have HT := hide ht
  have HS := hide hs
  have d1 : decide ((n : Int) < 1) = false := by simp; omega
  have d2 : decide (9 < (n : Int)) = false := by simp; omega
  have i0 := ixA (n : Int) (by omega) (by omega)
  have i1 := ixB (n : Int) (by omega) (by omega)
  have RW := hide (fun w => row_any (n : Int) (by omega) (by omega) w)
  generalize sA (n : Int) = u at RW i0 i1 hA
  generalize sB (n : Int) = v at RW i0 i1 hB
  have RO := hide (rop_1 ht h0 h6 ha)
  have hq := tk_le' ha
  rw [List.length_drop, nbs_length] at hq
  have HAA := hide ha
  clear ht hs ha h0
  have G0 : Hid (GS ((w.alloc (.cells #[.int .i64 0, .int .i64 0, .int .i64 0, .slice none 0 0, .bool false, .int .i64 0] 29)).alloc (.cells #[.int .i64 0, .int .i64 0, .int .i64 0, .slice none 0 0, .bool false, .int .i64 0] 29)) (w.heap.size + 1) 0) := by
    have := heap_new (w.alloc (.cells #[.int .i64 0, .int .i64 0, .int .i64 0, .slice none 0 0, .bool false, .int .i64 0] 29)) (.cells #[.int .i64 0, .int .i64 0, .int .i64 0, .slice none 0 0, .bool false, .int .i64 0] 29)
    rw [World.size_alloc] at this
    exact this
  go_enter Try.func10, Try.ntmps10
  go_wp2_with fail
  refine (rnumber_some s (w.heap.size + 1) 0 n k _ G0.out (Nat.zero_le _) HS.out HT.out).mono ?_
  rw [Nat.zero_add]
  rintro r w1 ⟨rfl, g1, k1⟩
  have D1 := hide (DS.start (n : Int) g1 k1)
  clear g1 k1
  go_wp2_with fail
  refine (RW.out _).mono ?_
  rintro r w2 ⟨rfl, b2⟩
  have D2 := hide (D1.out.below b2)
  clear b2
  go_wp2_with fail
  refine (rnumber_some s (w.heap.size + 1) (k) a q _ D2.out.gs (by omega) HS.out HAA.out).mono ?_
  rintro r w3 ⟨rfl, g3, k3⟩
  have E3 := hide (D2.out.reads g3 k3)
  have D3 := hide (E3.out.set 1 (.int .i64 (a : Int)) rfl)
  obtain ⟨y0, y1, y2, y3, y4⟩ := op_cells E3.out.op
  have fo := frozen_of E3.out.op 1
  clear g3 k3
  go_wp2_with fail
  refine (rcheck_any ⟨(n : Int), (a : Int), 0, [], false⟩ none 0 p _ (CAt.nil _ _) (Nat.zero_le _)).mono ?_
  rintro r w5 ⟨rfl, b5⟩
  have D5 := hide (D3.out.below b5)
  obtain ⟨⟨z0, z1, z2, z3, z4, z5⟩, f0, f1, f2, f3, f4, f5⟩ := six_cells D5.out.res
  obtain ⟨x0, x1, x2, x3, x4⟩ := op_cells D5.out.op
  have gc := cell_of D5.out.gs 5
  simp at gc
  clear b5
  cases hc : chk ⟨(n : Int), (a : Int), 0, [], false⟩ p == 0
  · have hc' : (chk ⟨(n : Int), (a : Int), 0, [], false⟩ p != 0) = true := by simp [bne, hc]
    have HC := hide hc
    clear hc
    go_wp2_with fail
    exact bodyPost_ret (results_row2 Try.results10 _ _ _ _ _ rfl rfl (loadVar_got (six_set D5.out.res _ _ _ _ _ _) rfl)) rfl ⟨.inl ⟨.inr (by rw [RO.out]; exact HC.out), rfl⟩, below_six D5.out.bel D5.out.ne.1 _ _ _ _ _ _⟩
  · have hc' : (chk ⟨(n : Int), (a : Int), 0, [], false⟩ p != 0) = false := by simp [bne, hc]
    have HC : Hid (chk ⟨(n : Int), (a : Int), 0, [], false⟩ p = 0) := by show _ = _; simpa using hc
    clear hc
    go_wp2_with fail
    go_region
    all_goals
      go_wp2_with fail
      exact bodyPost_ret (results_row2 Try.results10 _ _ _ _ _ rfl rfl (loadVar_got (heap_below (six_set D5.out.res _ _ _ _ _ _) (bdrew1 _)) rfl)) rfl ⟨.inr ⟨by rw [RO.out], by rw [RO.out]; exact HC.out, none, 0, k + q, by omega, by rw [RO.out], by rw [RO.out]; go_num, by rw [RO.out]; exact ⟨CAt.nil _ _, fun a e => by cases e⟩⟩, btr (below_six D5.out.bel D5.out.ne.1 _ _ _ _ _ _) (bdrew1 _)⟩

set_option maxRecDepth 100000 in
set_option maxHeartbeats 3200000 in
theorem rdecode_1n (s : ByteArray) (p : Int) (w : World) (hp : okP p = true) (hs : s.size ≤ maxLen) (n k : Nat) (h1 : 1 ≤ n) (h9 : n ≤ 9) (ht : tk (nbs s) = some (n, k)) (hA : ((sA (n : Int) : Int) != 46) = true) (hB : ((sB (n : Int) : Int) != 46) = false) (h6 : ((n : Int) == 6) = false) (h0 : nf (n : Int) = 1) (ha : tk ((nbs s).drop k) = none) :
    Calls Try.prog 10 #[.string s, .int .i64 p] w fun r w' => RD s p w.heap.size r w' ∧ Below w.heap.size w w' := by
  obtain ⟨p1, p2⟩ := (okP_iff p).1 hp
  have e1 : decide (p < 1) = false := by simp; omega
  have e2 : decide (8 < p) = false := by simp; omega
  have hk := tk_le' ht
  rw [nbs_length] at hk
  have HT := hide ht
  have HS := hide hs
  have d1 : decide ((n : Int) < 1) = false := by simp; omega
  have d2 : decide (9 < (n : Int)) = false := by simp; omega
  have i0 := ixA (n : Int) (by omega) (by omega)
  have i1 := ixB (n : Int) (by omega) (by omega)
  have RW := hide (fun w => row_any (n : Int) (by omega) (by omega) w)
  generalize sA (n : Int) = u at RW i0 i1 hA
  generalize sB (n : Int) = v at RW i0 i1 hB
  have RO := hide (rop_1n ht h0 h6 ha)
  have HAA := hide ha
  clear ht hs ha h0
  have G0 : Hid (GS ((w.alloc (.cells #[.int .i64 0, .int .i64 0, .int .i64 0, .slice none 0 0, .bool false, .int .i64 0] 29)).alloc (.cells #[.int .i64 0, .int .i64 0, .int .i64 0, .slice none 0 0, .bool false, .int .i64 0] 29)) (w.heap.size + 1) 0) := by
    have := heap_new (w.alloc (.cells #[.int .i64 0, .int .i64 0, .int .i64 0, .slice none 0 0, .bool false, .int .i64 0] 29)) (.cells #[.int .i64 0, .int .i64 0, .int .i64 0, .slice none 0 0, .bool false, .int .i64 0] 29)
    rw [World.size_alloc] at this
    exact this
  go_enter Try.func10, Try.ntmps10
  go_wp2_with fail
  refine (rnumber_some s (w.heap.size + 1) 0 n k _ G0.out (Nat.zero_le _) HS.out HT.out).mono ?_
  rw [Nat.zero_add]
  rintro r w1 ⟨rfl, g1, k1⟩
  have D1 := hide (DS.start (n : Int) g1 k1)
  clear g1 k1
  go_wp2_with fail
  refine (RW.out _).mono ?_
  rintro r w2 ⟨rfl, b2⟩
  have D2 := hide (D1.out.below b2)
  clear b2
  go_wp2_with fail
  refine (rnumber_none s (w.heap.size + 1) (k) _ D2.out.gs (by omega) HS.out HAA.out).mono ?_
  rintro r w3 ⟨rfl, g3, k3⟩
  have E3 := hide (D2.out.reads g3 k3)
  have D3 := hide (E3.out.set 1 (.int .i64 (-1)) rfl)
  obtain ⟨y0, y1, y2, y3, y4⟩ := op_cells E3.out.op
  have fo := frozen_of E3.out.op 1
  clear g3 k3
  go_wp2_with fail
  refine (rcheck_any ⟨(n : Int), -1, 0, [], false⟩ none 0 p _ (CAt.nil _ _) (Nat.zero_le _)).mono ?_
  rintro r w5 ⟨rfl, b5⟩
  have D5 := hide (D3.out.below b5)
  obtain ⟨⟨z0, z1, z2, z3, z4, z5⟩, f0, f1, f2, f3, f4, f5⟩ := six_cells D5.out.res
  obtain ⟨x0, x1, x2, x3, x4⟩ := op_cells D5.out.op
  have gc := cell_of D5.out.gs 5
  simp at gc
  clear b5
  have hc := chk_neg (n : Int) (-1) 0 [] false p (.inl (by decide))
  have hc' : (chk ⟨(n : Int), -1, 0, [], false⟩ p != 0) = true := by simp [bne, hc]
  clear hc
  go_wp2_with fail
  exact bodyPost_ret (results_row2 Try.results10 _ _ _ _ _ rfl rfl (loadVar_got (six_set D5.out.res _ _ _ _ _ _) rfl)) rfl ⟨.inl ⟨.inl RO.out, rfl⟩, below_six D5.out.bel D5.out.ne.1 _ _ _ _ _ _⟩

set_option maxRecDepth 100000 in
set_option maxHeartbeats 3200000 in
theorem rdecode_2n (s : ByteArray) (p : Int) (w : World) (hp : okP p = true) (hs : s.size ≤ maxLen) (n k : Nat) (h1 : 1 ≤ n) (h9 : n ≤ 9) (ht : tk (nbs s) = some (n, k)) (hA : ((sA (n : Int) : Int) != 46) = true) (hB : ((sB (n : Int) : Int) != 46) = true) (h6 : ((n : Int) == 6) = false) (h0 : nf (n : Int) = 2) (ha : tk ((nbs s).drop k) = none) :
    Calls Try.prog 10 #[.string s, .int .i64 p] w fun r w' => RD s p w.heap.size r w' ∧ Below w.heap.size w w' := by
  obtain ⟨p1, p2⟩ := (okP_iff p).1 hp
  have e1 : decide (p < 1) = false := by simp; omega
  have e2 : decide (8 < p) = false := by simp; omega
  have hk := tk_le' ht
  rw [nbs_length] at hk
  have HT := hide ht
  have HS := hide hs
  have d1 : decide ((n : Int) < 1) = false := by simp; omega
  have d2 : decide (9 < (n : Int)) = false := by simp; omega
  have i0 := ixA (n : Int) (by omega) (by omega)
  have i1 := ixB (n : Int) (by omega) (by omega)
  have RW := hide (fun w => row_any (n : Int) (by omega) (by omega) w)
  generalize sA (n : Int) = u at RW i0 i1 hA
  generalize sB (n : Int) = v at RW i0 i1 hB
  have RO := hide (rop_2n ht h0 h6 ha)
  have HAA := hide ha
  clear ht hs ha h0
  have G0 : Hid (GS ((w.alloc (.cells #[.int .i64 0, .int .i64 0, .int .i64 0, .slice none 0 0, .bool false, .int .i64 0] 29)).alloc (.cells #[.int .i64 0, .int .i64 0, .int .i64 0, .slice none 0 0, .bool false, .int .i64 0] 29)) (w.heap.size + 1) 0) := by
    have := heap_new (w.alloc (.cells #[.int .i64 0, .int .i64 0, .int .i64 0, .slice none 0 0, .bool false, .int .i64 0] 29)) (.cells #[.int .i64 0, .int .i64 0, .int .i64 0, .slice none 0 0, .bool false, .int .i64 0] 29)
    rw [World.size_alloc] at this
    exact this
  go_enter Try.func10, Try.ntmps10
  go_wp2_with fail
  refine (rnumber_some s (w.heap.size + 1) 0 n k _ G0.out (Nat.zero_le _) HS.out HT.out).mono ?_
  rw [Nat.zero_add]
  rintro r w1 ⟨rfl, g1, k1⟩
  have D1 := hide (DS.start (n : Int) g1 k1)
  clear g1 k1
  go_wp2_with fail
  refine (RW.out _).mono ?_
  rintro r w2 ⟨rfl, b2⟩
  have D2 := hide (D1.out.below b2)
  clear b2
  go_wp2_with fail
  refine (rnumber_none s (w.heap.size + 1) (k) _ D2.out.gs (by omega) HS.out HAA.out).mono ?_
  rintro r w3 ⟨rfl, g3, k3⟩
  have E3 := hide (D2.out.reads g3 k3)
  have D3 := hide (E3.out.set 1 (.int .i64 (-1)) rfl)
  obtain ⟨y0, y1, y2, y3, y4⟩ := op_cells E3.out.op
  have fo := frozen_of E3.out.op 1
  clear g3 k3
  go_wp2_with fail
  refine (rcheck_any ⟨(n : Int), -1, 0, [], false⟩ none 0 p _ (CAt.nil _ _) (Nat.zero_le _)).mono ?_
  rintro r w5 ⟨rfl, b5⟩
  have D5 := hide (D3.out.below b5)
  obtain ⟨⟨z0, z1, z2, z3, z4, z5⟩, f0, f1, f2, f3, f4, f5⟩ := six_cells D5.out.res
  obtain ⟨x0, x1, x2, x3, x4⟩ := op_cells D5.out.op
  have gc := cell_of D5.out.gs 5
  simp at gc
  clear b5
  have hc := chk_neg (n : Int) (-1) 0 [] false p (.inl (by decide))
  have hc' : (chk ⟨(n : Int), -1, 0, [], false⟩ p != 0) = true := by simp [bne, hc]
  clear hc
  go_wp2_with fail
  exact bodyPost_ret (results_row2 Try.results10 _ _ _ _ _ rfl rfl (loadVar_got (six_set D5.out.res _ _ _ _ _ _) rfl)) rfl ⟨.inl ⟨.inl RO.out, rfl⟩, below_six D5.out.bel D5.out.ne.1 _ _ _ _ _ _⟩

set_option maxRecDepth 100000 in
set_option maxHeartbeats 3200000 in
theorem rdecode_2m (s : ByteArray) (p : Int) (w : World) (hp : okP p = true) (hs : s.size ≤ maxLen) (n k : Nat) (h1 : 1 ≤ n) (h9 : n ≤ 9) (ht : tk (nbs s) = some (n, k)) (hA : ((sA (n : Int) : Int) != 46) = true) (hB : ((sB (n : Int) : Int) != 46) = true) (h6 : ((n : Int) == 6) = false) (h0 : nf (n : Int) = 2) (a q : Nat) (ha : tk ((nbs s).drop k) = some (a, q)) (hb : tk ((nbs s).drop (k + q)) = none) :
    Calls Try.prog 10 #[.string s, .int .i64 p] w fun r w' => RD s p w.heap.size r w' ∧ Below w.heap.size w w' := by
  obtain ⟨p1, p2⟩ := (okP_iff p).1 hp
  have e1 : decide (p < 1) = false := by simp; omega
  have e2 : decide (8 < p) = false := by simp; omega
  have hk := tk_le' ht
  rw [nbs_length] at hk
  have HT := hide ht
  have HS := hide hs
  have d1 : decide ((n : Int) < 1) = false := by simp; omega
  have d2 : decide (9 < (n : Int)) = false := by simp; omega
  have i0 := ixA (n : Int) (by omega) (by omega)
  have i1 := ixB (n : Int) (by omega) (by omega)
  have RW := hide (fun w => row_any (n : Int) (by omega) (by omega) w)
  generalize sA (n : Int) = u at RW i0 i1 hA
  generalize sB (n : Int) = v at RW i0 i1 hB
  have RO := hide (rop_2m ht h0 h6 ha hb)
  have hq := tk_le' ha
  rw [List.length_drop, nbs_length] at hq
  have HAA := hide ha
  have HBB := hide hb
  clear ht hs ha hb h0
  have G0 : Hid (GS ((w.alloc (.cells #[.int .i64 0, .int .i64 0, .int .i64 0, .slice none 0 0, .bool false, .int .i64 0] 29)).alloc (.cells #[.int .i64 0, .int .i64 0, .int .i64 0, .slice none 0 0, .bool false, .int .i64 0] 29)) (w.heap.size + 1) 0) := by
    have := heap_new (w.alloc (.cells #[.int .i64 0, .int .i64 0, .int .i64 0, .slice none 0 0, .bool false, .int .i64 0] 29)) (.cells #[.int .i64 0, .int .i64 0, .int .i64 0, .slice none 0 0, .bool false, .int .i64 0] 29)
    rw [World.size_alloc] at this
    exact this
  go_enter Try.func10, Try.ntmps10
  go_wp2_with fail
  refine (rnumber_some s (w.heap.size + 1) 0 n k _ G0.out (Nat.zero_le _) HS.out HT.out).mono ?_
  rw [Nat.zero_add]
  rintro r w1 ⟨rfl, g1, k1⟩
  have D1 := hide (DS.start (n : Int) g1 k1)
  clear g1 k1
  go_wp2_with fail
  refine (RW.out _).mono ?_
  rintro r w2 ⟨rfl, b2⟩
  have D2 := hide (D1.out.below b2)
  clear b2
  go_wp2_with fail
  refine (rnumber_some s (w.heap.size + 1) (k) a q _ D2.out.gs (by omega) HS.out HAA.out).mono ?_
  rintro r w3 ⟨rfl, g3, k3⟩
  have E3 := hide (D2.out.reads g3 k3)
  have D3 := hide (E3.out.set 1 (.int .i64 (a : Int)) rfl)
  obtain ⟨y0, y1, y2, y3, y4⟩ := op_cells E3.out.op
  have fo := frozen_of E3.out.op 1
  clear g3 k3
  go_wp2_with fail
  refine (rnumber_none s (w.heap.size + 1) (k + q) _ D3.out.gs (by omega) HS.out HBB.out).mono ?_
  rintro r w4 ⟨rfl, g4, k4⟩
  have E4 := hide (D3.out.reads g4 k4)
  have D4 := hide (E4.out.set 2 (.int .i64 (-1)) rfl)
  obtain ⟨y0, y1, y2, y3, y4⟩ := op_cells E4.out.op
  have fo := frozen_of E4.out.op 2
  clear g4 k4
  go_wp2_with fail
  refine (rcheck_any ⟨(n : Int), (a : Int), -1, [], false⟩ none 0 p _ (CAt.nil _ _) (Nat.zero_le _)).mono ?_
  rintro r w5 ⟨rfl, b5⟩
  have D5 := hide (D4.out.below b5)
  obtain ⟨⟨z0, z1, z2, z3, z4, z5⟩, f0, f1, f2, f3, f4, f5⟩ := six_cells D5.out.res
  obtain ⟨x0, x1, x2, x3, x4⟩ := op_cells D5.out.op
  have gc := cell_of D5.out.gs 5
  simp at gc
  clear b5
  have hc := chk_neg (n : Int) (a : Int) (-1) [] false p (.inr (by decide))
  have hc' : (chk ⟨(n : Int), (a : Int), -1, [], false⟩ p != 0) = true := by simp [bne, hc]
  clear hc
  go_wp2_with fail
  exact bodyPost_ret (results_row2 Try.results10 _ _ _ _ _ rfl rfl (loadVar_got (six_set D5.out.res _ _ _ _ _ _) rfl)) rfl ⟨.inl ⟨.inl RO.out, rfl⟩, below_six D5.out.bel D5.out.ne.1 _ _ _ _ _ _⟩

set_option maxRecDepth 100000 in
set_option maxHeartbeats 3200000 in
theorem rdecode_2 (s : ByteArray) (p : Int) (w : World) (hp : okP p = true) (hs : s.size ≤ maxLen) (n k : Nat) (h1 : 1 ≤ n) (h9 : n ≤ 9) (ht : tk (nbs s) = some (n, k)) (hA : ((sA (n : Int) : Int) != 46) = true) (hB : ((sB (n : Int) : Int) != 46) = true) (h6 : ((n : Int) == 6) = false) (h0 : nf (n : Int) = 2) (a q : Nat) (ha : tk ((nbs s).drop k) = some (a, q)) (b t : Nat) (hb : tk ((nbs s).drop (k + q)) = some (b, t)) :
    Calls Try.prog 10 #[.string s, .int .i64 p] w fun r w' => RD s p w.heap.size r w' ∧ Below w.heap.size w w' := by
  obtain ⟨p1, p2⟩ := (okP_iff p).1 hp
  have e1 : decide (p < 1) = false := by simp; omega
  have e2 : decide (8 < p) = false := by simp; omega
  have hk := tk_le' ht
  rw [nbs_length] at hk
  have HT := hide ht
  have HS := hide hs
  have d1 : decide ((n : Int) < 1) = false := by simp; omega
  have d2 : decide (9 < (n : Int)) = false := by simp; omega
  have i0 := ixA (n : Int) (by omega) (by omega)
  have i1 := ixB (n : Int) (by omega) (by omega)
  have RW := hide (fun w => row_any (n : Int) (by omega) (by omega) w)
  generalize sA (n : Int) = u at RW i0 i1 hA
  generalize sB (n : Int) = v at RW i0 i1 hB
  have RO := hide (rop_2 ht h0 h6 ha hb)
  have hq := tk_le' ha
  rw [List.length_drop, nbs_length] at hq
  have HAA := hide ha
  have hbq := tk_le' hb
  rw [List.length_drop, nbs_length] at hbq
  have HBB := hide hb
  clear ht hs ha hb h0
  have G0 : Hid (GS ((w.alloc (.cells #[.int .i64 0, .int .i64 0, .int .i64 0, .slice none 0 0, .bool false, .int .i64 0] 29)).alloc (.cells #[.int .i64 0, .int .i64 0, .int .i64 0, .slice none 0 0, .bool false, .int .i64 0] 29)) (w.heap.size + 1) 0) := by
    have := heap_new (w.alloc (.cells #[.int .i64 0, .int .i64 0, .int .i64 0, .slice none 0 0, .bool false, .int .i64 0] 29)) (.cells #[.int .i64 0, .int .i64 0, .int .i64 0, .slice none 0 0, .bool false, .int .i64 0] 29)
    rw [World.size_alloc] at this
    exact this
  go_enter Try.func10, Try.ntmps10
  go_wp2_with fail
  refine (rnumber_some s (w.heap.size + 1) 0 n k _ G0.out (Nat.zero_le _) HS.out HT.out).mono ?_
  rw [Nat.zero_add]
  rintro r w1 ⟨rfl, g1, k1⟩
  have D1 := hide (DS.start (n : Int) g1 k1)
  clear g1 k1
  go_wp2_with fail
  refine (RW.out _).mono ?_
  rintro r w2 ⟨rfl, b2⟩
  have D2 := hide (D1.out.below b2)
  clear b2
  go_wp2_with fail
  refine (rnumber_some s (w.heap.size + 1) (k) a q _ D2.out.gs (by omega) HS.out HAA.out).mono ?_
  rintro r w3 ⟨rfl, g3, k3⟩
  have E3 := hide (D2.out.reads g3 k3)
  have D3 := hide (E3.out.set 1 (.int .i64 (a : Int)) rfl)
  obtain ⟨y0, y1, y2, y3, y4⟩ := op_cells E3.out.op
  have fo := frozen_of E3.out.op 1
  clear g3 k3
  go_wp2_with fail
  refine (rnumber_some s (w.heap.size + 1) (k + q) b t _ D3.out.gs (by omega) HS.out HBB.out).mono ?_
  rintro r w4 ⟨rfl, g4, k4⟩
  have E4 := hide (D3.out.reads g4 k4)
  have D4 := hide (E4.out.set 2 (.int .i64 (b : Int)) rfl)
  obtain ⟨y0, y1, y2, y3, y4⟩ := op_cells E4.out.op
  have fo := frozen_of E4.out.op 2
  clear g4 k4
  go_wp2_with fail
  refine (rcheck_any ⟨(n : Int), (a : Int), (b : Int), [], false⟩ none 0 p _ (CAt.nil _ _) (Nat.zero_le _)).mono ?_
  rintro r w5 ⟨rfl, b5⟩
  have D5 := hide (D4.out.below b5)
  obtain ⟨⟨z0, z1, z2, z3, z4, z5⟩, f0, f1, f2, f3, f4, f5⟩ := six_cells D5.out.res
  obtain ⟨x0, x1, x2, x3, x4⟩ := op_cells D5.out.op
  have gc := cell_of D5.out.gs 5
  simp at gc
  clear b5
  cases hc : chk ⟨(n : Int), (a : Int), (b : Int), [], false⟩ p == 0
  · have hc' : (chk ⟨(n : Int), (a : Int), (b : Int), [], false⟩ p != 0) = true := by simp [bne, hc]
    have HC := hide hc
    clear hc
    go_wp2_with fail
    exact bodyPost_ret (results_row2 Try.results10 _ _ _ _ _ rfl rfl (loadVar_got (six_set D5.out.res _ _ _ _ _ _) rfl)) rfl ⟨.inl ⟨.inr (by rw [RO.out]; exact HC.out), rfl⟩, below_six D5.out.bel D5.out.ne.1 _ _ _ _ _ _⟩
  · have hc' : (chk ⟨(n : Int), (a : Int), (b : Int), [], false⟩ p != 0) = false := by simp [bne, hc]
    have HC : Hid (chk ⟨(n : Int), (a : Int), (b : Int), [], false⟩ p = 0) := by show _ = _; simpa using hc
    clear hc
    go_wp2_with fail
    go_region
    all_goals
      go_wp2_with fail
      exact bodyPost_ret (results_row2 Try.results10 _ _ _ _ _ rfl rfl (loadVar_got (heap_below (six_set D5.out.res _ _ _ _ _ _) (bdrew1 _)) rfl)) rfl ⟨.inr ⟨by rw [RO.out], by rw [RO.out]; exact HC.out, none, 0, k + q + t, by omega, by rw [RO.out], by rw [RO.out]; go_num, by rw [RO.out]; exact ⟨CAt.nil _ _, fun a e => by cases e⟩⟩, btr (below_six D5.out.bel D5.out.ne.1 _ _ _ _ _ _) (bdrew1 _)⟩
end De
end Go.Proofs.Ytocmdehpbipmlaa
/- What a select's reading is, number by number. -/
namespace Go.Proofs.Ytocmdehpbipmlaa
open Go.ChangeShapes Go.WideShapes Go.ChangeAt Go.RowKit
namespace De
open Ba Re

theorem rux_n {m : Int} {s : ByteArray} {z : Nat} (hm : 0 ≤ m) (h : tk ((nbs s).drop z) = none) : rup m (s.extract z s.size) false = (0, bs [], true) := by
  have : decide (m < 0) = false := by simp; omega
  simp only [rup, rx_n h, this, cond_false]
theorem rux_b {m : Int} {s : ByteArray} {z n k : Nat} (h : tk ((nbs s).drop z) = some (n, k)) (hb : m < (n : Int)) : (rup m (s.extract z s.size) false).2.2 = true := by
  have : decide (m < (n : Int)) = true := by simpa using hb
  simp only [rup, rx_s h, this, cond_true]
theorem rux_s {m : Int} {s : ByteArray} {z n k : Nat} (h : tk ((nbs s).drop z) = some (n, k)) (hb : (n : Int) ≤ m) : rup m (s.extract z s.size) false = ((n : Int), s.extract (z + k) s.size, false) := by
  have : decide (m < (n : Int)) = false := by simp; omega
  simp only [rup, rx_s h, this, cond_false]
theorem rc_t (s : ByteArray) : (rc s true).2.2 = true := by simp only [rc, rup_t, rnum_t]
theorem rcs_t (s : ByteArray) (f : Bool) (i : Nat) (h : (rcs s f i).2.2 = true) : ∀ j, (rcs s f (i + j)).2.2 = true := by
  intro j
  induction j with
  | zero => exact h
  | succ j ih =>
    rw [← Nat.add_assoc, rcs]
    simp only [ih]
    exact rc_t _
theorem rcs_f (s : ByteArray) (j : Nat) : (rcs s true j).2.2 = true := by
  have := rcs_t s true 0 rfl j
  rwa [Nat.zero_add] at this
theorem rop_6d {s : ByteArray} {k : Nat} (h : tk (nbs s) = some (6, k)) (hd : (rup 1 (s.extract k s.size) false).2.2 = true) : (rop s false).2.2 = true := by
  unfold rop
  rw [rnum_s h]
  simp only [show nf ((6 : Nat) : Int) = 0 from rfl, rf, show (((6 : Nat) : Int) == 6) = true from rfl, cond_true, hd, rup_t]
  exact rcs_f _ _
theorem rop_6c {s : ByteArray} {k dv q : Nat} (h : tk (nbs s) = some (6, k)) (hd : rup 1 (s.extract k s.size) false = ((dv : Int), s.extract (k + q) s.size, false)) (hc : (rup 4 (s.extract (k + q) s.size) false).2.2 = true) : (rop s false).2.2 = true := by
  unfold rop
  rw [rnum_s h]
  simp only [show nf ((6 : Nat) : Int) = 0 from rfl, rf, show (((6 : Nat) : Int) == 6) = true from rfl, cond_true, hd, hc]
  exact rcs_f _ _
theorem rop_6 {s : ByteArray} {k dv q m t : Nat} (h : tk (nbs s) = some (6, k)) (hd : rup 1 (s.extract k s.size) false = ((dv : Int), s.extract (k + q) s.size, false)) (hc : rup 4 (s.extract (k + q) s.size) false = ((m : Int), s.extract (k + q + t) s.size, false)) : rop s false = (⟨6, 0, 0, (rcs (s.extract (k + q + t) s.size) false m).1, (dv : Int) == 1⟩, (rcs (s.extract (k + q + t) s.size) false m).2) := by
  unfold rop
  rw [rnum_s h]
  simp only [show nf ((6 : Nat) : Int) = 0 from rfl, rf, show (((6 : Nat) : Int) == 6) = true from rfl, cond_true, hd, hc, Int.toNat_natCast]
  rfl
end De
end Go.Proofs.Ytocmdehpbipmlaa
/- The reference's Decode where it ends before the kind's own numbers, over this seat's program. -/
namespace Go.Proofs.Ytocmdehpbipmlaa
open Go.ChangeShapes Go.WideShapes Go.ChangeAt Go.RowKit
namespace De
open Ba Re

/-- the answer's room and what is read, at the start -/
theorem start_res (w w1 : World) (kb : KB (w.heap.size + 1) ((w.alloc (.cells #[.int .i64 0, .int .i64 0, .int .i64 0, .slice none 0 0, .bool false, .int .i64 0] 29)).alloc (.cells #[.int .i64 0, .int .i64 0, .int .i64 0, .slice none 0 0, .bool false, .int .i64 0] 29)) w1) : w1.heap[w.heap.size]? = some (.cells #[.int .i64 0, .int .i64 0, .int .i64 0, .slice none 0 0, .bool false, .int .i64 0] 29 (0, 0)) ∧ Below w.heap.size w w1 := by
  have r0 := heap_below (heap_new w (.cells #[.int .i64 0, .int .i64 0, .int .i64 0, .slice none 0 0, .bool false, .int .i64 0] 29)) (below_alloc (w.alloc (.cells #[.int .i64 0, .int .i64 0, .int .i64 0, .slice none 0 0, .bool false, .int .i64 0] 29)) (.cells #[.int .i64 0, .int .i64 0, .int .i64 0, .slice none 0 0, .bool false, .int .i64 0] 29))
  have b0 := btr (below_alloc w (.cells #[.int .i64 0, .int .i64 0, .int .i64 0, .slice none 0 0, .bool false, .int .i64 0] 29)) (below_alloc (w.alloc (.cells #[.int .i64 0, .int .i64 0, .int .i64 0, .slice none 0 0, .bool false, .int .i64 0] 29)) (.cells #[.int .i64 0, .int .i64 0, .int .i64 0, .slice none 0 0, .bool false, .int .i64 0] 29))
  exact ⟨kb.heap r0 (by omega), KB.below b0 kb (by omega)⟩
theorem chk_kind (o : OpD) (p : Int) (h : o.kind < 1 ∨ 9 < o.kind) : (chk o p == 0) = false := by
  have : (okP p && (decide (1 ≤ o.kind) && decide (o.kind ≤ 9))) = false := by
    simp
    omega
  simp [chk, this]

set_option maxRecDepth 100000 in
set_option maxHeartbeats 3200000 in
theorem rdecode_n (s : ByteArray) (p : Int) (w : World) (hp : okP p = true) (hs : s.size ≤ maxLen) (ht : tk (nbs s) = none) :
    Calls Try.prog 10 #[.string s, .int .i64 p] w fun r w' => RD s p w.heap.size r w' ∧ Below w.heap.size w w' := by
  obtain ⟨p1, p2⟩ := (okP_iff p).1 hp
  have e1 : decide (p < 1) = false := by simp; omega
  have e2 : decide (8 < p) = false := by simp; omega
  have HT := hide ht
  have HS := hide hs
  have RO := hide (rop_none ht)
  clear ht hs
  have G0 : Hid (GS ((w.alloc (.cells #[.int .i64 0, .int .i64 0, .int .i64 0, .slice none 0 0, .bool false, .int .i64 0] 29)).alloc (.cells #[.int .i64 0, .int .i64 0, .int .i64 0, .slice none 0 0, .bool false, .int .i64 0] 29)) (w.heap.size + 1) 0) := by
    have := heap_new (w.alloc (.cells #[.int .i64 0, .int .i64 0, .int .i64 0, .slice none 0 0, .bool false, .int .i64 0] 29)) (.cells #[.int .i64 0, .int .i64 0, .int .i64 0, .slice none 0 0, .bool false, .int .i64 0] 29)
    rw [World.size_alloc] at this
    exact this
  go_enter Try.func10, Try.ntmps10
  go_wp2_with fail
  refine (rnumber_none s (w.heap.size + 1) 0 _ G0.out (Nat.zero_le _) HS.out HT.out).mono ?_
  rintro r w1 ⟨rfl, g1, k1⟩
  have D1 := hide (start_res w w1 k1)
  obtain ⟨⟨z0, z1, z2, z3, z4, z5⟩, f0, f1, f2, f3, f4, f5⟩ := six_cells D1.out.1
  clear g1 k1
  go_wp2_with fail
  exact bodyPost_ret (results_row2 Try.results10 _ _ _ _ _ rfl rfl (loadVar_got (six_set D1.out.1 _ _ _ _ _ _) rfl)) rfl ⟨.inl ⟨.inl RO.out, rfl⟩, below_six D1.out.2 (Nat.le_refl _) _ _ _ _ _ _⟩

set_option maxRecDepth 100000 in
set_option maxHeartbeats 3200000 in
theorem rdecode_x (s : ByteArray) (p : Int) (w : World) (hp : okP p = true) (hs : s.size ≤ maxLen) (n k : Nat) (ht : tk (nbs s) = some (n, k)) (hn : n < 1 ∨ 9 < n) :
    Calls Try.prog 10 #[.string s, .int .i64 p] w fun r w' => RD s p w.heap.size r w' ∧ Below w.heap.size w w' := by
  obtain ⟨p1, p2⟩ := (okP_iff p).1 hp
  have e1 : decide (p < 1) = false := by simp; omega
  have e2 : decide (8 < p) = false := by simp; omega
  have HT := hide ht
  have HS := hide hs
  have RO := hide (chk_kind (rop s false).1 p (by rw [rop_kind, rnum_s ht]; simp only; omega))
  clear ht hs
  have G0 : Hid (GS ((w.alloc (.cells #[.int .i64 0, .int .i64 0, .int .i64 0, .slice none 0 0, .bool false, .int .i64 0] 29)).alloc (.cells #[.int .i64 0, .int .i64 0, .int .i64 0, .slice none 0 0, .bool false, .int .i64 0] 29)) (w.heap.size + 1) 0) := by
    have := heap_new (w.alloc (.cells #[.int .i64 0, .int .i64 0, .int .i64 0, .slice none 0 0, .bool false, .int .i64 0] 29)) (.cells #[.int .i64 0, .int .i64 0, .int .i64 0, .slice none 0 0, .bool false, .int .i64 0] 29)
    rw [World.size_alloc] at this
    exact this
  go_enter Try.func10, Try.ntmps10
  go_wp2_with fail
  refine (rnumber_some s (w.heap.size + 1) 0 n k _ G0.out (Nat.zero_le _) HS.out HT.out).mono ?_
  rintro r w1 ⟨rfl, g1, k1⟩
  have D1 := hide (start_res w w1 k1)
  obtain ⟨⟨z0, z1, z2, z3, z4, z5⟩, f0, f1, f2, f3, f4, f5⟩ := six_cells D1.out.1
  clear g1 k1
  by_cases h1 : n < 1
  · have d1 : decide ((n : Int) < 1) = true := by simp; omega
    go_wp2_with fail
    exact bodyPost_ret (results_row2 Try.results10 _ _ _ _ _ rfl rfl (loadVar_got (six_set D1.out.1 _ _ _ _ _ _) rfl)) rfl ⟨.inl ⟨.inr RO.out, rfl⟩, below_six D1.out.2 (Nat.le_refl _) _ _ _ _ _ _⟩
  · have d1 : decide ((n : Int) < 1) = false := by simp; omega
    have d2 : decide (9 < (n : Int)) = true := by simp; omega
    go_wp2_with fail
    exact bodyPost_ret (results_row2 Try.results10 _ _ _ _ _ rfl rfl (loadVar_got (six_set D1.out.1 _ _ _ _ _ _) rfl)) rfl ⟨.inl ⟨.inr RO.out, rfl⟩, below_six D1.out.2 (Nat.le_refl _) _ _ _ _ _ _⟩
end De
end Go.Proofs.Ytocmdehpbipmlaa
/- The reference's Decode where the number of programs is none, over this seat's program. -/
namespace Go.Proofs.Ytocmdehpbipmlaa
open Go.ChangeShapes Go.WideShapes Go.ChangeAt Go.RowKit
namespace De
open Ba Re

set_option maxRecDepth 100000 in
set_option maxHeartbeats 3200000 in
theorem rdecode_p (s : ByteArray) (p : Int) (w : World) (hp : okP p = false) :
    Calls Try.prog 10 #[.string s, .int .i64 p] w fun r w' => r = .returned (.tuple #[.agg #[.int .i64 0, .int .i64 0, .int .i64 0, .slice none 0 0, .bool false, .int .i64 0], .int .i64 1]) ∧ Below w.heap.size w w' := by
  have hq : ¬ (1 ≤ p ∧ p ≤ 8) := fun h => by rw [(okP_iff p).2 h] at hp; cases hp
  go_enter Try.func10, Try.ntmps10
  by_cases h1 : p < 1
  · have d1 : decide (p < 1) = true := by simp; omega
    go_wp2_with fail
    exact bodyPost_ret (results_row2 Try.results10 _ _ _ _ _ rfl rfl (loadVar_got (heap_new _ _) rfl)) rfl ⟨rfl, below_alloc _ _⟩
  · have d1 : decide (p < 1) = false := by simp; omega
    have d2 : decide (8 < p) = true := by simp; omega
    go_wp2_with fail
    exact bodyPost_ret (results_row2 Try.results10 _ _ _ _ _ rfl rfl (loadVar_got (heap_new _ _) rfl)) rfl ⟨rfl, below_alloc _ _⟩
end De
end Go.Proofs.Ytocmdehpbipmlaa
/- The reference's Decode of a select, over this seat's program. -/
namespace Go.Proofs.Ytocmdehpbipmlaa
open Go.ChangeShapes Go.WideShapes Go.ChangeAt Go.RowKit
namespace De
open Ba Re

theorem own_ne' {w : World} {base size : Nat} {e : TypeId} {v : Value} {n g : Nat} {xs : List Value} {c : Array Value} {t : TypeId} {fr : Nat × Nat} (h : w.ownsRow base e size v n xs) (hg : w.heap[g]? = some (.cells c t fr)) (ht : t ≠ e) : some g ≠ v.ownBlock := by
  intro q
  rcases h.2 with ⟨rfl, _⟩ | ⟨b, cap, cur, rfl, _, hb, _⟩
  · simp [Value.ownBlock] at q
  · simp [Value.ownBlock] at q
    subst q
    rw [hg] at hb
    simp at hb
    exact ht hb.2.1
theorem owns_slice {w : World} {base size : Nat} {e : TypeId} {v : Value} {n : Nat} {xs : List Value} (h : w.ownsRow base e size v n xs) : ∃ oa c, v = .slice oa n c := by
  rcases h.2 with ⟨rfl, rfl⟩ | ⟨b, cap, cur, rfl, _⟩
  · exact ⟨none, 0, rfl⟩
  · exact ⟨_, _, rfl⟩
theorem rcheck_len (k a b : Int) (l : List Cs) (d : Bool) (oa : Option Addr) (n c : Nat) (p : Int) (w : World) (hn : l.length = n) (hA : CAt w oa l) (hm : n ≤ maxLen) :
    Calls Try.prog 31 #[.agg #[.int .i64 k, .int .i64 a, .int .i64 b, .slice oa n c, .bool d], .int .i64 p] w fun r w' => r = .returned (.int .i64 (chk ⟨k, a, b, l, d⟩ p)) ∧ Below w.heap.size w w' := by
  subst hn
  exact rcheck_any ⟨k, a, b, l, d⟩ oa c p w hA hm
theorem owns_kb {w w' : World} {base size R : Nat} {e : TypeId} {v : Value} {n : Nat} {xs : List Value} (h : w.ownsRow base e size v n xs) (k : KB R w w') (hR : some R ≠ v.ownBlock) : w'.ownsRow base e size v n xs := by
  refine ⟨h.1, ?_⟩
  rcases h.2 with q | ⟨g, cap, cur, rfl, q2, q3, q4⟩
  · exact .inl q
  · exact .inr ⟨g, cap, cur, rfl, q2, k.heap q3 (fun q => hR (by simp [Value.ownBlock, q])), q4⟩
theorem owns_cat {w : World} {base : Nat} {e : TypeId} {v : Value} {n : Nat} {l : List Cs} (hn : l.length = n) (h : w.ownsRow base e 3 v n (l.flatMap cc)) : ∃ oa c, v = .slice oa n c ∧ CAt w oa l := by
  subst hn
  rcases h.2 with ⟨rfl, h0⟩ | ⟨g, cap, cur, rfl, _, hg, _, _, hcs, htk⟩
  · refine ⟨none, 0, by rw [h0], fun k x hk => ?_⟩
    rw [List.getElem?_eq_none (by omega)] at hk
    cases hk
  · refine ⟨_, cap, rfl, fun k x hk => ⟨g, 0, rfl, ?_⟩⟩
    have hkl : k < l.length := (List.getElem?_eq_some_iff.1 hk).1
    obtain ⟨q0, q1, q2⟩ := flat_cc_at l [] k x hk
    rw [List.append_nil, ← htk] at q0 q1 q2
    rw [List.getElem?_take] at q0 q1 q2
    rw [if_pos (by omega)] at q0 q1 q2
    simp only [Nat.zero_add]
    rw [cell_of hg, cell_of hg, cell_of hg]
    exact ⟨by simpa using q0, by simpa using q1, by simpa using q2⟩
theorem DS.grown {w wr wr' : World} {Z G O : Nat} {k a b : Int} {sl : Value} {d : Bool} {z : Nat} {v : Value} {n : Nat} {xs : List Value} (h : DS w wr Z G O k a b sl d z) (ho : wr.ownsRow w.heap.size 58 3 v n xs) (hg : wr.grownBy wr' v.ownBlock) : DS w wr' Z G O k a b sl d z :=
  ⟨(hg.block G (heap_lt h.gs) (own_ne' ho h.gs (by decide))).trans h.gs, (hg.block O (heap_lt h.op) (own_ne' ho h.op (by decide))).trans h.op, (hg.block Z (heap_lt h.res) (own_ne' ho h.res (by decide))).trans h.res, h.bel.grown hg h.bel.size (fun x hx => (ho.lt x hx).1), h.ne⟩
theorem rc_1 {S : ByteArray} (h : (rup 1 S false).2.2 = true) : (rc S false).2.2 = true := by
  simp only [rc, h, rnum_t]
theorem rc_2 {s : ByteArray} {z n k : Nat} (h1 : tk ((nbs s).drop z) = some (n, k)) (hb : n ≤ 1) (h2 : tk ((nbs s).drop (z + k)) = none) : (rc (s.extract z s.size) false).2.2 = true := by
  simp only [rc, rux_s (m := 1) h1 (by omega), rx_n h2, rnum_t]
theorem rc_3 {s : ByteArray} {z n k c q : Nat} (h1 : tk ((nbs s).drop z) = some (n, k)) (hb : n ≤ 1) (h2 : tk ((nbs s).drop (z + k)) = some (c, q)) (h3 : tk ((nbs s).drop (z + k + q)) = none) : (rc (s.extract z s.size) false).2.2 = true := by
  simp only [rc, rux_s (m := 1) h1 (by omega), rx_s h2, rx_n h3]
theorem rc_4 {s : ByteArray} {z n k c q v r : Nat} (h1 : tk ((nbs s).drop z) = some (n, k)) (hb : n ≤ 1) (h2 : tk ((nbs s).drop (z + k)) = some (c, q)) (h3 : tk ((nbs s).drop (z + k + q)) = some (v, r)) : rc (s.extract z s.size) false = (⟨(n : Int) == 1, (c : Int), (v : Int)⟩, s.extract (z + k + q + r) s.size, false) := by
  simp only [rc, rux_s (m := 1) h1 (by omega), rx_s h2, rx_s h3]
/-- the cases so far: j of them, z bytes read, none failed -/
def CR (s : ByteArray) (S : ByteArray) (j z : Nat) : Prop := (rcs S false j).2.1 = s.extract z s.size ∧ (rcs S false j).2.2 = false
theorem CR.fails {s S : ByteArray} {j z m : Nat} (h : CR s S j z) (hj : j < m) (hf : (rc (s.extract z s.size) false).2.2 = true) : (rcs S false m).2.2 = true := by
  have : (rcs S false (j + 1)).2.2 = true := by
    rw [rcs, h.1, h.2]
    exact hf
  have := rcs_t S false (j + 1) this (m - (j + 1))
  rwa [show j + 1 + (m - (j + 1)) = m by omega] at this
theorem CR.goes {s S : ByteArray} {j z z' : Nat} {x : Cs} (h : CR s S j z) (hr : rc (s.extract z s.size) false = (x, s.extract z' s.size, false)) : CR s S (j + 1) z' ∧ (rcs S false (j + 1)).1 = (rcs S false j).1 ++ [x] := by
  refine ⟨⟨?_, ?_⟩, ?_⟩ <;> rw [rcs, h.1, h.2, hr]

set_option maxRecDepth 100000 in
set_option maxHeartbeats 6400000 in
theorem rdecode_6 (s : ByteArray) (p : Int) (w : World) (hp : okP p = true) (hs : s.size ≤ maxLen) (k : Nat) (ht : tk (nbs s) = some (6, k)) :
    Calls Try.prog 10 #[.string s, .int .i64 p] w fun r w' => RD s p w.heap.size r w' ∧ Below w.heap.size w w' := by
  obtain ⟨p1, p2⟩ := (okP_iff p).1 hp
  have e1 : decide (p < 1) = false := by simp; omega
  have e2 : decide (8 < p) = false := by simp; omega
  have hk := tk_le' ht
  rw [nbs_length] at hk
  have HT := hide ht
  have HS := hide hs
  have i0 : ∀ w, (Instr.index 9 (.string (bs [46, 46])) (.int .i64 0)).run Try.prog w = .ok (.int .u8 46) w := ixA 6 (by decide) (by decide)
  have i1 : ∀ w, (Instr.index 9 (.string (bs [46, 46])) (.int .i64 1)).run Try.prog w = .ok (.int .u8 46) w := ixB 6 (by decide) (by decide)
  have G0 : Hid (GS ((w.alloc (.cells #[.int .i64 0, .int .i64 0, .int .i64 0, .slice none 0 0, .bool false, .int .i64 0] 29)).alloc (.cells #[.int .i64 0, .int .i64 0, .int .i64 0, .slice none 0 0, .bool false, .int .i64 0] 29)) (w.heap.size + 1) 0) := by
    have := heap_new (w.alloc (.cells #[.int .i64 0, .int .i64 0, .int .i64 0, .slice none 0 0, .bool false, .int .i64 0] 29)) (.cells #[.int .i64 0, .int .i64 0, .int .i64 0, .slice none 0 0, .bool false, .int .i64 0] 29)
    rw [World.size_alloc] at this
    exact this
  clear ht hs
  go_enter Try.func10, Try.ntmps10
  go_wp2_with fail
  refine (rnumber_some s (w.heap.size + 1) 0 6 k _ G0.out (Nat.zero_le _) HS.out HT.out).mono ?_
  rw [Nat.zero_add]
  rintro r w1 ⟨rfl, g1, k1⟩
  have D1 := hide (DS.start 6 g1 k1)
  clear g1 k1
  go_wp2_with fail
  refine (row_6 _).mono ?_
  rintro r w2 ⟨rfl, b2⟩
  have D2 := hide (D1.out.below b2)
  clear b2
  cases hd : tk ((nbs s).drop k) with
  | none =>
    have HD := hide hd
    clear hd
    go_wp2_with fail
    refine (rnumber_none s (w.heap.size + 1) k _ D2.out.gs (by omega) HS.out HD.out).mono ?_
    rintro r w3 ⟨rfl, g3, k3⟩
    have D3 := hide (D2.out.reads g3 k3)
    obtain ⟨⟨z0, z1, z2, z3, z4, z5⟩, f0, f1, f2, f3, f4, f5⟩ := six_cells D3.out.res
    clear g3 k3
    go_wp2_with fail
    exact bodyPost_ret (results_row2 Try.results10 _ _ _ _ _ rfl rfl (loadVar_got (six_set D3.out.res _ _ _ _ _ _) rfl)) rfl ⟨.inl ⟨.inl (rop_6d HT.out (by rw [rux_n (by decide) HD.out])), rfl⟩, below_six D3.out.bel D3.out.ne.1 _ _ _ _ _ _⟩
  | some pd =>
    obtain ⟨dv, q⟩ := pd
    have HD := hide hd
    have hq := tk_le' hd
    rw [List.length_drop, nbs_length] at hq
    clear hd
    go_wp2_with fail
    refine (rnumber_some s (w.heap.size + 1) k dv q _ D2.out.gs (by omega) HS.out HD.out).mono ?_
    rintro r w3 ⟨rfl, g3, k3⟩
    have D3 := hide (D2.out.reads g3 k3)
    obtain ⟨⟨z0, z1, z2, z3, z4, z5⟩, f0, f1, f2, f3, f4, f5⟩ := six_cells D3.out.res
    obtain ⟨y0, y1, y2, y3, y4⟩ := op_cells D3.out.op
    have fo := frozen_of D3.out.op 4
    clear g3 k3
    have dn0 : decide ((dv : Int) < 0) = false := by simp
    by_cases hd1 : 1 < dv
    · have dd : decide (1 < (dv : Int)) = true := by simp; omega
      go_wp2_with fail
      exact bodyPost_ret (results_row2 Try.results10 _ _ _ _ _ rfl rfl (loadVar_got (six_set D3.out.res _ _ _ _ _ _) rfl)) rfl ⟨.inl ⟨.inl (rop_6d HT.out (rux_b HD.out (by omega))), rfl⟩, below_six D3.out.bel D3.out.ne.1 _ _ _ _ _ _⟩
    · have dd : decide (1 < (dv : Int)) = false := by simp; omega
      have RUD := hide (rux_s (m := 1) HD.out (by omega))
      have D4 := hide (D3.out.set 4 (.bool ((dv : Int) == 1)) rfl)
      cases hc : tk ((nbs s).drop (k + q)) with
      | none =>
        have HCC := hide hc
        clear hc
        go_wp2_with fail
        refine (rnumber_none s (w.heap.size + 1) (k + q) _ D4.out.gs (by omega) HS.out HCC.out).mono ?_
        rintro r w5 ⟨rfl, g5, k5⟩
        have D5 := hide (D4.out.reads g5 k5)
        obtain ⟨⟨z0, z1, z2, z3, z4, z5⟩, f0, f1, f2, f3, f4, f5⟩ := six_cells D5.out.res
        clear g5 k5
        go_wp2_with fail
        exact bodyPost_ret (results_row2 Try.results10 _ _ _ _ _ rfl rfl (loadVar_got (six_set D5.out.res _ _ _ _ _ _) rfl)) rfl ⟨.inl ⟨.inl (rop_6c HT.out RUD.out (by rw [rux_n (by decide) HCC.out])), rfl⟩, below_six D5.out.bel D5.out.ne.1 _ _ _ _ _ _⟩
      | some pc =>
        obtain ⟨m, t⟩ := pc
        have HCC := hide hc
        have hct := tk_le' hc
        rw [List.length_drop, nbs_length] at hct
        clear hc
        go_wp2_with fail
        refine (rnumber_some s (w.heap.size + 1) (k + q) m t _ D4.out.gs (by omega) HS.out HCC.out).mono ?_
        rintro r w5 ⟨rfl, g5, k5⟩
        have D5 := hide (D4.out.reads g5 k5)
        obtain ⟨⟨z0, z1, z2, z3, z4, z5⟩, f0, f1, f2, f3, f4, f5⟩ := six_cells D5.out.res
        clear g5 k5
        have cn0 : decide ((m : Int) < 0) = false := by simp
        by_cases hm4 : 4 < m
        · have dc : decide (4 < (m : Int)) = true := by simp; omega
          go_wp2_with fail
          exact bodyPost_ret (results_row2 Try.results10 _ _ _ _ _ rfl rfl (loadVar_got (six_set D5.out.res _ _ _ _ _ _) rfl)) rfl ⟨.inl ⟨.inl (rop_6c HT.out RUD.out (rux_b HCC.out (by omega))), rfl⟩, below_six D5.out.bel D5.out.ne.1 _ _ _ _ _ _⟩
        · have dc : decide (4 < (m : Int)) = false := by simp; omega
          have RUC := hide (rux_s (m := 4) HCC.out (by omega))
          have RO := hide (rop_6 HT.out RUD.out RUC.out)
          clear z0 z1 z2 z3 z4 z5 f0 f1 f2 f3 f4 f5
          obtain ⟨i0, hi, hz0, hz1, hz2⟩ := info_parts info_case
          have INF := hide (And.intro hi (And.intro hz0 (And.intro hz1 hz2)))
          clear hi hz0 hz1 hz2 D1 D2 D3 D4 y0 y1 y2 y3 y4 fo G0 HD hq
          have hz5 : k + q + t ≤ s.size := by omega
          generalize hS : s.extract (k + q + t) s.size = S at RO
          have CR0 : Hid (CR s S 0 (k + q + t)) := ⟨hS.symm, rfl⟩
          clear RUC RUD hS HCC hct
          generalize k + q + t = zz at D5 CR0 hz5
          generalize ((dv : Int) == 1) = df at D5 RO ⊢
          have hm4' : m ≤ 4 := by omega
          clear hm4 dc cn0 hd1 dd dn0
          generalize w1.heap.size = O at D5 ⊢
          have OW0 : Hid (w5.ownsRow w.heap.size 58 3 (.slice none 0 0) 0 ((rcs S false 0).1.flatMap cc)) := ⟨rfl, .inl ⟨rfl, rfl⟩⟩
          go_wp2_with fail
          go_loopw [12] (fun i wr => ∃ (j z : Nat) (v : Value), j ≤ m ∧ i = .int .i64 (j : Int) ∧ z ≤ s.size ∧ CR s S j z ∧ DS w wr w.heap.size (w.heap.size + 1) O 6 0 0 v df z ∧ wr.ownsRow w.heap.size 58 3 v j ((rcs S false j).1.flatMap cc)) (fun i _ => m - (intOf i).toNat)
          case atStart => exact ⟨0, zz, _, Nat.zero_le _, rfl, hz5, CR0.out, D5.out, OW0.out⟩
          case round =>
            clear D5 CR0 OW0 hz5
            obtain ⟨j, z, v, hj, rfl, hz, crj, d6, ow6⟩ := hrel
            obtain ⟨oa, c, rfl, cat⟩ := owns_cat (rcs_len S false j) ow6
            have CRJ := hide crj
            have D6 := hide d6
            have OW := hide ow6
            have CA := hide cat
            clear crj d6 ow6 cat
            by_cases hjm : j < m
            · have hjm' : (j : Int) < (m : Int) := by omega
              clear CA
              cases h1 : tk ((nbs s).drop z) with
              | none =>
                have H1 := hide h1
                clear h1
                go_wp2_with fail
                refine (rnumber_none s (w.heap.size + 1) z _ D6.out.gs hz HS.out H1.out).mono ?_
                rintro r w7 ⟨rfl, g7, k7⟩
                have D7 := hide (D6.out.reads g7 k7)
                obtain ⟨⟨z0, z1, z2, z3, z4, z5⟩, f0, f1, f2, f3, f4, f5⟩ := six_cells D7.out.res
                clear g7 k7
                go_wp2_with fail
                exact bodyPost_ret (results_row2 Try.results10 _ _ _ _ _ rfl rfl (loadVar_got (six_set D7.out.res _ _ _ _ _ _) rfl)) rfl ⟨.inl ⟨.inl (by rw [RO.out]; exact CRJ.out.fails hjm (rc_1 (by rw [rux_n (by decide) H1.out]))), rfl⟩, below_six D7.out.bel D7.out.ne.1 _ _ _ _ _ _⟩
              | some p1 =>
                obtain ⟨n1, k1⟩ := p1
                have H1 := hide h1
                have l1 := tk_le' h1
                rw [List.length_drop, nbs_length] at l1
                clear h1
                go_wp2_with fail
                refine (rnumber_some s (w.heap.size + 1) z n1 k1 _ D6.out.gs hz HS.out H1.out).mono ?_
                rintro r w7 ⟨rfl, g7, k7⟩
                have D7 := hide (D6.out.reads g7 k7)
                have OW7 := hide (owns_kb OW.out k7 (own_ne' OW.out D6.out.gs (by decide)))
                clear g7 k7
                have b0 : decide ((n1 : Int) < 0) = false := by simp
                by_cases hn1 : 1 < n1
                · have b1 : decide (1 < (n1 : Int)) = true := by simp; omega
                  obtain ⟨⟨z0, z1, z2, z3, z4, z5⟩, f0, f1, f2, f3, f4, f5⟩ := six_cells D7.out.res
                  go_wp2_with fail
                  exact bodyPost_ret (results_row2 Try.results10 _ _ _ _ _ rfl rfl (loadVar_got (six_set D7.out.res _ _ _ _ _ _) rfl)) rfl ⟨.inl ⟨.inl (by rw [RO.out]; exact CRJ.out.fails hjm (rc_1 (rux_b H1.out (by omega)))), rfl⟩, below_six D7.out.bel D7.out.ne.1 _ _ _ _ _ _⟩
                · have b1 : decide (1 < (n1 : Int)) = false := by simp; omega
                  cases h2 : tk ((nbs s).drop (z + k1)) with
                  | none =>
                    have H2 := hide h2
                    clear h2
                    go_wp2_with fail
                    refine (rnumber_none s (w.heap.size + 1) (z + k1) _ D7.out.gs (by omega) HS.out H2.out).mono ?_
                    rintro r w8 ⟨rfl, g8, k8⟩
                    have D8 := hide (D7.out.reads g8 k8)
                    obtain ⟨⟨z0, z1, z2, z3, z4, z5⟩, f0, f1, f2, f3, f4, f5⟩ := six_cells D8.out.res
                    clear g8 k8
                    go_wp2_with fail
                    exact bodyPost_ret (results_row2 Try.results10 _ _ _ _ _ rfl rfl (loadVar_got (six_set D8.out.res _ _ _ _ _ _) rfl)) rfl ⟨.inl ⟨.inl (by rw [RO.out]; exact CRJ.out.fails hjm (rc_2 H1.out (by omega) H2.out)), rfl⟩, below_six D8.out.bel D8.out.ne.1 _ _ _ _ _ _⟩
                  | some p2 =>
                    obtain ⟨n2, k2⟩ := p2
                    have H2 := hide h2
                    have l2 := tk_le' h2
                    rw [List.length_drop, nbs_length] at l2
                    clear h2
                    go_wp2_with fail
                    refine (rnumber_some s (w.heap.size + 1) (z + k1) n2 k2 _ D7.out.gs (by omega) HS.out H2.out).mono ?_
                    rintro r w8 ⟨rfl, g8, k8⟩
                    have D8 := hide (D7.out.reads g8 k8)
                    have OW8 := hide (owns_kb OW7.out k8 (own_ne' OW7.out D7.out.gs (by decide)))
                    clear g8 k8
                    have b2 : ¬ ((n2 : Int) < 0) := by omega
                    cases h3 : tk ((nbs s).drop (z + k1 + k2)) with
                    | none =>
                      have H3 := hide h3
                      clear h3
                      go_wp2_with fail
                      refine (rnumber_none s (w.heap.size + 1) (z + k1 + k2) _ D8.out.gs (by omega) HS.out H3.out).mono ?_
                      rintro r w9 ⟨rfl, g9, k9⟩
                      have D9 := hide (D8.out.reads g9 k9)
                      obtain ⟨⟨z0, z1, z2, z3, z4, z5⟩, f0, f1, f2, f3, f4, f5⟩ := six_cells D9.out.res
                      clear g9 k9
                      go_wp2_with fail
                      exact bodyPost_ret (results_row2 Try.results10 _ _ _ _ _ rfl rfl (loadVar_got (six_set D9.out.res _ _ _ _ _ _) rfl)) rfl ⟨.inl ⟨.inl (by rw [RO.out]; exact CRJ.out.fails hjm (rc_3 H1.out (by omega) H2.out H3.out)), rfl⟩, below_six D9.out.bel D9.out.ne.1 _ _ _ _ _ _⟩
                    | some p3 =>
                      obtain ⟨n3, k3⟩ := p3
                      have H3 := hide h3
                      have l3 := tk_le' h3
                      rw [List.length_drop, nbs_length] at l3
                      clear h3
                      go_wp2_with fail
                      refine (rnumber_some s (w.heap.size + 1) (z + k1 + k2) n3 k3 _ D8.out.gs (by omega) HS.out H3.out).mono ?_
                      rintro r w9 ⟨rfl, g9, k9⟩
                      have D9 := hide (D8.out.reads g9 k9)
                      have OW9 := hide (owns_kb OW8.out k9 (own_ne' OW8.out D8.out.gs (by decide)))
                      clear g9 k9
                      have b3 : ¬ ((n3 : Int) < 0) := by omega
                      have NX := hide (CRJ.out.goes (rc_4 H1.out (by omega) H2.out H3.out))
                      obtain ⟨x0, x1, x2, x3, x4⟩ := op_cells D9.out.op
                      have DA := hide (D9.out.below (below_alloc w9 (.cells #[.bool ((n1 : Int) == 1), .int .i64 (n2 : Int), .int .i64 (n3 : Int)] 58)))
                      have OWA := hide (owns_below OW9.out (below_alloc w9 (.cells #[.bool ((n1 : Int) == 1), .int .i64 (n2 : Int), .int .i64 (n3 : Int)] 58)))
                      clear D6 D7 D8 OW OW7 OW8
                      go_wp2_with (at_builtin; refine wpList_append_own _ rfl _ _ 22 rfl w.heap.size 58 i0 (.agg #[.bool false, .int .i64 0, .int .i64 0]) 3 24 Try.underlying22 INF.out.1 INF.out.2.1 INF.out.2.2.1 INF.out.2.2.2 rfl (by decide) _ _ _ rfl OWA.out ⟨w9.heap.size, 0, none⟩ 1 1 [.bool ((n1 : Int) == 1), .int .i64 (n2 : Int), .int .i64 (n3 : Int)] rfl rfl ?c1 ?c2 ?c3 ?c4 ?c5 ?_)
                      case c1 =>
                        intro i u hu
                        rw [Addr.add_lit, Nat.zero_add, cell_of (heap_new _ _)]
                        simpa using hu
                      case c2 => intro u hu; simp at hu; rcases hu with rfl | rfl | rfl <;> rfl
                      case c3 => unfold maxLen; omega
                      case c4 => omega
                      case c5 => exact DA.out.bel.size
                      intro v' wb hown hgrow _
                      obtain ⟨ob, cb, rfl⟩ := owns_slice hown
                      have DB := hide (DA.out.grown OWA.out hgrow)
                      have OWB := hide hown
                      clear hown hgrow
                      obtain ⟨u0, u1, u2, u3, u4⟩ := op_cells DB.out.op
                      have fo3 := frozen_of DB.out.op 3
                      clear D9 OW9 DA OWA
                      go_wp2_with fail
                      go_roundw
                      case rel =>
                        refine ⟨j + 1, z + k1 + k2 + k3, _, by omega, by go_num, by omega, NX.out.1, DB.out.set 3 _ rfl, ?_⟩
                        rw [NX.out.2, List.flatMap_append]
                        exact owns_kb OWB.out ((KB.refl O _).setCell 3 _) (own_ne' OWB.out DB.out.op (by decide))
                      case measure => simp [intOf]; omega
            · have hjm' : ¬ ((j : Int) < (m : Int)) := by omega
              obtain rfl : j = m := by omega
              obtain ⟨y0, y1, y2, y3, y4⟩ := op_cells D6.out.op
              have RC := hide CRJ.out.2
              have RZ := hide CRJ.out.1
              have LN := hide (rcs_len S false j)
              generalize hL : (rcs S false j).1 = L at CA LN RO
              generalize hB : (rcs S false j).2 = B at RC RZ RO
              rw [hL] at OW
              clear hL hB CRJ
              go_wp2_with fail
              refine (rcheck_len 6 0 0 L df oa j c p _ LN.out CA.out (by unfold maxLen; omega)).mono ?_
              rintro r w7 ⟨rfl, b7⟩
              have D7 := hide (D6.out.below b7)
              have OW7 := hide (owns_below OW.out b7)
              obtain ⟨⟨z0, z1, z2, z3, z4, z5⟩, f0, f1, f2, f3, f4, f5⟩ := six_cells D7.out.res
              obtain ⟨x0, x1, x2, x3, x4⟩ := op_cells D7.out.op
              have gc := cell_of D7.out.gs 5
              simp at gc
              clear b7
              cases hc : chk ⟨6, 0, 0, L, df⟩ p == 0
              · have hc' : (chk ⟨6, 0, 0, L, df⟩ p != 0) = true := by simp [bne, hc]
                have HC := hide hc
                clear hc
                go_wp2_with fail
                exact bodyPost_ret (results_row2 Try.results10 _ _ _ _ _ rfl rfl (loadVar_got (six_set D7.out.res _ _ _ _ _ _) rfl)) rfl ⟨.inl ⟨.inr (by rw [RO.out]; exact HC.out), rfl⟩, below_six D7.out.bel D7.out.ne.1 _ _ _ _ _ _⟩
              · have hc' : (chk ⟨6, 0, 0, L, df⟩ p != 0) = false := by simp [bne, hc]
                have HC : Hid (chk ⟨6, 0, 0, L, df⟩ p = 0) := by show _ = _; simpa using hc
                clear hc
                go_wp2_with fail
                go_region
                all_goals
                  go_wp2_with fail
                  refine bodyPost_ret (results_row2 Try.results10 _ _ _ _ _ rfl rfl (loadVar_got (heap_below (six_set D7.out.res _ _ _ _ _ _) (bdrew1 _)) rfl)) rfl ⟨.inr ⟨by rw [RO.out]; exact RC.out, by rw [RO.out]; exact HC.out, oa, c, z, hz, by rw [RO.out]; exact RZ.out, by rw [RO.out]; simp only [LN.out]; first | done | rfl | go_num, ?_⟩, btr (below_six D7.out.bel D7.out.ne.1 _ _ _ _ _ _) (bdrew1 _)⟩
                  rw [RO.out]
                  obtain ⟨oa', c', he, hcat⟩ := owns_cat LN.out (owns_kb OW7.out (((((((KB.refl w.heap.size w7).setCell 0 (.int .i64 6)).setCell 1 (.int .i64 0)).setCell 2 (.int .i64 0)).setCell 3 (.slice oa j c)).setCell 4 (.bool df)).setCell 5 (.int .i64 (z : Int))) (own_ne' OW7.out D7.out.res (by decide)))
                  cases he
                  exact ⟨hcat.below (bdrew1 _), fun a e => by subst e; exact (OW7.out.lt a.block rfl).1⟩
end De
end Go.Proofs.Ytocmdehpbipmlaa
/- The reference's Decode of whatever bytes, over this seat's program. -/
namespace Go.Proofs.Ytocmdehpbipmlaa
open Go.ChangeShapes Go.WideShapes Go.ChangeAt Go.RowKit
namespace De
open Ba Re

theorem rdecode_any (s : ByteArray) (p : Int) (w : World) (hp : okP p = true) (hs : s.size ≤ maxLen) :
    Calls Try.prog 10 #[.string s, .int .i64 p] w fun r w' => RD s p w.heap.size r w' ∧ Below w.heap.size w w' := by
  have one : ∀ n k : Nat, 1 ≤ n → n ≤ 9 → tk (nbs s) = some (n, k) → ((sA (n : Int) : Int) != 46) = true → ((sB (n : Int) : Int) != 46) = false → ((n : Int) == 6) = false → nf (n : Int) = 1 → Calls Try.prog 10 #[.string s, .int .i64 p] w fun r w' => RD s p w.heap.size r w' ∧ Below w.heap.size w w' := by
    intro n k h1 h9 ht hA hB h6 h0
    cases ha : tk ((nbs s).drop k) with
    | none => exact rdecode_1n s p w hp hs n k h1 h9 ht hA hB h6 h0 ha
    | some q =>
      obtain ⟨a, q⟩ := q
      exact rdecode_1 s p w hp hs n k h1 h9 ht hA hB h6 h0 a q ha
  have two : ∀ n k : Nat, 1 ≤ n → n ≤ 9 → tk (nbs s) = some (n, k) → ((sA (n : Int) : Int) != 46) = true → ((sB (n : Int) : Int) != 46) = true → ((n : Int) == 6) = false → nf (n : Int) = 2 → Calls Try.prog 10 #[.string s, .int .i64 p] w fun r w' => RD s p w.heap.size r w' ∧ Below w.heap.size w w' := by
    intro n k h1 h9 ht hA hB h6 h0
    cases ha : tk ((nbs s).drop k) with
    | none => exact rdecode_2n s p w hp hs n k h1 h9 ht hA hB h6 h0 ha
    | some q =>
      obtain ⟨a, q⟩ := q
      cases hb : tk ((nbs s).drop (k + q)) with
      | none => exact rdecode_2m s p w hp hs n k h1 h9 ht hA hB h6 h0 a q ha hb
      | some t =>
        obtain ⟨b, t⟩ := t
        exact rdecode_2 s p w hp hs n k h1 h9 ht hA hB h6 h0 a q ha b t hb
  cases ht : tk (nbs s) with
  | none => exact rdecode_n s p w hp hs ht
  | some q =>
    obtain ⟨n, k⟩ := q
    by_cases hx : n < 1 ∨ 9 < n
    · exact rdecode_x s p w hp hs n k ht hx
    · have h1 : 1 ≤ n := by omega
      have h9 : n ≤ 9 := by omega
      have hc : n = 1 ∨ n = 2 ∨ n = 3 ∨ n = 4 ∨ n = 5 ∨ n = 6 ∨ n = 7 ∨ n = 8 ∨ n = 9 := by omega
      rcases hc with rfl | rfl | rfl | rfl | rfl | rfl | rfl | rfl | rfl
      · exact one 1 k h1 h9 ht (by decide) (by decide) (by decide) (by decide)
      · exact two 2 k h1 h9 ht (by decide) (by decide) (by decide) (by decide)
      · exact two 3 k h1 h9 ht (by decide) (by decide) (by decide) (by decide)
      · exact one 4 k h1 h9 ht (by decide) (by decide) (by decide) (by decide)
      · exact one 5 k h1 h9 ht (by decide) (by decide) (by decide) (by decide)
      · exact rdecode_6 s p w hp hs k ht
      · exact one 7 k h1 h9 ht (by decide) (by decide) (by decide) (by decide)
      · exact one 8 k h1 h9 ht (by decide) (by decide) (by decide) (by decide)
      · exact rdecode_0 s p w hp hs 9 k h1 h9 ht (by decide) (by decide) (by decide) (by decide)
end De
end Go.Proofs.Ytocmdehpbipmlaa
/- The reference's tape, over this seat's program. -/
namespace Go.Proofs.Ytocmdehpbipmlaa
open Go.ChangeShapes Go.WideShapes Go.ChangeAt Go.RowKit
namespace Sh
open De Ba Re

/-- the tape in block G: of s so many bytes are read -/
def TS (w : World) (G : Nat) (s : ByteArray) (z : Nat) : Prop := w.heap[G]? = some (.cells #[.string s, .int .i64 (z : Int)] 94 (0, 0))
theorem TS.set {w : World} {G : Nat} {s : ByteArray} {z : Nat} (h : TS w G s z) (y : Nat) (x : Int) (hx : x = (y : Int)) : TS (w.setCell ⟨G, 1, none⟩ (.int .i64 x)) G s y := by
  subst hx
  exact (Ba.heap_setCell_same h _).trans rfl
theorem two_set {w : World} {b : Nat} {x0 x1 : Value} {t : TypeId} (h : w.heap[b]? = some (.cells #[x0, x1] t (0, 0))) (u0 u1 : Value) : ((w.setCell ⟨b, 0, none⟩ u0).setCell ⟨b, 1, none⟩ u1).heap[b]? = some (.cells #[u0, u1] t (0, 0)) := by
  rw [Ba.heap_setCell_same (Ba.heap_setCell_same h u0) u1]
  rfl
/-- what is taken lies in block X -/
structure XS (w wc : World) (G X : Nat) (s : ByteArray) (z : Nat) (v0 v1 : Value) (t : TypeId) : Prop where
  x : wc.heap[X]? = some (.cells #[v0, v1] t (0, 0))
  b : Below w.heap.size w wc
  n : w.heap.size ≤ X
theorem XS.one {w u1 : World} {G : Nat} {s : ByteArray} {z : Nat} {v0 v1 : Value} {t : TypeId} (b1 : Below w.drew.heap.size w.drew u1) : XS w (u1.alloc (.cells #[v0, v1] t)) G u1.heap.size s z v0 v1 t :=
  ⟨heap_new _ _, btr (btr (bdrew1 w) b1) (below_alloc _ _), b1.size⟩
theorem XS.two {w u1 : World} {G : Nat} {s : ByteArray} {z : Nat} {v0 v1 x0 x1 : Value} {t : TypeId} (hz : u1.heap[w.heap.size]? = some (.cells #[x0, x1] t (0, 0))) (hb : Below w.heap.size w u1) : XS w ((u1.setCell ⟨w.heap.size, 0, none⟩ v0).setCell ⟨w.heap.size, 1, none⟩ v1) G w.heap.size s z v0 v1 t :=
  ⟨two_set hz v0 v1, (hb.setCell (Nat.le_refl _) _).setCell (Nat.le_refl _) _, Nat.le_refl _⟩
set_option maxRecDepth 100000 in
set_option maxHeartbeats 1600000 in
theorem number_none (s : ByteArray) (G z : Nat)  (w : World) (h : TS w G s z) (hz : z ≤ s.size) (ht : tk ((nbs s).drop z) = none) :
    Calls Try.prog 49 #[.pointer (some ⟨G, 0, none⟩)] w fun r w' => r = .returned (.int .i64 (-1)) ∧ TS w' G s z ∧ De.KB G w w' := by
  have c0 := cell_of h 0
  have c1 := cell_of h 1
  simp at c0 c1
  have H := hide h
  have hG := De.heap_lt h
  have HT : Hid (tk (nbs (s.extract z s.size)) = none) := by show _ = _; rw [nsfx rfl]; exact ht
  clear h ht
  go_enter Try.func49, Try.ntmps49
  go_wp2_with fail
  go_cut [3, 4] (fun sx se wc => ∃ X, sx = .pointer (some ⟨X, 0, none⟩) ∧ se = .int .i64 4 ∧ XS w wc G X s z (.int .i64 0) (.int .i64 0) 113)
  case first =>
    go_region_with (go_at_call 64; refine (rtake_none _ HT.out _).mono ?_; rintro r u1 ⟨rfl, b1⟩; have B1 := hide b1; first | (have hz1 : u1.heap[w.heap.size]? = some (.cells #[.int .i64 0, .int .i64 0] 113 (0, 0)) := heap_below (heap_new w.drew (.cells #[.int .i64 0, .int .i64 0] 113)) b1; have z0 := cell_of hz1 0; have z1 := cell_of hz1 1; have y0 := frozen_of hz1 0; have y1 := frozen_of hz1 1; simp at z0 z1; have HZ := hide hz1; clear hz1 b1) | (have hz1 : u1.heap[w.heap.size]? = some (.cells #[.int .i64 0, .int .i64 0] 113 (0, 0)) := heap_below (show (w.alloc (.cells #[.int .i64 0, .int .i64 0] 113)).drew.heap[w.heap.size]? = _ from heap_new w (.cells #[.int .i64 0, .int .i64 0] 113)) b1; have z0 := cell_of hz1 0; have z1 := cell_of hz1 1; have y0 := frozen_of hz1 0; have y1 := frozen_of hz1 1; simp at z0 z1; have HZ := hide hz1; clear hz1 b1) | clear b1)
    all_goals
      go_wp2_with fail
      go_meet
      case rel =>
        first
          | exact ⟨_, rfl, rfl, XS.two HZ.out (btr (btr (bdrew1 w) (below_alloc _ _)) B1.out)⟩
          | exact ⟨_, rfl, rfl, XS.two HZ.out (btr (btr (below_alloc _ _) (bdrew1 _)) B1.out)⟩
          | exact ⟨_, rfl, rfl, XS.one B1.out⟩
  case rest =>
    clear c0 c1
    obtain ⟨X, rfl, rfl, xs⟩ := hcut
    have XX := hide xs
    clear xs
    go_wp2_with fail
    go_ret
    exact ⟨rfl, heap_below H.out XX.out.b, De.KB.of XX.out.b⟩

set_option maxRecDepth 100000 in
set_option maxHeartbeats 1600000 in
theorem number_some (s : ByteArray) (G z : Nat) (n k : Nat) (w : World) (h : TS w G s z) (hz : z ≤ s.size) (hs : s.size ≤ 5000000) (ht : tk ((nbs s).drop z) = some (n, k)) :
    Calls Try.prog 49 #[.pointer (some ⟨G, 0, none⟩)] w fun r w' => r = .returned (.int .i64 (n : Int)) ∧ TS w' G s (z + k) ∧ De.KB G w w' := by
  have c0 := cell_of h 0
  have c1 := cell_of h 1
  simp at c0 c1
  have H := hide h
  have hG := De.heap_lt h
  have hk := tk_le' ht
  rw [List.length_drop, nbs_length] at hk
  have HT : Hid (tk (nbs (s.extract z s.size)) = some (n, k)) := by show _ = _; rw [nsfx rfl]; exact ht
  clear h ht
  go_enter Try.func49, Try.ntmps49
  go_wp2_with fail
  go_cut [3, 4] (fun sx se wc => ∃ X, sx = .pointer (some ⟨X, 0, none⟩) ∧ se = .int .i64 0 ∧ XS w wc G X s z (.int .i64 (n : Int)) (.int .i64 (k : Int)) 113)
  case first =>
    go_region_with (go_at_call 64; refine (rtake_some _ n k HT.out _).mono ?_; rintro r u1 ⟨rfl, b1⟩; have B1 := hide b1; first | (have hz1 : u1.heap[w.heap.size]? = some (.cells #[.int .i64 0, .int .i64 0] 113 (0, 0)) := heap_below (heap_new w.drew (.cells #[.int .i64 0, .int .i64 0] 113)) b1; have z0 := cell_of hz1 0; have z1 := cell_of hz1 1; have y0 := frozen_of hz1 0; have y1 := frozen_of hz1 1; simp at z0 z1; have HZ := hide hz1; clear hz1 b1) | (have hz1 : u1.heap[w.heap.size]? = some (.cells #[.int .i64 0, .int .i64 0] 113 (0, 0)) := heap_below (show (w.alloc (.cells #[.int .i64 0, .int .i64 0] 113)).drew.heap[w.heap.size]? = _ from heap_new w (.cells #[.int .i64 0, .int .i64 0] 113)) b1; have z0 := cell_of hz1 0; have z1 := cell_of hz1 1; have y0 := frozen_of hz1 0; have y1 := frozen_of hz1 1; simp at z0 z1; have HZ := hide hz1; clear hz1 b1) | clear b1)
    all_goals
      go_wp2_with fail
      go_meet
      case rel =>
        first
          | exact ⟨_, rfl, rfl, XS.two HZ.out (btr (btr (bdrew1 w) (below_alloc _ _)) B1.out)⟩
          | exact ⟨_, rfl, rfl, XS.two HZ.out (btr (btr (below_alloc _ _) (bdrew1 _)) B1.out)⟩
          | exact ⟨_, rfl, rfl, XS.one B1.out⟩
  case rest =>
    clear c0 c1
    obtain ⟨X, rfl, rfl, xs⟩ := hcut
    have XX := hide xs
    have H2 := hide (heap_below H.out xs.b)
    have d1 := cell_of H2.out 1
    have f1 := frozen_of H2.out 1
    have e0 := cell_of xs.x 0
    have e1 := cell_of xs.x 1
    have hGX : G ≠ X := by have := xs.n; omega
    simp at d1 e0 e1
    clear xs
    go_wp2_with fail
    go_region
    all_goals
      go_wp2_with fail
      go_ret
      exact ⟨rfl, heap_below (TS.set H2.out (z + k) _ (by omega)) (bdrew1 _), ((De.KB.of XX.out.b).setCell 1 _).trans (De.KB.of (bdrew1 _))⟩

end Sh
end Go.Proofs.Ytocmdehpbipmlaa
/- The reference's tape: lists, over this seat's program. -/

namespace Go.Proofs.Ytocmdehpbipmlaa
open Go.ChangeShapes Go.WideShapes Go.ChangeAt Go.RowKit
namespace Re
open Ba
set_option maxRecDepth 100000 in
set_option maxHeartbeats 3200000 in
theorem rtakelist_loop2 (s : ByteArray) (most : Int) (n k : Nat) (w : World) (h : tk (nbs s) = some (n, k)) (hm : (n : Int) ≤ most) (hs : s.size ≤ 5000000) :
    Calls Try.prog 74 #[.string s, .int .i64 most] w fun r w' => ((tst ((nbs s).drop k) n = none ∧ r = .returned (.tuple #[.agg #[.slice none 0 0, .int .i64 0], .int .i64 4])) ∨ ∃ xs o oa c, tst ((nbs s).drop k) n = some (xs, o) ∧ r = .returned (.tuple #[.agg #[.slice oa n c, .int .i64 ((k + o : Nat) : Int)], .int .i64 0]) ∧ At w' oa xs ∧ ∀ a, oa = some a → w.heap.size ≤ a.block) ∧ Below w.heap.size w w' := by
  have H := hide h
  have hk := tk_le h
  rw [nbs_length] at hk
  have hd : decide (most < (n : Int)) = false := by simp; omega
  obtain ⟨i0, hi, hz0, hz1, hz2⟩ := info_parts info_int
  have INF := hide (And.intro hi (And.intro hz0 (And.intro hz1 hz2)))
  clear hi hz0 hz1 hz2 h hm
  go_enter Try.func74, Try.ntmps74
  go_wp2_with fail
  refine (rtake_some s n k H.out _).mono ?_
  rintro r w1 ⟨rfl, b1⟩
  have HR := heap_below (heap_new w (.cells #[.slice none 0 0, .int .i64 0] 129)) b1
  have hR := heap_lt HR
  have BT := btr (below_alloc w1 (.cells #[.int .i64 (n : Int), .int .i64 (k : Int)] 113)) (below_alloc (w1.alloc (.cells #[.int .i64 (n : Int), .int .i64 (k : Int)] 113)) (.cells #[.slice none 0 0, .int .i64 (k : Int)] 129))
  have ho := heap_new (w1.alloc (.cells #[.int .i64 (n : Int), .int .i64 (k : Int)] 113)) (.cells #[.slice none 0 0, .int .i64 (k : Int)] 129)
  rw [World.size_alloc] at ho
  have L0 : Hid (LK w ((w1.alloc (.cells #[.int .i64 (n : Int), .int .i64 (k : Int)] 113)).alloc (.cells #[.slice none 0 0, .int .i64 (k : Int)] 129)) w.heap.size w1.heap.size n k (.slice none 0 0) k []) :=
    ⟨heap_below HR BT, heap_below (heap_new _ _) (below_alloc _ _), ho, World.ownsRow_nil _ _ _ _, hR, Nat.le_refl _, btr (btr (below_alloc _ _) b1) BT⟩
  clear b1 HR BT ho
  go_wp2_with fail
  generalize ((w1.alloc (.cells #[.int .i64 (n : Int), .int .i64 (k : Int)] 113)).alloc (.cells #[.slice none 0 0, .int .i64 (k : Int)] 129)) = W at L0 ⊢
  go_loopw [9] (fun i wr => ∃ (j o : Nat) (xs : List Int) (v : Value), j ≤ n ∧ i = .int .i64 (j : Int) ∧ tst ((nbs s).drop k) j = some (xs, o) ∧ LK w wr w.heap.size w1.heap.size n k v (k + o) xs) (fun i _ => n - (intOf i).toNat)
  case atStart => exact ⟨0, 0, [], _, Nat.zero_le _, rfl, rfl, L0.out⟩
  case round =>
    clear L0
    obtain ⟨j, o, xs, v, hj, rfl, ht, hlk⟩ := hrel
    have c2 := cell_of hlk.head 0
    have c3 := cell_of hlk.out 0
    have c4 := cell_of hlk.out 1
    have f3 := frozen_of hlk.out 0
    have f4 := frozen_of hlk.out 1
    simp at c2 c3 c4
    have HT := hide ht
    have LL := hide hlk
    have xl := tst_some ht
    rw [List.length_drop, nbs_length] at xl
    by_cases hjn : j < n
    · have hjn' : decide ((j : Int) < (n : Int)) = true := by simp; omega
      cases htk : tk (((nbs s).drop k).drop o) with
      | none =>
        have TK := hide htk
        clear htk ht hlk
        go_wp2_with fail
        refine (rtake_none (s.extract (k + o) s.size) (by rw [nbs_sfx, ← List.drop_drop]; exact TK.out) _).mono ?_
        rintro r w2 ⟨rfl, b2⟩
        have L2 := hide (LL.out.below b2)
        have r0 := cell_of L2.out.res 0
        have r1 := cell_of L2.out.res 1
        have g0 := frozen_of L2.out.res 0
        have g1 := frozen_of L2.out.res 1
        have rlt := heap_lt L2.out.res
        simp at r0 r1
        clear b2
        go_wp2_with fail
        exact bodyPost_ret (results_row2 Try.results74 _ _ _ _ _ rfl rfl (loadVar_list (heap_below (two_set L2.out.res _ _) (below_alloc _ _)) rfl)) rfl ⟨.inl ⟨tst_stop HT.out TK.out n hjn, rfl⟩, btr ((L2.out.bel.setCell (Nat.le_refl _) _).setCell (Nat.le_refl _) _) (below_alloc _ _)⟩
      | some p =>
        obtain ⟨x, q⟩ := p
        have TK := hide htk
        have hx := tk_bound htk
        have hq := tk_le htk
        rw [List.length_drop, List.length_drop, nbs_length] at hq
        clear htk ht hlk
        go_wp2_with fail
        refine (rtake_some (s.extract (k + o) s.size) x q (by rw [nbs_sfx, ← List.drop_drop]; exact TK.out) _).mono ?_
        rintro r w2 ⟨rfl, b2⟩
        have L2 := hide (LL.out.below b2)
        have o0 := cell_of L2.out.out 0
        have o1 := cell_of L2.out.out 1
        have g0 := frozen_of L2.out.out 0
        have g1 := frozen_of L2.out.out 1
        have olt := heap_lt L2.out.out
        simp at o0 o1
        clear b2
        have L3 := hide (L2.out.below (btr (below_alloc w2 (.cells #[.int .i64 (x : Int), .int .i64 (q : Int)] 113)) (below_alloc (w2.alloc (.cells #[.int .i64 (x : Int), .int .i64 (q : Int)] 113)) (.cells #[.int .i64 (x : Int)] 3))))
        have T3 := hide (heap_below (heap_new w2 (.cells #[.int .i64 (x : Int), .int .i64 (q : Int)] 113)) (below_alloc (w2.alloc (.cells #[.int .i64 (x : Int), .int .i64 (q : Int)] 113)) (.cells #[.int .i64 (x : Int)] 3)))
        have N3 := hide (tst_next HT.out TK.out)
        go_wp2_with (at_builtin; refine wpList_append_own _ rfl _ _ 36 rfl (w1.heap.size + 2) 3 i0 (.int .i64 0) 1 8 Try.underlying36 INF.out.1 INF.out.2.1 INF.out.2.2.1 INF.out.2.2.2 rfl (by decide) _ _ _ rfl L3.out.own ⟨w2.heap.size + 1, 0, none⟩ 1 1 [.int .i64 (x : Int)] rfl rfl ?c1 ?c2 ?c3 ?c4 ?c5 ?_)
        case c1 =>
          intro j' u hj'
          match j', hj' with
          | 0, hj' =>
            simp at hj'
            subst hj'
            have := cell_of (heap_new (w2.alloc (.cells #[.int .i64 (x : Int), .int .i64 (q : Int)] 113)) (.cells #[.int .i64 (x : Int)] 3)) 0
            rw [World.size_alloc] at this
            rw [Addr.add_lit]
            exact this
        case c2 => intro u hu; simp at hu; subst hu; rfl
        case c3 => unfold maxLen; omega
        case c4 => omega
        case c5 => simp; omega
        intro v' w3 hown0 hgrow _
        have hown' : w3.ownsRow (w1.heap.size + 2) 3 1 v' (xs ++ [(x : Int)]).length ((xs ++ [(x : Int)]).map (Value.int .i64)) := by
          rw [List.map_append, List.length_append, xl.1]
          exact hown0
        clear hown0
        obtain ⟨oa', c', hv', _⟩ := owns_at hown'
        subst hv'
        have hlt2 := L2.out.own.lt
        have t1 := cell_of ((hgrow.block w2.heap.size (by simp; omega) (fun e => by have := (hlt2 _ e.symm).2; omega)).trans T3.out) 1
        have ne : ∀ b, b < w1.heap.size + 2 → some b ≠ v.ownBlock := fun b hb e => by
          have := (hlt2 b e.symm).1
          omega
        have p3 := (hgrow.block (w1.heap.size + 1) (by simp; omega) (ne _ (by omega))).trans L3.out.out
        have o2 := cell_of p3 0
        have o3 := cell_of p3 1
        have g2 := frozen_of p3 0
        have g3 := frozen_of p3 1
        simp at t1 o2 o3
        have L4 : Hid (LK w ((w3.setCell ⟨w1.heap.size + 1, 0, none⟩ (.slice oa' (xs ++ [(x : Int)]).length c')).setCell ⟨w1.heap.size + 1, 1, none⟩ (.int .i64 ((k + (o + q) : Nat) : Int))) w.heap.size w1.heap.size n k (.slice oa' (xs ++ [(x : Int)]).length c') (k + (o + q)) (xs ++ [(x : Int)])) := L3.out.grown hgrow hown' (k + (o + q))
        rw [show (xs ++ [(x : Int)]).length = j + 1 by simp [xl.1]] at L4
        clear hown' hgrow p3 ne hlt2
        go_wp2_with fail
        go_roundw
        case rel => exact ⟨j + 1, o + q, xs ++ [(x : Int)], _, by omega, by go_num, N3.out, by
            rw [show ((k : Int) + (o : Int) + (q : Int)) = ((k + (o + q) : Nat) : Int) by omega]
            exact L4.out⟩
        case measure => simp [intOf]; omega
    · have hjn' : decide ((j : Int) < (n : Int)) = false := by simp; omega
      have e : j = n := by omega
      subst e
      have r0 := cell_of hlk.res 0
      have r1 := cell_of hlk.res 1
      have g0 := frozen_of hlk.res 0
      have g1 := frozen_of hlk.res 1
      simp at r0 r1
      obtain ⟨oa, c, hv, hat⟩ := owns_at hlk.own
      rw [xl.1] at hv
      subst hv
      have OB : Hid (∀ a, oa = some a → w.heap.size ≤ a.block) := by
        rintro a rfl
        have q1 := (hlk.own.lt a.block rfl).1
        have q2 := hlk.lt
        have q3 := hlk.ge
        omega
      have AT2 : Hid (At ((wr.setCell ⟨w.heap.size, 0, none⟩ (.slice oa j c)).setCell ⟨w.heap.size, 1, none⟩ (.int .i64 ((k + o : Nat) : Int))) oa xs) := by
        have q1 := owns_setCell (owns_setCell hlk.own w.heap.size 0 (by have := hlk.lt; omega) (.slice oa j c)) w.heap.size 1 (by have := hlk.lt; omega) (.int .i64 ((k + o : Nat) : Int))
        obtain ⟨oa', c', hv', hat'⟩ := owns_at q1
        simp at hv'
        obtain ⟨rfl, _, rfl⟩ := hv'
        exact hat'
      clear ht hlk hat
      go_wp2_with fail
      exact bodyPost_ret (results_row2 Try.results74 _ _ _ _ _ rfl rfl (loadVar_list (two_set LL.out.res _ _) rfl)) rfl ⟨.inr ⟨xs, o, oa, c, HT.out, rfl, AT2.out, OB.out⟩, (LL.out.bel.setCell (Nat.le_refl _) _).setCell (Nat.le_refl _) _⟩

theorem rtakelist_ok2 (s : ByteArray) (most : Int) (xs : List Int) (z : Nat) (w : World) (h : tl (nbs s) most = .ok (xs, z)) (hs : s.size ≤ 5000000) :
    Calls Try.prog 74 #[.string s, .int .i64 most] w fun r w' => ∃ oa c, r = .returned (.tuple #[.agg #[.slice oa xs.length c, .int .i64 (z : Int)], .int .i64 0]) ∧ (At w' oa xs ∧ ∀ a, oa = some a → w.heap.size ≤ a.block) ∧ Below w.heap.size w w' := by
  unfold tl at h
  cases ht : tk (nbs s) with
  | none => rw [ht] at h; simp at h
  | some p =>
    obtain ⟨n, k⟩ := p
    rw [ht] at h
    simp only at h
    by_cases hm : most < (n : Int)
    · rw [if_pos hm] at h; simp at h
    · rw [if_neg hm] at h
      cases hq : tst ((nbs s).drop k) n with
      | none => rw [hq] at h; simp at h
      | some p =>
        obtain ⟨ys, o⟩ := p
        rw [hq] at h
        simp at h
        obtain ⟨rfl, rfl⟩ := h
        have hl := tst_some hq
        refine (rtakelist_loop2 s most n k w ht (by omega) hs).mono ?_
        rintro r w' ⟨⟨q, _⟩ | ⟨xs, o', oa, c, q, rfl, hA⟩, hb⟩
        · rw [hq] at q; cases q
        · rw [hq] at q
          simp at q
          obtain ⟨rfl, rfl⟩ := q
          rw [hl.1]
          exact ⟨oa, c, rfl, hA, hb⟩
end Re
namespace Sh
open De Ba Re
theorem tkb_at {R : Nat} {w w' : World} {oa : Option Addr} {l : List Int} (k : De.KB R w w') (h : At w oa l) (hb : ∀ a, oa = some a → a.block ≠ R) : At w' oa l := by
  intro j hj
  obtain ⟨b, off, rfl, hc⟩ := h j hj
  exact ⟨b, off, rfl, kb_cell k hc (hb _ rfl)⟩
theorem AF.one {w u1 : World} {oa : Option Addr} {xs : List Int} (h : At u1 oa xs) (hb : ∀ a, oa = some a → w.drew.heap.size ≤ a.block) (o : Obj) : At (u1.alloc o) oa xs ∧ ∀ a, oa = some a → w.heap.size ≤ a.block := ⟨h.below (below_alloc _ _), hb⟩
theorem AF.two {w u1 : World} {oa : Option Addr} {xs : List Int} (h : At u1 oa xs) (hb : ∀ a, oa = some a → w.heap.size + 1 ≤ a.block) (v0 v1 : Value) : At ((u1.setCell ⟨w.heap.size, 0, none⟩ v0).setCell ⟨w.heap.size, 1, none⟩ v1) oa xs ∧ ∀ a, oa = some a → w.heap.size ≤ a.block :=
  ⟨tkb_at (((De.KB.refl w.heap.size u1).setCell 0 v0).setCell 1 v1) h (fun a e => by have := hb a e; omega), fun a e => by have := hb a e; omega⟩
set_option maxRecDepth 100000 in
set_option maxHeartbeats 1600000 in
theorem tlist_no (s : ByteArray) (G z : Nat) (most e : Int) (w : World) (h : TS w G s z) (hz : z ≤ s.size) (hs : s.size ≤ 5000000) (ht : tl ((nbs s).drop z) most = .error e) (he : e ≠ 0) :
    Calls Try.prog 50 #[.pointer (some ⟨G, 0, none⟩), .int .i64 most] w fun r w' => r = .returned (.tuple #[.slice none 0 0, .bool false]) ∧ TS w' G s z ∧ De.KB G w w' := by
  have c0 := cell_of h 0
  have c1 := cell_of h 1
  simp at c0 c1
  have H := hide h
  have hG := De.heap_lt h
  have HT : Hid (tl (nbs (s.extract z s.size)) most = .error e) := by show _ = _; rw [nsfx rfl]; exact ht
  have HSZ : Hid ((s.extract z s.size).size ≤ 5000000) := by show _ ≤ _; rw [ByteArray.size_extract]; omega
  clear h ht
  go_enter Try.func50, Try.ntmps50
  go_wp2_with fail
  go_cut [6, 7] (fun sx se wc => ∃ X, sx = .pointer (some ⟨X, 0, none⟩) ∧ se = .int .i64 e ∧ XS w wc G X s z (.slice none 0 0) (.int .i64 0) 129)
  case first =>
    go_region_with (go_at_call 74; refine (rtakelist_err _ most e _ HT.out HSZ.out).mono ?_; rintro r u1 ⟨rfl, b1⟩; have B1 := hide b1; first | (have hz1 : u1.heap[w.heap.size]? = some (.cells #[.slice none 0 0, .int .i64 0] 129 (0, 0)) := heap_below (heap_new w.drew (.cells #[.slice none 0 0, .int .i64 0] 129)) b1; have z0 := cell_of hz1 0; have z1 := cell_of hz1 1; have y0 := frozen_of hz1 0; have y1 := frozen_of hz1 1; simp at z0 z1; have HZ := hide hz1; clear hz1 b1) | (have hz1 : u1.heap[w.heap.size]? = some (.cells #[.slice none 0 0, .int .i64 0] 129 (0, 0)) := heap_below (show (w.alloc (.cells #[.slice none 0 0, .int .i64 0] 129)).drew.heap[w.heap.size]? = _ from heap_new w (.cells #[.slice none 0 0, .int .i64 0] 129)) b1; have z0 := cell_of hz1 0; have z1 := cell_of hz1 1; have y0 := frozen_of hz1 0; have y1 := frozen_of hz1 1; simp at z0 z1; have HZ := hide hz1; clear hz1 b1) | clear b1)
    all_goals
      go_wp2_with fail
      go_meet
      case rel =>
        first
          | exact ⟨_, rfl, rfl, XS.two HZ.out (btr (btr (bdrew1 w) (below_alloc _ _)) B1.out)⟩
          | exact ⟨_, rfl, rfl, XS.two HZ.out (btr (btr (below_alloc _ _) (bdrew1 _)) B1.out)⟩
          | exact ⟨_, rfl, rfl, XS.one B1.out⟩
  case rest =>
    clear c0 c1
    obtain ⟨X, rfl, rfl, xs'⟩ := hcut
    have XX := hide xs'
    have hne : ((e : Int) != 0) = true := by simpa using he
    clear xs'
    go_wp2_with fail
    go_ret2
    exact ⟨rfl, heap_below H.out XX.out.b, De.KB.of XX.out.b⟩

set_option maxRecDepth 100000 in
set_option maxHeartbeats 1600000 in
theorem tlist_ok (s : ByteArray) (G z : Nat) (most : Int) (xs : List Int) (k : Nat) (w : World) (h : TS w G s z) (hz : z ≤ s.size) (hs : s.size ≤ 5000000) (ht : tl ((nbs s).drop z) most = .ok (xs, k)) :
    Calls Try.prog 50 #[.pointer (some ⟨G, 0, none⟩), .int .i64 most] w fun r w' => ∃ oa c, r = .returned (.tuple #[.slice oa xs.length c, .bool true]) ∧ (At w' oa xs ∧ ∀ a, oa = some a → w.heap.size ≤ a.block) ∧ TS w' G s (z + k) ∧ De.KB G w w' := by
  have c0 := cell_of h 0
  have c1 := cell_of h 1
  simp at c0 c1
  have H := hide h
  have hG := De.heap_lt h
  have hk := tl_size ht
  rw [List.length_drop, nbs_length] at hk
  have HT : Hid (tl (nbs (s.extract z s.size)) most = .ok (xs, k)) := by show _ = _; rw [nsfx rfl]; exact ht
  have HSZ : Hid ((s.extract z s.size).size ≤ 5000000) := by show _ ≤ _; rw [ByteArray.size_extract]; omega
  clear h ht
  go_enter Try.func50, Try.ntmps50
  go_wp2_with fail
  go_cut [6, 7] (fun sx se wc => ∃ oa c X, sx = .pointer (some ⟨X, 0, none⟩) ∧ se = .int .i64 0 ∧ (At wc oa xs ∧ ∀ a, oa = some a → w.heap.size ≤ a.block) ∧ XS w wc G X s z (.slice oa xs.length c) (.int .i64 (k : Int)) 129)
  case first =>
    go_region_with (go_at_call 74; refine (rtakelist_ok2 _ most xs k _ HT.out HSZ.out).mono ?_; rintro r u1 ⟨oa, c, rfl, hA1, b1⟩; have B1 := hide b1; first | (have hz1 : u1.heap[w.heap.size]? = some (.cells #[.slice none 0 0, .int .i64 0] 129 (0, 0)) := heap_below (heap_new w.drew (.cells #[.slice none 0 0, .int .i64 0] 129)) b1; have z0 := cell_of hz1 0; have z1 := cell_of hz1 1; have y0 := frozen_of hz1 0; have y1 := frozen_of hz1 1; simp at z0 z1; have HZ := hide hz1; clear hz1 b1) | (have hz1 : u1.heap[w.heap.size]? = some (.cells #[.slice none 0 0, .int .i64 0] 129 (0, 0)) := heap_below (show (w.alloc (.cells #[.slice none 0 0, .int .i64 0] 129)).drew.heap[w.heap.size]? = _ from heap_new w (.cells #[.slice none 0 0, .int .i64 0] 129)) b1; have z0 := cell_of hz1 0; have z1 := cell_of hz1 1; have y0 := frozen_of hz1 0; have y1 := frozen_of hz1 1; simp at z0 z1; have HZ := hide hz1; clear hz1 b1) | clear b1)
    all_goals
      go_wp2_with fail
      go_meet
      case rel =>
        first
          | exact ⟨oa, c, _, rfl, rfl, AF.two hA1.1 (fun a e => by have := hA1.2 a e; simp at this; omega) _ _, XS.two HZ.out (btr (btr (bdrew1 w) (below_alloc _ _)) B1.out)⟩
          | exact ⟨oa, c, _, rfl, rfl, AF.two hA1.1 (fun a e => by have := hA1.2 a e; simp at this; omega) _ _, XS.two HZ.out (btr (btr (below_alloc _ _) (bdrew1 _)) B1.out)⟩
          | exact ⟨oa, c, _, rfl, rfl, AF.one hA1.1 hA1.2 _, XS.one B1.out⟩
  case rest =>
    clear c0 c1
    obtain ⟨oa, c, X, rfl, rfl, ⟨hA, hoa⟩, xs'⟩ := hcut
    have XX := hide xs'
    have HA := hide hA
    have HO := hide hoa
    have H2 := hide (heap_below H.out xs'.b)
    have d1 := cell_of H2.out 1
    have f1 := frozen_of H2.out 1
    have e0 := cell_of xs'.x 0
    have e1 := cell_of xs'.x 1
    have hGX : G ≠ X := by have := xs'.n; omega
    simp at d1 e0 e1
    clear xs' hA hoa
    go_wp2_with fail
    go_region
    all_goals
      go_wp2_with fail
      go_ret2
      exact ⟨oa, c, rfl, ⟨tkb_at (((De.KB.refl G wc).setCell 1 _).trans (De.KB.of (bdrew1 _))) HA.out (fun a e => by have := HO.out a e; omega), HO.out⟩, heap_below (TS.set H2.out (z + k) _ (by omega)) (bdrew1 _), ((De.KB.of XX.out.b).setCell 1 _).trans (De.KB.of (bdrew1 _))⟩

end Sh
end Go.Proofs.Ytocmdehpbipmlaa
