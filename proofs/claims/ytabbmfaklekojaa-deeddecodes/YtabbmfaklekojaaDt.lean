/- The reference's Decode: what it answers, plain; and its walk but for a select, over this seat's program. -/
import Derived.Test.YtabbmfaklekojaaDs
namespace Go.Proofs.Ytabbmfaklekojaa
open Go.ChangeShapes Go.WideShapes Go.ChangeAt Go.RowKit
namespace De
open Ba Re

theorem sx0 (s : ByteArray) : s.extract 0 s.size = s := nbs_inj (by rw [nsfx rfl]; rfl)
theorem sxsx (s : ByteArray) (a b : Nat) : (s.extract a s.size).extract b (s.extract a s.size).size = s.extract (a + b) s.size := nbs_inj (by rw [nsfx (nsfx rfl a), nsfx rfl, List.drop_drop])
theorem rx_n {s : ByteArray} {z : Nat} (h : tk ((nbs s).drop z) = none) : rnum (s.extract z s.size) false = (0, bs [], true) := rnum_n (by rw [nsfx rfl]; exact h)
theorem rx_s {s : ByteArray} {z n k : Nat} (h : tk ((nbs s).drop z) = some (n, k)) : rnum (s.extract z s.size) false = ((n : Int), s.extract (z + k) s.size, false) := by
  rw [rnum_s (s := s.extract z s.size) (n := n) (k := k) (by rw [nsfx rfl]; exact h), sxsx]
theorem rup_t (m : Int) (s : ByteArray) : rup m s true = (0, s, true) := by
  simp [rup, rnum_t]
theorem rop_kind (s : ByteArray) (f : Bool) : (rop s f).1.kind = (rnum s f).1 := by
  unfold rop
  cases h : (rnum s f).1 == 6 <;> simp [h]
theorem rop_none {s : ByteArray} (h : tk (nbs s) = none) : (rop s false).2.2 = true := by
  unfold rop
  rw [rnum_n h]
  rfl
theorem rop_0 {s : ByteArray} {n k : Nat} (h : tk (nbs s) = some (n, k)) (h0 : nf (n : Int) = 0) (h6 : ((n : Int) == 6) = false) : rop s false = (⟨(n : Int), 0, 0, [], false⟩, s.extract k s.size, false) := by
  unfold rop
  rw [rnum_s h]
  simp only [h0, h6, rf, cond_false]
theorem rop_1n {s : ByteArray} {n k : Nat} (h : tk (nbs s) = some (n, k)) (h0 : nf (n : Int) = 1) (h6 : ((n : Int) == 6) = false) (ha : tk ((nbs s).drop k) = none) : (rop s false).2.2 = true := by
  unfold rop
  rw [rnum_s h]
  simp only [h0, h6, rf, cond_false, rx_n ha]
theorem rop_1 {s : ByteArray} {n k a q : Nat} (h : tk (nbs s) = some (n, k)) (h0 : nf (n : Int) = 1) (h6 : ((n : Int) == 6) = false) (ha : tk ((nbs s).drop k) = some (a, q)) : rop s false = (⟨(n : Int), (a : Int), 0, [], false⟩, s.extract (k + q) s.size, false) := by
  unfold rop
  rw [rnum_s h]
  simp only [h0, h6, rf, cond_false, rx_s ha]
theorem rop_2n {s : ByteArray} {n k : Nat} (h : tk (nbs s) = some (n, k)) (h0 : nf (n : Int) = 2) (h6 : ((n : Int) == 6) = false) (ha : tk ((nbs s).drop k) = none) : (rop s false).2.2 = true := by
  unfold rop
  rw [rnum_s h]
  simp only [h0, h6, rf, cond_false, rx_n ha, rnum_t]
theorem rop_2m {s : ByteArray} {n k a q : Nat} (h : tk (nbs s) = some (n, k)) (h0 : nf (n : Int) = 2) (h6 : ((n : Int) == 6) = false) (ha : tk ((nbs s).drop k) = some (a, q)) (hb : tk ((nbs s).drop (k + q)) = none) : (rop s false).2.2 = true := by
  unfold rop
  rw [rnum_s h]
  simp only [h0, h6, rf, cond_false, rx_s ha, rx_n hb]
theorem rop_2 {s : ByteArray} {n k a q b r : Nat} (h : tk (nbs s) = some (n, k)) (h0 : nf (n : Int) = 2) (h6 : ((n : Int) == 6) = false) (ha : tk ((nbs s).drop k) = some (a, q)) (hb : tk ((nbs s).drop (k + q)) = some (b, r)) : rop s false = (⟨(n : Int), (a : Int), (b : Int), [], false⟩, s.extract (k + q + r) s.size, false) := by
  unfold rop
  rw [rnum_s h]
  simp only [h0, h6, rf, cond_false, rx_s ha, rx_s hb]

/-- what the reference's Decode answers where the number of programs is one -/
def RD (s : ByteArray) (p : Int) (r : Ending) (w' : World) : Prop :=
  (((rop s false).2.2 = true ∨ (chk (rop s false).1 p == 0) = false) ∧ r = .returned (.tuple #[.agg #[.int .i64 0, .int .i64 0, .int .i64 0, .slice none 0 0, .bool false, .int .i64 0], .int .i64 4])) ∨
  ((rop s false).2.2 = false ∧ chk (rop s false).1 p = 0 ∧ ∃ oa c z, z ≤ s.size ∧ (rop s false).2.1 = s.extract z s.size ∧ r = .returned (.tuple #[.agg #[.int .i64 (rop s false).1.kind, .int .i64 (rop s false).1.a, .int .i64 (rop s false).1.b, .slice oa (rop s false).1.cases.length c, .bool (rop s false).1.def_, .int .i64 (z : Int)], .int .i64 0]) ∧ CAt w' oa (rop s false).1.cases)

theorem size_got : (Try.prog.info? 29).map (·.size) = some 6 := by kernel_rfl
theorem loadVar_got {w : World} {b : Nat} {c : Array Value} {t : TypeId} (h : w.heap[b]? = some (.cells c t (0, 0))) (hc : c.size = 6) : (loadVar 29 ⟨b, 0, none⟩).run Try.prog w = .ok (.agg c) w :=
  run_loadVar_row w b t _ _ _ _ h Try.underlying29 rfl (by rw [size_got, hc])
theorem six_set {w : World} {b : Nat} {x0 x1 x2 x3 x4 x5 : Value} {t : TypeId} (h : w.heap[b]? = some (.cells #[x0, x1, x2, x3, x4, x5] t (0, 0))) (u0 u1 u2 u3 u4 u5 : Value) : ((((((w.setCell ⟨b, 0, none⟩ u0).setCell ⟨b, 1, none⟩ u1).setCell ⟨b, 2, none⟩ u2).setCell ⟨b, 3, none⟩ u3).setCell ⟨b, 4, none⟩ u4).setCell ⟨b, 5, none⟩ u5).heap[b]? = some (.cells #[u0, u1, u2, u3, u4, u5] t (0, 0)) := by
  rw [Ba.heap_setCell_same (Ba.heap_setCell_same (Ba.heap_setCell_same (Ba.heap_setCell_same (Ba.heap_setCell_same (Ba.heap_setCell_same h u0) u1) u2) u3) u4) u5]
  rfl
theorem six_cells {w : World} {b : Nat} {x0 x1 x2 x3 x4 x5 : Value} {t : TypeId} (h : w.heap[b]? = some (.cells #[x0, x1, x2, x3, x4, x5] t (0, 0))) : (w.cell? ⟨b, 0, none⟩ = some x0 ∧ w.cell? ⟨b, 1, none⟩ = some x1 ∧ w.cell? ⟨b, 2, none⟩ = some x2 ∧ w.cell? ⟨b, 3, none⟩ = some x3 ∧ w.cell? ⟨b, 4, none⟩ = some x4 ∧ w.cell? ⟨b, 5, none⟩ = some x5) ∧ w.frozen? ⟨b, 0, none⟩ = false ∧ w.frozen? ⟨b, 1, none⟩ = false ∧ w.frozen? ⟨b, 2, none⟩ = false ∧ w.frozen? ⟨b, 3, none⟩ = false ∧ w.frozen? ⟨b, 4, none⟩ = false ∧ w.frozen? ⟨b, 5, none⟩ = false :=
  ⟨⟨cell_of h 0, cell_of h 1, cell_of h 2, cell_of h 3, cell_of h 4, cell_of h 5⟩, frozen_of h 0, frozen_of h 1, frozen_of h 2, frozen_of h 3, frozen_of h 4, frozen_of h 5⟩

theorem below_six {w a : World} {Z : Nat} (h : Below w.heap.size w a) (hZ : w.heap.size ≤ Z) (u0 u1 u2 u3 u4 u5 : Value) : Below w.heap.size w ((((((a.setCell ⟨Z, 0, none⟩ u0).setCell ⟨Z, 1, none⟩ u1).setCell ⟨Z, 2, none⟩ u2).setCell ⟨Z, 3, none⟩ u3).setCell ⟨Z, 4, none⟩ u4).setCell ⟨Z, 5, none⟩ u5) :=
  (((((h.setCell hZ _).setCell hZ _).setCell hZ _).setCell hZ _).setCell hZ _).setCell hZ _
theorem chk_neg (k a b : Int) (cs : List Cs) (d : Bool) (p : Int) (h : a < 0 ∨ b < 0) : (chk ⟨k, a, b, cs, d⟩ p == 0) = false := by
  cases hc : chk ⟨k, a, b, cs, d⟩ p == 0
  · rfl
  · have := chk_zero (o := ⟨k, a, b, cs, d⟩) (p := p) (by simpa using hc)
    simp only at this
    omega


set_option maxRecDepth 100000 in
set_option maxHeartbeats 3200000 in
theorem rdecode_0 (s : ByteArray) (p : Int) (w : World) (hp : okP p = true) (hs : s.size ≤ maxLen) (n k : Nat) (h1 : 1 ≤ n) (h9 : n ≤ 9) (ht : tk (nbs s) = some (n, k)) (hA : ((sA (n : Int) : Int) != 46) = false) (hB : ((sB (n : Int) : Int) != 46) = false) (h6 : ((n : Int) == 6) = false) (h0 : nf (n : Int) = 0) :
    Calls Try.prog 10 #[.string s, .int .i64 p] w fun r w' => RD s p r w' ∧ Below w.heap.size w w' := by
  obtain ⟨p1, p2⟩ := (okP_iff p).1 hp
  have e1 : decide (p < 1) = false := by simp; omega
  have e2 : decide (8 < p) = false := by simp; omega
  have hk := tk_le' ht
  rw [nbs_length] at hk
  have HT := hide ht
  have HS := hide hs
  have d1 : decide ((n : Int) < 1) = false := by simp; omega
  have d2 : decide (9 < (n : Int)) = false := by simp; omega
  have i0 := ixA (n : Int) (by omega) (by omega)
  have i1 := ixB (n : Int) (by omega) (by omega)
  have RW := hide (fun w => row_any (n : Int) (by omega) (by omega) w)
  generalize sA (n : Int) = u at RW i0 i1 hA
  generalize sB (n : Int) = v at RW i0 i1 hB
  have RO := hide (rop_0 ht h0 h6)
  clear ht hs h0
  have G0 : Hid (GS ((w.alloc (.cells #[.int .i64 0, .int .i64 0, .int .i64 0, .slice none 0 0, .bool false, .int .i64 0] 29)).alloc (.cells #[.int .i64 0, .int .i64 0, .int .i64 0, .slice none 0 0, .bool false, .int .i64 0] 29)) (w.heap.size + 1) 0) := by
    have := heap_new (w.alloc (.cells #[.int .i64 0, .int .i64 0, .int .i64 0, .slice none 0 0, .bool false, .int .i64 0] 29)) (.cells #[.int .i64 0, .int .i64 0, .int .i64 0, .slice none 0 0, .bool false, .int .i64 0] 29)
    rw [World.size_alloc] at this
    exact this
  go_enter Try.func10, Try.ntmps10
  go_wp2_with fail
  refine (rnumber_some s (w.heap.size + 1) 0 n k _ G0.out (Nat.zero_le _) HS.out HT.out).mono ?_
  rw [Nat.zero_add]
  rintro r w1 ⟨rfl, g1, k1⟩
  have D1 := hide (DS.start (n : Int) g1 k1)
  clear g1 k1
  go_wp2_with fail
  refine (RW.out _).mono ?_
  rintro r w2 ⟨rfl, b2⟩
  have D2 := hide (D1.out.below b2)
  clear b2
  obtain ⟨y0, y1, y2, y3, y4⟩ := op_cells D2.out.op
  go_wp2_with fail
  refine (rcheck_any ⟨(n : Int), 0, 0, [], false⟩ none 0 p _ (CAt.nil _ _) (Nat.zero_le _)).mono ?_
  rintro r w5 ⟨rfl, b5⟩
  have D5 := hide (D2.out.below b5)
  obtain ⟨⟨z0, z1, z2, z3, z4, z5⟩, f0, f1, f2, f3, f4, f5⟩ := six_cells D5.out.res
  obtain ⟨x0, x1, x2, x3, x4⟩ := op_cells D5.out.op
  have gc := cell_of D5.out.gs 5
  simp at gc
  clear b5
  cases hc : chk ⟨(n : Int), 0, 0, [], false⟩ p == 0
  · have hc' : (chk ⟨(n : Int), 0, 0, [], false⟩ p != 0) = true := by simp [bne, hc]
    have HC := hide hc
    clear hc
    go_wp2_with fail
    exact bodyPost_ret (results_row2 Try.results10 _ _ _ _ _ rfl rfl (loadVar_got (six_set D5.out.res _ _ _ _ _ _) rfl)) rfl ⟨.inl ⟨.inr (by rw [RO.out]; exact HC.out), rfl⟩, below_six D5.out.bel D5.out.ne.1 _ _ _ _ _ _⟩
  · have hc' : (chk ⟨(n : Int), 0, 0, [], false⟩ p != 0) = false := by simp [bne, hc]
    have HC : Hid (chk ⟨(n : Int), 0, 0, [], false⟩ p = 0) := by show _ = _; simpa using hc
    clear hc
    go_wp2_with fail
    go_region
    all_goals
      go_wp2_with fail
      exact bodyPost_ret (results_row2 Try.results10 _ _ _ _ _ rfl rfl (loadVar_got (heap_below (six_set D5.out.res _ _ _ _ _ _) (bdrew1 _)) rfl)) rfl ⟨.inr ⟨by rw [RO.out], by rw [RO.out]; exact HC.out, none, 0, k, by omega, by rw [RO.out], by rw [RO.out]; go_num, by rw [RO.out]; exact CAt.nil _ _⟩, btr (below_six D5.out.bel D5.out.ne.1 _ _ _ _ _ _) (bdrew1 _)⟩

set_option maxRecDepth 100000 in
set_option maxHeartbeats 3200000 in
theorem rdecode_1 (s : ByteArray) (p : Int) (w : World) (hp : okP p = true) (hs : s.size ≤ maxLen) (n k : Nat) (h1 : 1 ≤ n) (h9 : n ≤ 9) (ht : tk (nbs s) = some (n, k)) (hA : ((sA (n : Int) : Int) != 46) = true) (hB : ((sB (n : Int) : Int) != 46) = false) (h6 : ((n : Int) == 6) = false) (h0 : nf (n : Int) = 1) (a q : Nat) (ha : tk ((nbs s).drop k) = some (a, q)) :
    Calls Try.prog 10 #[.string s, .int .i64 p] w fun r w' => RD s p r w' ∧ Below w.heap.size w w' := by
  obtain ⟨p1, p2⟩ := (okP_iff p).1 hp
  have e1 : decide (p < 1) = false := by simp; omega
  have e2 : decide (8 < p) = false := by simp; omega
  have hk := tk_le' ht
  rw [nbs_length] at hk
  have HT := hide ht
  have HS := hide hs
  have d1 : decide ((n : Int) < 1) = false := by simp; omega
  have d2 : decide (9 < (n : Int)) = false := by simp; omega
  have i0 := ixA (n : Int) (by omega) (by omega)
  have i1 := ixB (n : Int) (by omega) (by omega)
  have RW := hide (fun w => row_any (n : Int) (by omega) (by omega) w)
  generalize sA (n : Int) = u at RW i0 i1 hA
  generalize sB (n : Int) = v at RW i0 i1 hB
  have RO := hide (rop_1 ht h0 h6 ha)
  have hq := tk_le' ha
  rw [List.length_drop, nbs_length] at hq
  have HAA := hide ha
  clear ht hs ha h0
  have G0 : Hid (GS ((w.alloc (.cells #[.int .i64 0, .int .i64 0, .int .i64 0, .slice none 0 0, .bool false, .int .i64 0] 29)).alloc (.cells #[.int .i64 0, .int .i64 0, .int .i64 0, .slice none 0 0, .bool false, .int .i64 0] 29)) (w.heap.size + 1) 0) := by
    have := heap_new (w.alloc (.cells #[.int .i64 0, .int .i64 0, .int .i64 0, .slice none 0 0, .bool false, .int .i64 0] 29)) (.cells #[.int .i64 0, .int .i64 0, .int .i64 0, .slice none 0 0, .bool false, .int .i64 0] 29)
    rw [World.size_alloc] at this
    exact this
  go_enter Try.func10, Try.ntmps10
  go_wp2_with fail
  refine (rnumber_some s (w.heap.size + 1) 0 n k _ G0.out (Nat.zero_le _) HS.out HT.out).mono ?_
  rw [Nat.zero_add]
  rintro r w1 ⟨rfl, g1, k1⟩
  have D1 := hide (DS.start (n : Int) g1 k1)
  clear g1 k1
  go_wp2_with fail
  refine (RW.out _).mono ?_
  rintro r w2 ⟨rfl, b2⟩
  have D2 := hide (D1.out.below b2)
  clear b2
  go_wp2_with fail
  refine (rnumber_some s (w.heap.size + 1) (k) a q _ D2.out.gs (by omega) HS.out HAA.out).mono ?_
  rintro r w3 ⟨rfl, g3, k3⟩
  have E3 := hide (D2.out.reads g3 k3)
  have D3 := hide (E3.out.set 1 (.int .i64 (a : Int)) rfl)
  obtain ⟨y0, y1, y2, y3, y4⟩ := op_cells E3.out.op
  have fo := frozen_of E3.out.op 1
  clear g3 k3
  go_wp2_with fail
  refine (rcheck_any ⟨(n : Int), (a : Int), 0, [], false⟩ none 0 p _ (CAt.nil _ _) (Nat.zero_le _)).mono ?_
  rintro r w5 ⟨rfl, b5⟩
  have D5 := hide (D3.out.below b5)
  obtain ⟨⟨z0, z1, z2, z3, z4, z5⟩, f0, f1, f2, f3, f4, f5⟩ := six_cells D5.out.res
  obtain ⟨x0, x1, x2, x3, x4⟩ := op_cells D5.out.op
  have gc := cell_of D5.out.gs 5
  simp at gc
  clear b5
  cases hc : chk ⟨(n : Int), (a : Int), 0, [], false⟩ p == 0
  · have hc' : (chk ⟨(n : Int), (a : Int), 0, [], false⟩ p != 0) = true := by simp [bne, hc]
    have HC := hide hc
    clear hc
    go_wp2_with fail
    exact bodyPost_ret (results_row2 Try.results10 _ _ _ _ _ rfl rfl (loadVar_got (six_set D5.out.res _ _ _ _ _ _) rfl)) rfl ⟨.inl ⟨.inr (by rw [RO.out]; exact HC.out), rfl⟩, below_six D5.out.bel D5.out.ne.1 _ _ _ _ _ _⟩
  · have hc' : (chk ⟨(n : Int), (a : Int), 0, [], false⟩ p != 0) = false := by simp [bne, hc]
    have HC : Hid (chk ⟨(n : Int), (a : Int), 0, [], false⟩ p = 0) := by show _ = _; simpa using hc
    clear hc
    go_wp2_with fail
    go_region
    all_goals
      go_wp2_with fail
      exact bodyPost_ret (results_row2 Try.results10 _ _ _ _ _ rfl rfl (loadVar_got (heap_below (six_set D5.out.res _ _ _ _ _ _) (bdrew1 _)) rfl)) rfl ⟨.inr ⟨by rw [RO.out], by rw [RO.out]; exact HC.out, none, 0, k + q, by omega, by rw [RO.out], by rw [RO.out]; go_num, by rw [RO.out]; exact CAt.nil _ _⟩, btr (below_six D5.out.bel D5.out.ne.1 _ _ _ _ _ _) (bdrew1 _)⟩

set_option maxRecDepth 100000 in
set_option maxHeartbeats 3200000 in
theorem rdecode_1n (s : ByteArray) (p : Int) (w : World) (hp : okP p = true) (hs : s.size ≤ maxLen) (n k : Nat) (h1 : 1 ≤ n) (h9 : n ≤ 9) (ht : tk (nbs s) = some (n, k)) (hA : ((sA (n : Int) : Int) != 46) = true) (hB : ((sB (n : Int) : Int) != 46) = false) (h6 : ((n : Int) == 6) = false) (h0 : nf (n : Int) = 1) (ha : tk ((nbs s).drop k) = none) :
    Calls Try.prog 10 #[.string s, .int .i64 p] w fun r w' => RD s p r w' ∧ Below w.heap.size w w' := by
  obtain ⟨p1, p2⟩ := (okP_iff p).1 hp
  have e1 : decide (p < 1) = false := by simp; omega
  have e2 : decide (8 < p) = false := by simp; omega
  have hk := tk_le' ht
  rw [nbs_length] at hk
  have HT := hide ht
  have HS := hide hs
  have d1 : decide ((n : Int) < 1) = false := by simp; omega
  have d2 : decide (9 < (n : Int)) = false := by simp; omega
  have i0 := ixA (n : Int) (by omega) (by omega)
  have i1 := ixB (n : Int) (by omega) (by omega)
  have RW := hide (fun w => row_any (n : Int) (by omega) (by omega) w)
  generalize sA (n : Int) = u at RW i0 i1 hA
  generalize sB (n : Int) = v at RW i0 i1 hB
  have RO := hide (rop_1n ht h0 h6 ha)
  have HAA := hide ha
  clear ht hs ha h0
  have G0 : Hid (GS ((w.alloc (.cells #[.int .i64 0, .int .i64 0, .int .i64 0, .slice none 0 0, .bool false, .int .i64 0] 29)).alloc (.cells #[.int .i64 0, .int .i64 0, .int .i64 0, .slice none 0 0, .bool false, .int .i64 0] 29)) (w.heap.size + 1) 0) := by
    have := heap_new (w.alloc (.cells #[.int .i64 0, .int .i64 0, .int .i64 0, .slice none 0 0, .bool false, .int .i64 0] 29)) (.cells #[.int .i64 0, .int .i64 0, .int .i64 0, .slice none 0 0, .bool false, .int .i64 0] 29)
    rw [World.size_alloc] at this
    exact this
  go_enter Try.func10, Try.ntmps10
  go_wp2_with fail
  refine (rnumber_some s (w.heap.size + 1) 0 n k _ G0.out (Nat.zero_le _) HS.out HT.out).mono ?_
  rw [Nat.zero_add]
  rintro r w1 ⟨rfl, g1, k1⟩
  have D1 := hide (DS.start (n : Int) g1 k1)
  clear g1 k1
  go_wp2_with fail
  refine (RW.out _).mono ?_
  rintro r w2 ⟨rfl, b2⟩
  have D2 := hide (D1.out.below b2)
  clear b2
  go_wp2_with fail
  refine (rnumber_none s (w.heap.size + 1) (k) _ D2.out.gs (by omega) HS.out HAA.out).mono ?_
  rintro r w3 ⟨rfl, g3, k3⟩
  have E3 := hide (D2.out.reads g3 k3)
  have D3 := hide (E3.out.set 1 (.int .i64 (-1)) rfl)
  obtain ⟨y0, y1, y2, y3, y4⟩ := op_cells E3.out.op
  have fo := frozen_of E3.out.op 1
  clear g3 k3
  go_wp2_with fail
  refine (rcheck_any ⟨(n : Int), -1, 0, [], false⟩ none 0 p _ (CAt.nil _ _) (Nat.zero_le _)).mono ?_
  rintro r w5 ⟨rfl, b5⟩
  have D5 := hide (D3.out.below b5)
  obtain ⟨⟨z0, z1, z2, z3, z4, z5⟩, f0, f1, f2, f3, f4, f5⟩ := six_cells D5.out.res
  obtain ⟨x0, x1, x2, x3, x4⟩ := op_cells D5.out.op
  have gc := cell_of D5.out.gs 5
  simp at gc
  clear b5
  have hc := chk_neg (n : Int) (-1) 0 [] false p (.inl (by decide))
  have hc' : (chk ⟨(n : Int), -1, 0, [], false⟩ p != 0) = true := by simp [bne, hc]
  clear hc
  go_wp2_with fail
  exact bodyPost_ret (results_row2 Try.results10 _ _ _ _ _ rfl rfl (loadVar_got (six_set D5.out.res _ _ _ _ _ _) rfl)) rfl ⟨.inl ⟨.inl RO.out, rfl⟩, below_six D5.out.bel D5.out.ne.1 _ _ _ _ _ _⟩

set_option maxRecDepth 100000 in
set_option maxHeartbeats 3200000 in
theorem rdecode_2n (s : ByteArray) (p : Int) (w : World) (hp : okP p = true) (hs : s.size ≤ maxLen) (n k : Nat) (h1 : 1 ≤ n) (h9 : n ≤ 9) (ht : tk (nbs s) = some (n, k)) (hA : ((sA (n : Int) : Int) != 46) = true) (hB : ((sB (n : Int) : Int) != 46) = true) (h6 : ((n : Int) == 6) = false) (h0 : nf (n : Int) = 2) (ha : tk ((nbs s).drop k) = none) :
    Calls Try.prog 10 #[.string s, .int .i64 p] w fun r w' => RD s p r w' ∧ Below w.heap.size w w' := by
  obtain ⟨p1, p2⟩ := (okP_iff p).1 hp
  have e1 : decide (p < 1) = false := by simp; omega
  have e2 : decide (8 < p) = false := by simp; omega
  have hk := tk_le' ht
  rw [nbs_length] at hk
  have HT := hide ht
  have HS := hide hs
  have d1 : decide ((n : Int) < 1) = false := by simp; omega
  have d2 : decide (9 < (n : Int)) = false := by simp; omega
  have i0 := ixA (n : Int) (by omega) (by omega)
  have i1 := ixB (n : Int) (by omega) (by omega)
  have RW := hide (fun w => row_any (n : Int) (by omega) (by omega) w)
  generalize sA (n : Int) = u at RW i0 i1 hA
  generalize sB (n : Int) = v at RW i0 i1 hB
  have RO := hide (rop_2n ht h0 h6 ha)
  have HAA := hide ha
  clear ht hs ha h0
  have G0 : Hid (GS ((w.alloc (.cells #[.int .i64 0, .int .i64 0, .int .i64 0, .slice none 0 0, .bool false, .int .i64 0] 29)).alloc (.cells #[.int .i64 0, .int .i64 0, .int .i64 0, .slice none 0 0, .bool false, .int .i64 0] 29)) (w.heap.size + 1) 0) := by
    have := heap_new (w.alloc (.cells #[.int .i64 0, .int .i64 0, .int .i64 0, .slice none 0 0, .bool false, .int .i64 0] 29)) (.cells #[.int .i64 0, .int .i64 0, .int .i64 0, .slice none 0 0, .bool false, .int .i64 0] 29)
    rw [World.size_alloc] at this
    exact this
  go_enter Try.func10, Try.ntmps10
  go_wp2_with fail
  refine (rnumber_some s (w.heap.size + 1) 0 n k _ G0.out (Nat.zero_le _) HS.out HT.out).mono ?_
  rw [Nat.zero_add]
  rintro r w1 ⟨rfl, g1, k1⟩
  have D1 := hide (DS.start (n : Int) g1 k1)
  clear g1 k1
  go_wp2_with fail
  refine (RW.out _).mono ?_
  rintro r w2 ⟨rfl, b2⟩
  have D2 := hide (D1.out.below b2)
  clear b2
  go_wp2_with fail
  refine (rnumber_none s (w.heap.size + 1) (k) _ D2.out.gs (by omega) HS.out HAA.out).mono ?_
  rintro r w3 ⟨rfl, g3, k3⟩
  have E3 := hide (D2.out.reads g3 k3)
  have D3 := hide (E3.out.set 1 (.int .i64 (-1)) rfl)
  obtain ⟨y0, y1, y2, y3, y4⟩ := op_cells E3.out.op
  have fo := frozen_of E3.out.op 1
  clear g3 k3
  go_wp2_with fail
  refine (rcheck_any ⟨(n : Int), -1, 0, [], false⟩ none 0 p _ (CAt.nil _ _) (Nat.zero_le _)).mono ?_
  rintro r w5 ⟨rfl, b5⟩
  have D5 := hide (D3.out.below b5)
  obtain ⟨⟨z0, z1, z2, z3, z4, z5⟩, f0, f1, f2, f3, f4, f5⟩ := six_cells D5.out.res
  obtain ⟨x0, x1, x2, x3, x4⟩ := op_cells D5.out.op
  have gc := cell_of D5.out.gs 5
  simp at gc
  clear b5
  have hc := chk_neg (n : Int) (-1) 0 [] false p (.inl (by decide))
  have hc' : (chk ⟨(n : Int), -1, 0, [], false⟩ p != 0) = true := by simp [bne, hc]
  clear hc
  go_wp2_with fail
  exact bodyPost_ret (results_row2 Try.results10 _ _ _ _ _ rfl rfl (loadVar_got (six_set D5.out.res _ _ _ _ _ _) rfl)) rfl ⟨.inl ⟨.inl RO.out, rfl⟩, below_six D5.out.bel D5.out.ne.1 _ _ _ _ _ _⟩

set_option maxRecDepth 100000 in
set_option maxHeartbeats 3200000 in
theorem rdecode_2m (s : ByteArray) (p : Int) (w : World) (hp : okP p = true) (hs : s.size ≤ maxLen) (n k : Nat) (h1 : 1 ≤ n) (h9 : n ≤ 9) (ht : tk (nbs s) = some (n, k)) (hA : ((sA (n : Int) : Int) != 46) = true) (hB : ((sB (n : Int) : Int) != 46) = true) (h6 : ((n : Int) == 6) = false) (h0 : nf (n : Int) = 2) (a q : Nat) (ha : tk ((nbs s).drop k) = some (a, q)) (hb : tk ((nbs s).drop (k + q)) = none) :
    Calls Try.prog 10 #[.string s, .int .i64 p] w fun r w' => RD s p r w' ∧ Below w.heap.size w w' := by
  obtain ⟨p1, p2⟩ := (okP_iff p).1 hp
  have e1 : decide (p < 1) = false := by simp; omega
  have e2 : decide (8 < p) = false := by simp; omega
  have hk := tk_le' ht
  rw [nbs_length] at hk
  have HT := hide ht
  have HS := hide hs
  have d1 : decide ((n : Int) < 1) = false := by simp; omega
  have d2 : decide (9 < (n : Int)) = false := by simp; omega
  have i0 := ixA (n : Int) (by omega) (by omega)
  have i1 := ixB (n : Int) (by omega) (by omega)
  have RW := hide (fun w => row_any (n : Int) (by omega) (by omega) w)
  generalize sA (n : Int) = u at RW i0 i1 hA
  generalize sB (n : Int) = v at RW i0 i1 hB
  have RO := hide (rop_2m ht h0 h6 ha hb)
  have hq := tk_le' ha
  rw [List.length_drop, nbs_length] at hq
  have HAA := hide ha
  have HBB := hide hb
  clear ht hs ha hb h0
  have G0 : Hid (GS ((w.alloc (.cells #[.int .i64 0, .int .i64 0, .int .i64 0, .slice none 0 0, .bool false, .int .i64 0] 29)).alloc (.cells #[.int .i64 0, .int .i64 0, .int .i64 0, .slice none 0 0, .bool false, .int .i64 0] 29)) (w.heap.size + 1) 0) := by
    have := heap_new (w.alloc (.cells #[.int .i64 0, .int .i64 0, .int .i64 0, .slice none 0 0, .bool false, .int .i64 0] 29)) (.cells #[.int .i64 0, .int .i64 0, .int .i64 0, .slice none 0 0, .bool false, .int .i64 0] 29)
    rw [World.size_alloc] at this
    exact this
  go_enter Try.func10, Try.ntmps10
  go_wp2_with fail
  refine (rnumber_some s (w.heap.size + 1) 0 n k _ G0.out (Nat.zero_le _) HS.out HT.out).mono ?_
  rw [Nat.zero_add]
  rintro r w1 ⟨rfl, g1, k1⟩
  have D1 := hide (DS.start (n : Int) g1 k1)
  clear g1 k1
  go_wp2_with fail
  refine (RW.out _).mono ?_
  rintro r w2 ⟨rfl, b2⟩
  have D2 := hide (D1.out.below b2)
  clear b2
  go_wp2_with fail
  refine (rnumber_some s (w.heap.size + 1) (k) a q _ D2.out.gs (by omega) HS.out HAA.out).mono ?_
  rintro r w3 ⟨rfl, g3, k3⟩
  have E3 := hide (D2.out.reads g3 k3)
  have D3 := hide (E3.out.set 1 (.int .i64 (a : Int)) rfl)
  obtain ⟨y0, y1, y2, y3, y4⟩ := op_cells E3.out.op
  have fo := frozen_of E3.out.op 1
  clear g3 k3
  go_wp2_with fail
  refine (rnumber_none s (w.heap.size + 1) (k + q) _ D3.out.gs (by omega) HS.out HBB.out).mono ?_
  rintro r w4 ⟨rfl, g4, k4⟩
  have E4 := hide (D3.out.reads g4 k4)
  have D4 := hide (E4.out.set 2 (.int .i64 (-1)) rfl)
  obtain ⟨y0, y1, y2, y3, y4⟩ := op_cells E4.out.op
  have fo := frozen_of E4.out.op 2
  clear g4 k4
  go_wp2_with fail
  refine (rcheck_any ⟨(n : Int), (a : Int), -1, [], false⟩ none 0 p _ (CAt.nil _ _) (Nat.zero_le _)).mono ?_
  rintro r w5 ⟨rfl, b5⟩
  have D5 := hide (D4.out.below b5)
  obtain ⟨⟨z0, z1, z2, z3, z4, z5⟩, f0, f1, f2, f3, f4, f5⟩ := six_cells D5.out.res
  obtain ⟨x0, x1, x2, x3, x4⟩ := op_cells D5.out.op
  have gc := cell_of D5.out.gs 5
  simp at gc
  clear b5
  have hc := chk_neg (n : Int) (a : Int) (-1) [] false p (.inr (by decide))
  have hc' : (chk ⟨(n : Int), (a : Int), -1, [], false⟩ p != 0) = true := by simp [bne, hc]
  clear hc
  go_wp2_with fail
  exact bodyPost_ret (results_row2 Try.results10 _ _ _ _ _ rfl rfl (loadVar_got (six_set D5.out.res _ _ _ _ _ _) rfl)) rfl ⟨.inl ⟨.inl RO.out, rfl⟩, below_six D5.out.bel D5.out.ne.1 _ _ _ _ _ _⟩

set_option maxRecDepth 100000 in
set_option maxHeartbeats 3200000 in
theorem rdecode_2 (s : ByteArray) (p : Int) (w : World) (hp : okP p = true) (hs : s.size ≤ maxLen) (n k : Nat) (h1 : 1 ≤ n) (h9 : n ≤ 9) (ht : tk (nbs s) = some (n, k)) (hA : ((sA (n : Int) : Int) != 46) = true) (hB : ((sB (n : Int) : Int) != 46) = true) (h6 : ((n : Int) == 6) = false) (h0 : nf (n : Int) = 2) (a q : Nat) (ha : tk ((nbs s).drop k) = some (a, q)) (b t : Nat) (hb : tk ((nbs s).drop (k + q)) = some (b, t)) :
    Calls Try.prog 10 #[.string s, .int .i64 p] w fun r w' => RD s p r w' ∧ Below w.heap.size w w' := by
  obtain ⟨p1, p2⟩ := (okP_iff p).1 hp
  have e1 : decide (p < 1) = false := by simp; omega
  have e2 : decide (8 < p) = false := by simp; omega
  have hk := tk_le' ht
  rw [nbs_length] at hk
  have HT := hide ht
  have HS := hide hs
  have d1 : decide ((n : Int) < 1) = false := by simp; omega
  have d2 : decide (9 < (n : Int)) = false := by simp; omega
  have i0 := ixA (n : Int) (by omega) (by omega)
  have i1 := ixB (n : Int) (by omega) (by omega)
  have RW := hide (fun w => row_any (n : Int) (by omega) (by omega) w)
  generalize sA (n : Int) = u at RW i0 i1 hA
  generalize sB (n : Int) = v at RW i0 i1 hB
  have RO := hide (rop_2 ht h0 h6 ha hb)
  have hq := tk_le' ha
  rw [List.length_drop, nbs_length] at hq
  have HAA := hide ha
  have hbq := tk_le' hb
  rw [List.length_drop, nbs_length] at hbq
  have HBB := hide hb
  clear ht hs ha hb h0
  have G0 : Hid (GS ((w.alloc (.cells #[.int .i64 0, .int .i64 0, .int .i64 0, .slice none 0 0, .bool false, .int .i64 0] 29)).alloc (.cells #[.int .i64 0, .int .i64 0, .int .i64 0, .slice none 0 0, .bool false, .int .i64 0] 29)) (w.heap.size + 1) 0) := by
    have := heap_new (w.alloc (.cells #[.int .i64 0, .int .i64 0, .int .i64 0, .slice none 0 0, .bool false, .int .i64 0] 29)) (.cells #[.int .i64 0, .int .i64 0, .int .i64 0, .slice none 0 0, .bool false, .int .i64 0] 29)
    rw [World.size_alloc] at this
    exact this
  go_enter Try.func10, Try.ntmps10
  go_wp2_with fail
  refine (rnumber_some s (w.heap.size + 1) 0 n k _ G0.out (Nat.zero_le _) HS.out HT.out).mono ?_
  rw [Nat.zero_add]
  rintro r w1 ⟨rfl, g1, k1⟩
  have D1 := hide (DS.start (n : Int) g1 k1)
  clear g1 k1
  go_wp2_with fail
  refine (RW.out _).mono ?_
  rintro r w2 ⟨rfl, b2⟩
  have D2 := hide (D1.out.below b2)
  clear b2
  go_wp2_with fail
  refine (rnumber_some s (w.heap.size + 1) (k) a q _ D2.out.gs (by omega) HS.out HAA.out).mono ?_
  rintro r w3 ⟨rfl, g3, k3⟩
  have E3 := hide (D2.out.reads g3 k3)
  have D3 := hide (E3.out.set 1 (.int .i64 (a : Int)) rfl)
  obtain ⟨y0, y1, y2, y3, y4⟩ := op_cells E3.out.op
  have fo := frozen_of E3.out.op 1
  clear g3 k3
  go_wp2_with fail
  refine (rnumber_some s (w.heap.size + 1) (k + q) b t _ D3.out.gs (by omega) HS.out HBB.out).mono ?_
  rintro r w4 ⟨rfl, g4, k4⟩
  have E4 := hide (D3.out.reads g4 k4)
  have D4 := hide (E4.out.set 2 (.int .i64 (b : Int)) rfl)
  obtain ⟨y0, y1, y2, y3, y4⟩ := op_cells E4.out.op
  have fo := frozen_of E4.out.op 2
  clear g4 k4
  go_wp2_with fail
  refine (rcheck_any ⟨(n : Int), (a : Int), (b : Int), [], false⟩ none 0 p _ (CAt.nil _ _) (Nat.zero_le _)).mono ?_
  rintro r w5 ⟨rfl, b5⟩
  have D5 := hide (D4.out.below b5)
  obtain ⟨⟨z0, z1, z2, z3, z4, z5⟩, f0, f1, f2, f3, f4, f5⟩ := six_cells D5.out.res
  obtain ⟨x0, x1, x2, x3, x4⟩ := op_cells D5.out.op
  have gc := cell_of D5.out.gs 5
  simp at gc
  clear b5
  cases hc : chk ⟨(n : Int), (a : Int), (b : Int), [], false⟩ p == 0
  · have hc' : (chk ⟨(n : Int), (a : Int), (b : Int), [], false⟩ p != 0) = true := by simp [bne, hc]
    have HC := hide hc
    clear hc
    go_wp2_with fail
    exact bodyPost_ret (results_row2 Try.results10 _ _ _ _ _ rfl rfl (loadVar_got (six_set D5.out.res _ _ _ _ _ _) rfl)) rfl ⟨.inl ⟨.inr (by rw [RO.out]; exact HC.out), rfl⟩, below_six D5.out.bel D5.out.ne.1 _ _ _ _ _ _⟩
  · have hc' : (chk ⟨(n : Int), (a : Int), (b : Int), [], false⟩ p != 0) = false := by simp [bne, hc]
    have HC : Hid (chk ⟨(n : Int), (a : Int), (b : Int), [], false⟩ p = 0) := by show _ = _; simpa using hc
    clear hc
    go_wp2_with fail
    go_region
    all_goals
      go_wp2_with fail
      exact bodyPost_ret (results_row2 Try.results10 _ _ _ _ _ rfl rfl (loadVar_got (heap_below (six_set D5.out.res _ _ _ _ _ _) (bdrew1 _)) rfl)) rfl ⟨.inr ⟨by rw [RO.out], by rw [RO.out]; exact HC.out, none, 0, k + q + t, by omega, by rw [RO.out], by rw [RO.out]; go_num, by rw [RO.out]; exact CAt.nil _ _⟩, btr (below_six D5.out.bel D5.out.ne.1 _ _ _ _ _ _) (bdrew1 _)⟩
end De
end Go.Proofs.Ytabbmfaklekojaa
