/- The reference's Take, over this seat's program. -/
import Derived.Test.YtlcaelfkgillmaaEe
namespace Go.Proofs.Ytlcaelfkgillmaa
open Go.ChangeShapes Go.WideShapes Go.ChangeAt Go.RowKit
namespace Re
open Ba

theorem dg_snoc (k n : Nat) : dg (k + 1) n = dg k (n / 256) ++ [n % 256] := by
  induction k with
  | zero => simp [dg]
  | succ k ih =>
    rw [show dg (k + 1 + 1) n = n / 256 ^ (k + 1) % 256 :: dg (k + 1) n from rfl, ih, show dg (k + 1) (n / 256) = n / 256 / 256 ^ k % 256 :: dg k (n / 256) from rfl]
    rw [Nat.div_div_eq_div_mul, Nat.pow_succ, Nat.mul_comm]
    rfl
theorem dg_vl (k : Nat) : ∀ D : List Nat, D.length = k → (∀ b ∈ D, b < 256) → dg k (vl D) = D := by
  induction k with
  | zero => intro D h _; rw [List.eq_nil_of_length_eq_zero h]; rfl
  | succ k ih =>
    intro D h hD
    have hk : k < D.length := by omega
    have e : D = D.take k ++ [D[k]] := by
      rw [List.take_append_getElem]
      rw [List.take_of_length_le (by omega)]
    have hb := hD D[k] (List.getElem_mem hk)
    have h2 := ih (D.take k) (by simp; omega) (fun b hb => hD b (List.mem_of_mem_take hb))
    have hv : vl D = 256 * vl (D.take k) + D[k] := by
      have := vl_take D k D[k] (by simp [hk])
      rw [List.take_of_length_le (by omega)] at this
      exact this
    rw [dg_snoc, hv, show (256 * vl (D.take k) + D[k]) / 256 = vl (D.take k) by omega, show (256 * vl (D.take k) + D[k]) % 256 = D[k] by omega, h2, ← e]
/-- a number of k bytes more: whether they are as few as hold it -/
theorem fit_iff (D : List Nat) (k : Nat) (h1 : 1 ≤ k) (hD : D.length = k) (hb : ∀ b ∈ D, b < 256) : szn (vl D) = 1 + k ↔ vl D ≤ 1099511627776 ∧ spl (vl D) = (240 + k) :: D := by
  constructor
  · intro h
    have hn : vl D ≤ 1099511627776 := by
      by_cases q : vl D ≤ 1099511627776
      · exact q
      · rw [szn_hi _ q] at h; omega
    refine ⟨hn, ?_⟩
    rw [szn_lo _ hn] at h
    by_cases q : vl D < 240
    · rw [spl_lo _ q] at h; simp at h; omega
    · rw [spl_hi _ (by omega)] at h ⊢
      rw [List.length_cons, dg_length] at h
      have e : nb (vl D) = k := by omega
      rw [e, dg_vl k D hD hb]
  · rintro ⟨h, e⟩
    rw [szn_lo _ h, e, List.length_cons, hD]
    omega

theorem size_taken : (Try.prog.info? 80).map (·.size) = some 2 := by kernel_rfl
theorem loadVar_taken {w : World} {b : Nat} {c : Array Value} {t : TypeId} (h : w.heap[b]? = some (.cells c t (0, 0))) (hc : c.size = 2) : (loadVar 80 ⟨b, 0, none⟩).run Try.prog w = .ok (.agg c) w :=
  run_loadVar_row w b t _ _ _ _ h Try.underlying80 rfl (by rw [size_taken, hc])

set_option maxHeartbeats 800000 in
theorem rtake_empty (w : World) :
    Calls Try.prog 34 #[.string (bs [])] w fun r w' => r = .returned (.tuple #[.agg #[.int .i64 0, .int .i64 0], .int .i64 4]) ∧ Below w.heap.size w w' := by
  show Calls Try.prog 34 #[.string ⟨#[]⟩] w _
  go_enter Try.func34, Try.ntmps34
  go_wp2_with fail
  exact bodyPost_ret (results_row2 Try.results34 _ _ _ _ _ rfl rfl (loadVar_taken (heap_new _ _) rfl)) rfl ⟨rfl, below_alloc _ _⟩

set_option maxRecDepth 100000 in
set_option maxHeartbeats 800000 in
theorem rtake_lo (s : ByteArray) (b : Nat) (h0 : 0 < s.size) (hb : b < 240) (hs : (nbs s)[0]? = some b) (w : World) :
    Calls Try.prog 34 #[.string s] w fun r w' => r = .returned (.tuple #[.agg #[.int .i64 (b : Int), .int .i64 1], .int .i64 0]) ∧ Below w.heap.size w w' := by
  have ix := ix_str s 0 b hs
  have hne := ne_empty s h0
  have hb' : decide ((b : Int) < 240) = true := by simp; omega
  simp at ix
  clear hs
  go_enter Try.func34, Try.ntmps34
  go_wp2_with fail
  exact bodyPost_ret (results_row2 Try.results34 _ _ _ _ _ rfl rfl (loadVar_taken (heap_new _ _) rfl)) rfl ⟨rfl, below_alloc _ _⟩

set_option maxRecDepth 100000 in
set_option maxHeartbeats 800000 in
theorem rtake_bad (s : ByteArray) (b k : Nat) (h0 : 0 < s.size) (hbk : b = 240 + k) (hb2 : b < 256) (hs : (nbs s)[0]? = some b) (h : 6 < k ∨ s.size < 1 + k) (w : World) :
    Calls Try.prog 34 #[.string s] w fun r w' => r = .returned (.tuple #[.agg #[.int .i64 0, .int .i64 0], .int .i64 4]) ∧ Below w.heap.size w w' := by
  have ix := ix_str s 0 b hs
  have hne := ne_empty s h0
  simp at ix
  have hb' : (b : Int) - 240 = (k : Int) := by omega
  have d0 : decide ((b : Int) < 240) = false := by simp; omega
  have hk16 : (k : Int) < 16 := by omega
  by_cases h1 : 6 < k
  · have d1 : decide (6 < (k : Int)) = true := by simp; omega
    clear hs h hbk
    go_enter Try.func34, Try.ntmps34
    go_wp2_with fail
    exact bodyPost_ret (results_row2 Try.results34 _ _ _ _ _ rfl rfl (loadVar_taken (heap_new _ _) rfl)) rfl ⟨rfl, below_alloc _ _⟩
  · have d1 : decide (6 < (k : Int)) = false := by simp; omega
    have d2 : decide ((s.size : Int) < 1 + (k : Int)) = true := by simp; omega
    clear hs h hbk
    go_enter Try.func34, Try.ntmps34
    go_wp2_with fail
    exact bodyPost_ret (results_row2 Try.results34 _ _ _ _ _ rfl rfl (loadVar_taken (heap_new _ _) rfl)) rfl ⟨rfl, below_alloc _ _⟩

theorem eq_str (L : List Nat) (t : ByteArray) (x : Bool) (hL : ∀ b ∈ L, b < 256) (h : decide (L = nbs t) = x) : ((bs L).toList == t.toList) = x := by
  subst h
  rw [toList_is, toList_is]
  by_cases e : L = nbs t
  · have : bs L = t := nbs_inj (by rw [nbs_bs L hL, e])
    rw [this, beq_self_eq_true, decide_eq_true e]
  · have : ¬ ((bs L).data.toList = t.data.toList) := fun q => e (by
      have := congrArg (List.map UInt8.toNat) q
      rw [← nbs_bs L hL]
      exact this)
    rw [decide_eq_false e]
    exact beq_eq_false_iff_ne.2 this
theorem two_set {w : World} {b : Nat} {x y : Value} {t : TypeId} (h : w.heap[b]? = some (.cells #[x, y] t (0, 0))) (u v : Value) : ((w.setCell ⟨b, 0, none⟩ u).setCell ⟨b, 1, none⟩ v).heap[b]? = some (.cells #[u, v] t (0, 0)) := by
  rw [Ba.heap_setCell_same (Ba.heap_setCell_same h u) v]
  rfl

set_option maxRecDepth 100000 in
set_option maxHeartbeats 1600000 in
theorem rtake_loop (s : ByteArray) (b k : Nat) (h6 : k ≤ 6) (hk : k < s.size) (hbk : b = 240 + k) (hs : (nbs s)[0]? = some b) (w : World) :
    Calls Try.prog 34 #[.string s] w fun r w' => r = .returned (bif decide (vl (nbs (s.extract 1 (1 + k))) ≤ 1099511627776 ∧ spl (vl (nbs (s.extract 1 (1 + k)))) = nbs (s.extract 0 (1 + k))) then .tuple #[.agg #[.int .i64 (vl (nbs (s.extract 1 (1 + k))) : Int), .int .i64 (1 + (k : Int))], .int .i64 0] else .tuple #[.agg #[.int .i64 0, .int .i64 0], .int .i64 4]) ∧ Below w.heap.size w w' := by
  have ix := ix_str s 0 b hs
  have hne := ne_empty s (by omega)
  simp at ix
  have h6' : (k : Int) ≤ 6 := by omega
  have hk' : (k : Int) < (s.size : Int) := by omega
  have hb' : (b : Int) - 240 = (k : Int) := by omega
  have d0 : decide ((b : Int) < 240) = false := by simp; omega
  have d1 : decide (6 < (k : Int)) = false := by simp; omega
  have d2 : decide ((s.size : Int) < 1 + (k : Int)) = false := by simp; omega
  have esz : (s.extract 1 (1 + k)).size = k := by rw [← nbs_length, nbs_extract, List.length_drop, List.length_take, nbs_length]; omega
  have HL := hide (nbs_lt (s.extract 1 (1 + k)))
  have HN := hide ((nbs_length (s.extract 1 (1 + k))).trans esz)
  have HD : Hid (∀ j x : Nat, j < k → (nbs (s.extract 1 (1 + k)))[j]? = some x → (nbs s)[j + 1]? = some x) := fun j x hj hx => by
    rw [nbs_extract, List.getElem?_drop, List.getElem?_take] at hx
    rw [if_pos (by omega), Nat.add_comm] at hx
    exact hx
  generalize hDD : nbs (s.extract 1 (1 + k)) = D at HL HN HD ⊢
  clear hs hbk esz hDD
  go_enter Try.func34, Try.ntmps34
  go_wp2_with fail
  go_loop [6, 7] (fun n i => ∃ j : Nat, j ≤ k ∧ i = .int .i64 ((j : Int) + 1) ∧ n = .int .i64 ((vl (D.take j) : Nat) : Int)) (fun _ i => k + 1 - (intOf i).toNat)
  case atStart => exact ⟨0, Nat.zero_le _, rfl, rfl⟩
  case round =>
    obtain ⟨j, hj, rfl, rfl⟩ := hrel
    by_cases hjk : j < k
    · have hjk' : decide ((j : Int) + 1 ≤ (k : Int)) = true := by simp; omega
      obtain ⟨x, hx⟩ : ∃ x, D[j]? = some x := ⟨D[j]'(by rw [HN.out]; exact hjk), by simp [HN.out, hjk]⟩
      have hx256 : x < 256 := HL.out x (List.mem_of_getElem? hx)
      have hvl : vl (D.take j) < 1099511627776 := Nat.lt_of_lt_of_le (vl_lt D HL.out j) (by
        have : 256 ^ j ≤ 256 ^ 5 := Nat.pow_le_pow_right (by decide) (by omega)
        exact this)
      have ixj := ix_str s (j + 1) x (HD.out j x hjk hx)
      rw [show ((j + 1 : Nat) : Int) = (j : Int) + 1 by omega] at ixj
      have VT := hide (vl_take D j x hx)
      clear hx
      generalize vl (D.take j) = V at hvl VT ⊢
      go_wp2_with fail
      go_round
      case rel => exact ⟨j + 1, by omega, by go_num, by rw [VT.out]; simp⟩
      case measure => simp [intOf]; omega
    · have hjk' : decide ((j : Int) + 1 ≤ (k : Int)) = false := by simp; omega
      have e : j = k := by omega
      subst e
      rw [List.take_of_length_le (by rw [HN.out]; exact Nat.le_refl _)]
      generalize hV : vl D = V
      have HV := hide hV
      clear hV
      have H0 := hide (heap_new w (.cells #[.int .i64 0, .int .i64 0] 80))
      have B0 := hide (below_alloc w (.cells #[.int .i64 0, .int .i64 0] 80))
      generalize w.alloc (.cells #[.int .i64 0, .int .i64 0] 80) = W at H0 B0 ⊢
      by_cases hle : V ≤ 1099511627776
      · go_wp2_with fail
        refine (rput_ok V hle _).mono ?_
        rintro r w1 ⟨rfl, hb1⟩
        have H1 := hide (heap_below H0.out hb1)
        have c0 := cell_of H1.out 0
        have c1 := cell_of H1.out 1
        have f0 := frozen_of H1.out 0
        have f1 := frozen_of H1.out 1
        simp at c0 c1
        have B1 := hide (btr B0.out hb1)
        clear hb1
        by_cases hq : spl V = nbs (s.extract 0 (1 + j))
        · have es := eq_str (spl V) (s.extract 0 (1 + j)) true (spl_lt V) (by simpa using hq)
          have HQ : Hid (decide (V ≤ 1099511627776 ∧ spl V = nbs (s.extract 0 (1 + j))) = true) := by show _ = _; simp only [hle, hq, and_self, decide_true]
          clear hq
          go_wp2_with fail
          exact bodyPost_ret (results_row2 Try.results34 _ _ _ _ _ rfl rfl (loadVar_taken (two_set H1.out _ _) rfl)) rfl ⟨by rw [HV.out, HQ.out]; rfl, (B1.out.setCell (Nat.le_refl _) _).setCell (Nat.le_refl _) _⟩
        · have es := eq_str (spl V) (s.extract 0 (1 + j)) false (spl_lt V) (by simpa using hq)
          have HQ : Hid (decide (V ≤ 1099511627776 ∧ spl V = nbs (s.extract 0 (1 + j))) = false) := by show _ = _; simp only [hle, hq, and_false, decide_false]
          clear hq
          go_wp2_with fail
          exact bodyPost_ret (results_row2 Try.results34 _ _ _ _ _ rfl rfl (loadVar_taken (two_set H1.out _ _) rfl)) rfl ⟨by rw [HV.out, HQ.out]; rfl, (B1.out.setCell (Nat.le_refl _) _).setCell (Nat.le_refl _) _⟩
      · have HQ : Hid (decide (V ≤ 1099511627776 ∧ spl V = nbs (s.extract 0 (1 + j))) = false) := by show _ = _; simp only [hle, false_and, decide_false]
        have HO : Hid (okR (V : Int) = false) := by
          show _ = _
          have : ¬ (okR (V : Int) = true) := by rw [okR_iff]; omega
          simpa using this
        have c0 := cell_of H0.out 0
        have c1 := cell_of H0.out 1
        have f0 := frozen_of H0.out 0
        have f1 := frozen_of H0.out 1
        simp at c0 c1
        go_wp2_with fail
        refine (rput_no (V : Int) HO.out _).mono ?_
        rintro r w1 ⟨rfl, rfl⟩
        go_wp2_with fail
        exact bodyPost_ret (results_row2 Try.results34 _ _ _ _ _ rfl rfl (loadVar_taken (two_set H0.out _ _) rfl)) rfl ⟨by rw [HV.out, HQ.out]; rfl, (B0.out.setCell (Nat.le_refl _) _).setCell (Nat.le_refl _) _⟩

set_option maxRecDepth 100000 in
theorem rtake_any (s : ByteArray) (w : World) :
    Calls Try.prog 34 #[.string s] w fun r w' => r = .returned (match tk (nbs s) with | some (n, k) => .tuple #[.agg #[.int .i64 (n : Int), .int .i64 (k : Int)], .int .i64 0] | none => .tuple #[.agg #[.int .i64 0, .int .i64 0], .int .i64 4]) ∧ Below w.heap.size w w' := by
  cases hn : nbs s with
  | nil =>
    have e : s = bs [] := nbs_inj (by rw [hn, nbs_bs _ (by simp)])
    subst e
    exact rtake_empty w
  | cons b t =>
    have hb : (nbs s)[0]? = some b := by rw [hn]; rfl
    have hl : s.size = t.length + 1 := by rw [← nbs_length, hn]; rfl
    have hlt := nbs_lt s
    rw [hn] at hlt
    have hb2 : b < 256 := hlt b (by simp)
    by_cases h : b < 240
    · refine (rtake_lo s b (by omega) h hb w).mono ?_
      rintro r w' ⟨rfl, h2⟩
      exact ⟨by simp [tk, h], h2⟩
    · by_cases h2 : b - 240 ≤ 6 ∧ b - 240 ≤ t.length
      · refine (rtake_loop s b (b - 240) h2.1 (by omega) (by omega) hb w).mono ?_
        have e : nbs (s.extract 1 (1 + (b - 240))) = t.take (b - 240) := by
          rw [nbs_extract, hn, Nat.add_comm 1]
          rfl
        have e0 : nbs (s.extract 0 (1 + (b - 240))) = b :: t.take (b - 240) := by
          rw [nbs_extract, hn, Nat.add_comm 1]
          rfl
        rw [e, e0]
        rintro r w' ⟨rfl, h3⟩
        refine ⟨?_, h3⟩
        by_cases h1 : 1 ≤ b - 240
        · have hf := fit_iff (t.take (b - 240)) (b - 240) h1 (by simp; omega) (fun x hx => hlt x (by simp; exact .inr (List.mem_of_mem_take hx)))
          rw [show 240 + (b - 240) = b by omega] at hf
          cases hz : decide (vl (t.take (b - 240)) ≤ 1099511627776 ∧ spl (vl (t.take (b - 240))) = b :: t.take (b - 240))
          · have q : ¬ (szn (vl (t.take (b - 240))) = 1 + (b - 240)) := fun q => absurd (hf.1 q) (of_decide_eq_false hz)
            have : ¬ (1 ≤ b - 240 ∧ b - 240 ≤ 6 ∧ b - 240 ≤ t.length ∧ szn (vl (t.take (b - 240))) = 1 + (b - 240)) := fun p => q p.2.2.2
            simp only [tk, if_neg h, if_neg this, cond_false]
          · have q : szn (vl (t.take (b - 240))) = 1 + (b - 240) := hf.2 (of_decide_eq_true hz)
            have : 1 ≤ b - 240 ∧ b - 240 ≤ 6 ∧ b - 240 ≤ t.length ∧ szn (vl (t.take (b - 240))) = 1 + (b - 240) := ⟨h1, h2.1, h2.2, q⟩
            simp only [tk, if_neg h, if_pos this, cond_true]
            rfl
        · have eb : b = 240 := by omega
          subst eb
          rfl
      · refine (rtake_bad s b (b - 240) (by omega) (by omega) hb2 hb (by omega) w).mono ?_
        rintro r w' ⟨rfl, h3⟩
        refine ⟨?_, h3⟩
        have : ¬ (1 ≤ b - 240 ∧ b - 240 ≤ 6 ∧ b - 240 ≤ t.length ∧ szn (vl (t.take (b - 240))) = 1 + (b - 240)) := fun q => h2 ⟨q.2.1, q.2.2.1⟩
        simp only [tk, if_neg h, if_neg this]
theorem rtake_none (s : ByteArray) (h : tk (nbs s) = none) (w : World) :
    Calls Try.prog 34 #[.string s] w fun r w' => r = .returned (.tuple #[.agg #[.int .i64 0, .int .i64 0], .int .i64 4]) ∧ Below w.heap.size w w' := by
  have := rtake_any s w
  rw [h] at this
  exact this
theorem rtake_some (s : ByteArray) (n k : Nat) (h : tk (nbs s) = some (n, k)) (w : World) :
    Calls Try.prog 34 #[.string s] w fun r w' => r = .returned (.tuple #[.agg #[.int .i64 (n : Int), .int .i64 (k : Int)], .int .i64 0]) ∧ Below w.heap.size w w' := by
  have := rtake_any s w
  rw [h] at this
  exact this
end Re
end Go.Proofs.Ytlcaelfkgillmaa
