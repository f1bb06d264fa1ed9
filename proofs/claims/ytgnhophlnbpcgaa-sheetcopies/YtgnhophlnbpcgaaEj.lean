/- Package reel: TakeList, over this seat's program. -/
import Derived.Test.YtgnhophlnbpcgaaEi
namespace Go.Proofs.Ytgnhophlnbpcgaa
open Go.ChangeShapes Go.WideShapes Go.ChangeAt Go.RowKit
namespace Re
open Ba

theorem tk_le {L : List Nat} {n k : Nat} (h : tk L = some (n, k)) : 1 ≤ k ∧ k ≤ L.length := by
  cases L with
  | nil => simp [tk] at h
  | cons b t =>
    simp only [tk] at h
    split at h
    · simp at h
      obtain ⟨_, rfl⟩ := h
      simp
    · split at h
      · rename_i q
        simp at h
        obtain ⟨_, rfl⟩ := h
        simp
        omega
      · simp at h
theorem tk_bound {L : List Nat} {n k : Nat} (h : tk L = some (n, k)) : n ≤ 1099511627776 := by
  cases L with
  | nil => simp [tk] at h
  | cons b t =>
    simp only [tk] at h
    split at h
    · simp at h
      obtain ⟨rfl, _⟩ := h
      omega
    · split at h
      · rename_i q
        simp only [Option.some.injEq, Prod.mk.injEq] at h
        obtain ⟨rfl, _⟩ := h
        have := q.2.2.2
        by_cases e : vl (t.take (b - 240)) ≤ 1099511627776
        · exact e
        · rw [szn_hi _ e] at this; omega
      · simp at h
/-- the first i numbers with which bytes begin, and how many bytes they have -/
def tst (L : List Nat) : Nat → Option (List Int × Nat)
  | 0 => some ([], 0)
  | i + 1 => match tst L i with
    | none => none
    | some (xs, o) => match tk (L.drop o) with
      | none => none
      | some (x, k) => some (xs ++ [(x : Int)], o + k)
theorem tst_some {L : List Nat} : ∀ {i : Nat} {xs : List Int} {o : Nat}, tst L i = some (xs, o) → xs.length = i ∧ i ≤ o ∧ o ≤ L.length
  | 0, xs, o, h => by
    simp [tst] at h
    obtain ⟨rfl, rfl⟩ := h
    simp
  | i + 1, xs, o, h => by
    rw [tst] at h
    cases hi : tst L i with
    | none => rw [hi] at h; simp at h
    | some p =>
      obtain ⟨ys, q⟩ := p
      rw [hi] at h
      have ih := tst_some hi
      simp only at h
      cases ht : tk (L.drop q) with
      | none => rw [ht] at h; simp at h
      | some z =>
        obtain ⟨x, k⟩ := z
        rw [ht] at h
        simp at h
        obtain ⟨rfl, rfl⟩ := h
        have := tk_le ht
        simp at this ⊢
        omega
theorem tst_next {L : List Nat} {i o x k : Nat} {xs : List Int} (h : tst L i = some (xs, o)) (ht : tk (L.drop o) = some (x, k)) : tst L (i + 1) = some (xs ++ [(x : Int)], o + k) := by
  rw [tst, h]; simp only [ht]
theorem tst_stop {L : List Nat} {i o : Nat} {xs : List Int} (h : tst L i = some (xs, o)) (ht : tk (L.drop o) = none) : ∀ n, i < n → tst L n = none := by
  intro n
  induction n with
  | zero => intro q; omega
  | succ n ih =>
    intro q
    by_cases e : i = n
    · subst e
      rw [tst, h]; simp only [ht]
    · rw [tst, ih (by omega)]

theorem run_mk (w : World) (n : Nat) (hn : n ≤ 5000000) : (Instr.makeSlice 36 (.int .i64 (n : Int)) (.int .i64 (n : Int))).run Try.prog w = .ok (.slice (some ⟨w.heap.size, 0, none⟩) n n) (w.alloc (.cells (madeCells #[.int .i64 0] n) 3)) := by
  obtain ⟨i0, hi, hz0, hz1, hz2⟩ := info_parts info_int
  have := run_make (P := Try.prog) w 36 3 i0 (.int .i64 0) Try.underlying36 hi hz0 .i64 .i64 n n (by omega) (Int.le_refl _) (by rw [hz2]; omega) (by omega)
  rw [hz1] at this
  simpa [Value.cells] using this

/-- numbers, and noughts behind them -/
def fillc (xs : List Int) (n : Nat) : Array Value := (xs.map (Value.int .i64) ++ List.replicate (n - xs.length) (Value.int .i64 0)).toArray
theorem fillc_nil (n : Nat) : madeCells #[Value.int .i64 0] n = fillc [] n := by
  apply Array.toList_inj.1
  rw [toList_madeCells_one]
  simp [fillc]
theorem fillc_set (xs : List Int) (n : Nat) (x : Int) (h : xs.length < n) : (fillc xs n).setIfInBounds xs.length (.int .i64 x) = fillc (xs ++ [x]) n := by
  apply Array.toList_inj.1
  obtain ⟨q, hq⟩ : ∃ q, n - xs.length = q + 1 := ⟨n - xs.length - 1, by omega⟩
  have e : n - (xs ++ [x]).length = q := by simp; omega
  simp only [fillc, hq, e, List.replicate_succ, Array.toList_setIfInBounds, List.map_append]
  simp
theorem fillc_at (xs : List Int) (n k : Nat) (h : k < n) : ∃ x : Int, (fillc xs n)[k]? = some (.int .i64 x) := by
  by_cases hk : k < xs.length
  · exact ⟨xs[k], by simp [fillc, List.getElem?_append, hk]⟩
  · refine ⟨0, ?_⟩
    have h2 : k - xs.length < n - xs.length := by omega
    simp only [fillc, List.getElem?_toArray]
    rw [List.getElem?_append_right (by simp; omega), List.length_map, List.getElem?_replicate, if_pos h2]
theorem fillc_row (xs : List Int) (n : Nat) (h : xs.length = n) : fillc xs n = row xs := by simp [fillc, row, h]
theorem At.of {w : World} {b : Nat} {xs : List Int} {t : TypeId} {fr : Nat × Nat} (h : w.heap[b]? = some (.cells (row xs) t fr)) : At w (some ⟨b, 0, none⟩) xs := by
  intro k hk
  refine ⟨b, 0, rfl, ?_⟩
  rw [Nat.zero_add, cell_of h, row_at xs k hk]

/-- the list with which bytes begin, and how many are its own; or the error -/
def tl (L : List Nat) (most : Int) : Except Int (List Int × Nat) :=
  match tk L with
  | none => .error 4
  | some (n, k) => if most < (n : Int) then .error 2 else match tst (L.drop k) n with
    | none => .error 4
    | some (xs, o) => .ok (xs, k + o)
theorem nbs_sfx (s : ByteArray) (a : Nat) : nbs (s.extract a s.size) = (nbs s).drop a := by
  rw [nbs_extract, ← nbs_length, List.take_length]
theorem sfx_sfx (s : ByteArray) (a b : Nat) : (s.extract a s.size).extract b (s.extract a s.size).size = s.extract (a + b) s.size := by
  apply nbs_inj
  rw [nbs_sfx, nbs_sfx, nbs_sfx, List.drop_drop]

set_option maxHeartbeats 800000 in
theorem takelist_none (s : ByteArray) (most : Int) (w : World) (h : tk (nbs s) = none) :
    Calls Try.prog 73 #[.string s, .int .i64 most] w fun r w' => r = .returned (.tuple #[.slice none 0 0, .string (bs []), .int .i64 4]) ∧ Below w.heap.size w w' := by
  have H := hide h
  clear h
  go_enter Try.func73, Try.ntmps73
  go_wp2_with fail
  refine (take_none s H.out _).mono ?_
  rintro r w1 ⟨rfl, b1⟩
  have B1 := hide b1
  clear b1
  go_wp2_with fail
  go_ret3
  exact ⟨rfl, B1.out⟩

set_option maxHeartbeats 800000 in
theorem takelist_long (s : ByteArray) (most : Int) (n k : Nat) (w : World) (h : tk (nbs s) = some (n, k)) (hm : most < (n : Int)) :
    Calls Try.prog 73 #[.string s, .int .i64 most] w fun r w' => r = .returned (.tuple #[.slice none 0 0, .string (bs []), .int .i64 2]) ∧ Below w.heap.size w w' := by
  have H := hide h
  have hd : decide (most < (n : Int)) = true := by simpa using hm
  clear h hm
  go_enter Try.func73, Try.ntmps73
  go_wp2_with fail
  refine (take_some s n k H.out _).mono ?_
  rintro r w1 ⟨rfl, b1⟩
  have B1 := hide b1
  clear b1
  go_wp2_with fail
  go_ret3
  exact ⟨rfl, B1.out⟩

set_option maxHeartbeats 800000 in
theorem takelist_short (s : ByteArray) (most : Int) (n k : Nat) (w : World) (h : tk (nbs s) = some (n, k)) (hm : (n : Int) ≤ most) (hn : s.size - k < n) :
    Calls Try.prog 73 #[.string s, .int .i64 most] w fun r w' => r = .returned (.tuple #[.slice none 0 0, .string (bs []), .int .i64 4]) ∧ Below w.heap.size w w' := by
  have H := hide h
  have hd : decide (most < (n : Int)) = false := by simp; omega
  have hex : (s.extract k s.size).size = s.size - k := by rw [← nbs_length, nbs_sfx, List.length_drop, nbs_length]
  have hd2 : decide (s.size - k < n) = true := by simpa using hn
  have hd3 : decide (((s.size - k : Nat) : Int) < (n : Int)) = true := by simp; omega
  clear h hm
  go_enter Try.func73, Try.ntmps73
  go_wp2_with fail
  refine (take_some s n k H.out _).mono ?_
  rintro r w1 ⟨rfl, b1⟩
  have B1 := hide b1
  clear b1
  go_wp2_with fail
  go_ret3
  exact ⟨rfl, B1.out⟩

set_option maxRecDepth 100000 in
set_option maxHeartbeats 1600000 in
theorem takelist_loop (s : ByteArray) (most : Int) (n k : Nat) (w : World) (h : tk (nbs s) = some (n, k)) (hm : (n : Int) ≤ most) (hn : n ≤ s.size - k) (hs : s.size ≤ 5000000) :
    Calls Try.prog 73 #[.string s, .int .i64 most] w fun r w' => ((tst ((nbs s).drop k) n = none ∧ r = .returned (.tuple #[.slice none 0 0, .string (bs []), .int .i64 4])) ∨ ∃ xs o b, tst ((nbs s).drop k) n = some (xs, o) ∧ r = .returned (.tuple #[.slice (some ⟨b, 0, none⟩) n n, .string (s.extract (k + o) s.size), .int .i64 0]) ∧ At w' (some ⟨b, 0, none⟩) xs ∧ w.heap.size ≤ b) ∧ Below w.heap.size w w' := by
  have H := hide h
  have hk := tk_le h
  rw [nbs_length] at hk
  have hd : decide (most < (n : Int)) = false := by simp; omega
  have hex : (s.extract k s.size).size = s.size - k := by rw [← nbs_length, nbs_sfx, List.length_drop, nbs_length]
  have hd2 : decide (s.size - k < n) = false := by simp; omega
  have hd3 : decide (((s.size - k : Nat) : Int) < (n : Int)) = false := by simp; omega
  clear h hm
  go_enter Try.func73, Try.ntmps73
  go_wp2_with fail
  refine (take_some s n k H.out _).mono ?_
  rintro r w1 ⟨rfl, b1⟩
  have B1 := hide b1
  have mk := run_mk w1 n (by omega)
  have HM := hide (heap_new w1 (.cells (madeCells #[.int .i64 0] n) 3))
  have BM := hide (btr b1 (below_alloc w1 (.cells (madeCells #[.int .i64 0] n) 3)))
  have hw1 := b1.size
  clear b1
  go_wp2_with fail
  generalize w1.alloc (.cells (madeCells #[.int .i64 0] n) 3) = W at HM BM ⊢
  go_loopw [0, 8, 31] (fun t e i wr => ∃ (j o : Nat) (xs : List Int), j ≤ n ∧ i = .int .i64 (j : Int) ∧ e = .int .i64 0 ∧ t = .string (s.extract (k + o) s.size) ∧ tst ((nbs s).drop k) j = some (xs, o) ∧ wr.heap[w1.heap.size]? = some (.cells (fillc xs n) 3 (0, 0)) ∧ Below w.heap.size w wr) (fun _ _ i _ => n - (intOf i).toNat)
  case atStart => exact ⟨0, 0, [], Nat.zero_le _, rfl, rfl, rfl, rfl, by rw [← fillc_nil]; exact HM.out, BM.out⟩
  case round =>
    clear HM BM mk
    obtain ⟨j, o, xs, hj, rfl, rfl, rfl, ht, hh, hb⟩ := hrel
    have HT := hide ht
    have HH := hide hh
    have HB := hide hb
    clear ht hh hb
    by_cases hjn : j < n
    · have hjn' : decide ((j : Int) < (n : Int)) = true := by simp; omega
      have xl := (tst_some HT.out).1
      cases htk : tk (((nbs s).drop k).drop o) with
      | none =>
        have TK := hide htk
        clear htk
        go_wp2_with fail
        refine (take_none (s.extract (k + o) s.size) (by rw [nbs_sfx, ← List.drop_drop]; exact TK.out) _).mono ?_
        rintro r w2 ⟨rfl, b2⟩
        have H2 := hide (heap_below HH.out b2)
        have B2 := hide (btr HB.out b2)
        obtain ⟨x0, hx0⟩ := fillc_at xs n j hjn
        have c0 := (cell_of H2.out j).trans hx0
        have f0 := frozen_of H2.out j
        clear b2 hx0
        go_wp2_with fail
        go_ret3
        exact ⟨.inl ⟨tst_stop HT.out TK.out n hjn, rfl⟩, B2.out.setCell (by omega) _⟩
      | some p =>
        obtain ⟨x, q⟩ := p
        have TK := hide htk
        clear htk
        go_wp2_with fail
        refine (take_some (s.extract (k + o) s.size) x q (by rw [nbs_sfx, ← List.drop_drop]; exact TK.out) _).mono ?_
        rw [sfx_sfx]
        rintro r w2 ⟨rfl, b2⟩
        have H2 := hide (heap_below HH.out b2)
        have B2 := hide (btr HB.out b2)
        obtain ⟨x0, hx0⟩ := fillc_at xs n j hjn
        have c0 := (cell_of H2.out j).trans hx0
        have f0 := frozen_of H2.out j
        clear b2 hx0
        go_wp2_with fail
        go_roundw
        case rel => exact ⟨j + 1, o + q, xs ++ [(x : Int)], by omega, by go_num, rfl, by rw [Nat.add_assoc], tst_next HT.out TK.out, by
            rw [Ba.heap_setCell_same H2.out, ← xl, fillc_set xs n x (by omega)], B2.out.setCell (by omega) _⟩
        case measure => simp [intOf]; omega
    · have hjn' : decide ((j : Int) < (n : Int)) = false := by simp; omega
      have e : j = n := by omega
      subst e
      have xl := (tst_some HT.out).1
      go_wp2_with fail
      go_ret3
      exact ⟨.inr ⟨xs, o, w1.heap.size, HT.out, rfl, At.of (by rw [← fillc_row xs j xl]; exact HH.out), by omega⟩, HB.out⟩

theorem takelist_err (s : ByteArray) (most e : Int) (w : World) (h : tl (nbs s) most = .error e) (hs : s.size ≤ 5000000) :
    Calls Try.prog 73 #[.string s, .int .i64 most] w fun r w' => r = .returned (.tuple #[.slice none 0 0, .string (bs []), .int .i64 e]) ∧ Below w.heap.size w w' := by
  unfold tl at h
  cases ht : tk (nbs s) with
  | none =>
    rw [ht] at h
    simp at h
    subst h
    exact takelist_none s most w ht
  | some p =>
    obtain ⟨n, k⟩ := p
    rw [ht] at h
    simp only at h
    by_cases hm : most < (n : Int)
    · rw [if_pos hm] at h
      simp at h
      subst h
      exact takelist_long s most n k w ht hm
    · rw [if_neg hm] at h
      cases hq : tst ((nbs s).drop k) n with
      | some p => rw [hq] at h; simp at h
      | none =>
        rw [hq] at h
        simp at h
        subst h
        by_cases hn : n ≤ s.size - k
        · refine (takelist_loop s most n k w ht (by omega) hn hs).mono ?_
          rintro r w' ⟨⟨_, rfl⟩ | ⟨xs, o, b, q, _⟩, hb⟩
          · exact ⟨rfl, hb⟩
          · rw [hq] at q; cases q
        · exact takelist_short s most n k w ht (by omega) (by omega)
theorem takelist_ok_f (s : ByteArray) (most : Int) (xs : List Int) (z : Nat) (w : World) (h : tl (nbs s) most = .ok (xs, z)) (hs : s.size ≤ 5000000) :
    Calls Try.prog 73 #[.string s, .int .i64 most] w fun r w' => ∃ b, r = .returned (.tuple #[.slice (some ⟨b, 0, none⟩) xs.length xs.length, .string (s.extract z s.size), .int .i64 0]) ∧ At w' (some ⟨b, 0, none⟩) xs ∧ w.heap.size ≤ b ∧ Below w.heap.size w w' := by
  unfold tl at h
  cases ht : tk (nbs s) with
  | none => rw [ht] at h; simp at h
  | some p =>
    obtain ⟨n, k⟩ := p
    rw [ht] at h
    simp only at h
    by_cases hm : most < (n : Int)
    · rw [if_pos hm] at h; simp at h
    · rw [if_neg hm] at h
      cases hq : tst ((nbs s).drop k) n with
      | none => rw [hq] at h; simp at h
      | some p =>
        obtain ⟨ys, o⟩ := p
        rw [hq] at h
        simp at h
        obtain ⟨rfl, rfl⟩ := h
        have hl := tst_some hq
        rw [List.length_drop, nbs_length] at hl
        refine (takelist_loop s most n k w ht (by omega) (by omega) hs).mono ?_
        rintro r w' ⟨⟨q, _⟩ | ⟨xs, o', b, q, rfl, hA, hF⟩, hb⟩
        · rw [hq] at q; cases q
        · rw [hq] at q
          simp at q
          obtain ⟨rfl, rfl⟩ := q
          rw [hl.1]
          exact ⟨b, rfl, hA, hF, hb⟩
theorem takelist_ok (s : ByteArray) (most : Int) (xs : List Int) (z : Nat) (w : World) (h : tl (nbs s) most = .ok (xs, z)) (hs : s.size ≤ 5000000) :
    Calls Try.prog 73 #[.string s, .int .i64 most] w fun r w' => ∃ b, r = .returned (.tuple #[.slice (some ⟨b, 0, none⟩) xs.length xs.length, .string (s.extract z s.size), .int .i64 0]) ∧ At w' (some ⟨b, 0, none⟩) xs ∧ Below w.heap.size w w' := by
  refine (takelist_ok_f s most xs z w h hs).mono ?_
  rintro r w' ⟨b, h1, h2, _, h3⟩
  exact ⟨b, h1, h2, h3⟩
theorem tl_size {L : List Nat} {most : Int} {xs : List Int} {z : Nat} (h : tl L most = .ok (xs, z)) : xs.length < z ∧ z ≤ L.length := by
  unfold tl at h
  cases ht : tk L with
  | none => rw [ht] at h; simp at h
  | some p =>
    obtain ⟨n, k⟩ := p
    rw [ht] at h
    simp only at h
    by_cases hm : most < (n : Int)
    · rw [if_pos hm] at h; simp at h
    · rw [if_neg hm] at h
      cases hq : tst (L.drop k) n with
      | none => rw [hq] at h; simp at h
      | some p =>
        obtain ⟨ys, o⟩ := p
        rw [hq] at h
        simp at h
        obtain ⟨rfl, rfl⟩ := h
        have hl := tst_some hq
        have hk := tk_le ht
        rw [List.length_drop] at hl
        omega
end Re
end Go.Proofs.Ytgnhophlnbpcgaa
