/- The reference's TakeList, over this seat's program. -/
import Derived.Test.YtgnhophlnbpcgaaEj
namespace Go.Proofs.Ytgnhophlnbpcgaa
open Go.ChangeShapes Go.WideShapes Go.ChangeAt Go.RowKit
namespace Re
open Ba

theorem size_list : (Try.prog.info? 129).map (·.size) = some 2 := by kernel_rfl
theorem loadVar_list {w : World} {b : Nat} {c : Array Value} {t : TypeId} (h : w.heap[b]? = some (.cells c t (0, 0))) (hc : c.size = 2) : (loadVar 129 ⟨b, 0, none⟩).run Try.prog w = .ok (.agg c) w :=
  run_loadVar_row w b t _ _ _ _ h Try.underlying129 rfl (by rw [size_list, hc])

theorem owns_setCell {w : World} {base : Nat} {e : TypeId} {size : Nat} {v : Value} {n : Nat} {xs : List Value} (h : w.ownsRow base e size v n xs) (b i : Nat) (hb : b < base) (u : Value) : (w.setCell ⟨b, i, none⟩ u).ownsRow base e size v n xs := by
  refine ⟨h.1, ?_⟩
  rcases h.2 with q | ⟨g, cap, cur, q1, q2, q3, q4⟩
  · exact .inl q
  · exact .inr ⟨g, cap, cur, q1, q2, (Below.heap_setCell _ _ _ _ (by show g ≠ b; omega)).trans q3, q4⟩
theorem heap_lt {w : World} {b : Nat} {o : Obj} (h : w.heap[b]? = some o) : b < w.heap.size := by
  rcases Nat.lt_or_ge b w.heap.size with q | q
  · exact q
  · rw [Array.getElem?_eq_none q] at h; cases h

/-- what the reference's loop keeps: the answer's room R, the head's at A, what it has so far at A + 1 -/
structure LK (w wr : World) (R A : Nat) (n k : Nat) (v : Value) (z : Nat) (xs : List Int) : Prop where
  res : wr.heap[R]? = some (.cells #[.slice none 0 0, .int .i64 0] 129 (0, 0))
  head : wr.heap[A]? = some (.cells #[.int .i64 (n : Int), .int .i64 (k : Int)] 113 (0, 0))
  out : wr.heap[A + 1]? = some (.cells #[v, .int .i64 (z : Int)] 129 (0, 0))
  own : wr.ownsRow (A + 2) 3 1 v xs.length (xs.map (Value.int .i64))
  lt : R < A
  ge : w.heap.size ≤ R
  bel : Below w.heap.size w wr
theorem LK.below {w wr wr' : World} {R A n k z : Nat} {v : Value} {xs : List Int} (h : LK w wr R A n k v z xs) (hb : Below wr.heap.size wr wr') : LK w wr' R A n k v z xs :=
  ⟨heap_below h.res hb, heap_below h.head hb, heap_below h.out hb, owns_below h.own hb, h.lt, h.ge, btr h.bel hb⟩
theorem LK.grown {w wr wr' : World} {R A n k z : Nat} {v v' : Value} {xs xs' : List Int} (h : LK w wr R A n k v z xs) (hg : wr.grownBy wr' v.ownBlock) (ho : wr'.ownsRow (A + 2) 3 1 v' xs'.length (xs'.map (Value.int .i64))) (z' : Nat) :
    LK w ((wr'.setCell ⟨A + 1, 0, none⟩ v').setCell ⟨A + 1, 1, none⟩ (.int .i64 (z' : Int))) R A n k v' z' xs' := by
  have hw := heap_lt h.out
  have hl := h.lt
  have hge := h.ge
  have ne : ∀ b, b < A + 2 → some b ≠ v.ownBlock := fun b hb e => by
    have := (h.own.lt b e.symm).1
    omega
  have e1 := (hg.block R (by omega) (ne R (by omega))).trans h.res
  have e2 := (hg.block A (by omega) (ne A (by omega))).trans h.head
  have e3 := (hg.block (A + 1) (by omega) (ne (A + 1) (by omega))).trans h.out
  refine ⟨?_, ?_, two_set e3 _ _, owns_setCell (owns_setCell ho _ _ (by omega) _) _ _ (by omega) _, hl, hge, ?_⟩
  · rw [Below.heap_setCell _ _ _ _ (by show R ≠ A + 1; omega), Below.heap_setCell _ _ _ _ (by show R ≠ A + 1; omega)]
    exact e1
  · rw [Below.heap_setCell _ _ _ _ (by show A ≠ A + 1; omega), Below.heap_setCell _ _ _ _ (by show A ≠ A + 1; omega)]
    exact e2
  · exact ((h.bel.grown hg h.bel.size (fun x hx => by have := (h.own.lt x hx).1; omega)).setCell (by show w.heap.size ≤ A + 1; omega) _).setCell (by show w.heap.size ≤ A + 1; omega) _

set_option maxRecDepth 100000 in
set_option maxHeartbeats 3200000 in
theorem rtakelist_loop (s : ByteArray) (most : Int) (n k : Nat) (w : World) (h : tk (nbs s) = some (n, k)) (hm : (n : Int) ≤ most) (hs : s.size ≤ 5000000) :
    Calls Try.prog 74 #[.string s, .int .i64 most] w fun r w' => ((tst ((nbs s).drop k) n = none ∧ r = .returned (.tuple #[.agg #[.slice none 0 0, .int .i64 0], .int .i64 4])) ∨ ∃ xs o oa c, tst ((nbs s).drop k) n = some (xs, o) ∧ r = .returned (.tuple #[.agg #[.slice oa n c, .int .i64 ((k + o : Nat) : Int)], .int .i64 0]) ∧ At w' oa xs) ∧ Below w.heap.size w w' := by
  have H := hide h
  have hk := tk_le h
  rw [nbs_length] at hk
  have hd : decide (most < (n : Int)) = false := by simp; omega
  obtain ⟨i0, hi, hz0, hz1, hz2⟩ := info_parts info_int
  have INF := hide (And.intro hi (And.intro hz0 (And.intro hz1 hz2)))
  clear hi hz0 hz1 hz2 h hm
  go_enter Try.func74, Try.ntmps74
  go_wp2_with fail
  refine (rtake_some s n k H.out _).mono ?_
  rintro r w1 ⟨rfl, b1⟩
  have HR := heap_below (heap_new w (.cells #[.slice none 0 0, .int .i64 0] 129)) b1
  have hR := heap_lt HR
  have BT := btr (below_alloc w1 (.cells #[.int .i64 (n : Int), .int .i64 (k : Int)] 113)) (below_alloc (w1.alloc (.cells #[.int .i64 (n : Int), .int .i64 (k : Int)] 113)) (.cells #[.slice none 0 0, .int .i64 (k : Int)] 129))
  have ho := heap_new (w1.alloc (.cells #[.int .i64 (n : Int), .int .i64 (k : Int)] 113)) (.cells #[.slice none 0 0, .int .i64 (k : Int)] 129)
  rw [World.size_alloc] at ho
  have L0 : Hid (LK w ((w1.alloc (.cells #[.int .i64 (n : Int), .int .i64 (k : Int)] 113)).alloc (.cells #[.slice none 0 0, .int .i64 (k : Int)] 129)) w.heap.size w1.heap.size n k (.slice none 0 0) k []) :=
    ⟨heap_below HR BT, heap_below (heap_new _ _) (below_alloc _ _), ho, World.ownsRow_nil _ _ _ _, hR, Nat.le_refl _, btr (btr (below_alloc _ _) b1) BT⟩
  clear b1 HR BT ho
  go_wp2_with fail
  generalize ((w1.alloc (.cells #[.int .i64 (n : Int), .int .i64 (k : Int)] 113)).alloc (.cells #[.slice none 0 0, .int .i64 (k : Int)] 129)) = W at L0 ⊢
  go_loopw [9] (fun i wr => ∃ (j o : Nat) (xs : List Int) (v : Value), j ≤ n ∧ i = .int .i64 (j : Int) ∧ tst ((nbs s).drop k) j = some (xs, o) ∧ LK w wr w.heap.size w1.heap.size n k v (k + o) xs) (fun i _ => n - (intOf i).toNat)
  case atStart => exact ⟨0, 0, [], _, Nat.zero_le _, rfl, rfl, L0.out⟩
  case round =>
    clear L0
    obtain ⟨j, o, xs, v, hj, rfl, ht, hlk⟩ := hrel
    have c2 := cell_of hlk.head 0
    have c3 := cell_of hlk.out 0
    have c4 := cell_of hlk.out 1
    have f3 := frozen_of hlk.out 0
    have f4 := frozen_of hlk.out 1
    simp at c2 c3 c4
    have HT := hide ht
    have LL := hide hlk
    have xl := tst_some ht
    rw [List.length_drop, nbs_length] at xl
    by_cases hjn : j < n
    · have hjn' : decide ((j : Int) < (n : Int)) = true := by simp; omega
      cases htk : tk (((nbs s).drop k).drop o) with
      | none =>
        have TK := hide htk
        clear htk ht hlk
        go_wp2_with fail
        refine (rtake_none (s.extract (k + o) s.size) (by rw [nbs_sfx, ← List.drop_drop]; exact TK.out) _).mono ?_
        rintro r w2 ⟨rfl, b2⟩
        have L2 := hide (LL.out.below b2)
        have r0 := cell_of L2.out.res 0
        have r1 := cell_of L2.out.res 1
        have g0 := frozen_of L2.out.res 0
        have g1 := frozen_of L2.out.res 1
        have rlt := heap_lt L2.out.res
        simp at r0 r1
        clear b2
        go_wp2_with fail
        exact bodyPost_ret (results_row2 Try.results74 _ _ _ _ _ rfl rfl (loadVar_list (heap_below (two_set L2.out.res _ _) (below_alloc _ _)) rfl)) rfl ⟨.inl ⟨tst_stop HT.out TK.out n hjn, rfl⟩, btr ((L2.out.bel.setCell (Nat.le_refl _) _).setCell (Nat.le_refl _) _) (below_alloc _ _)⟩
      | some p =>
        obtain ⟨x, q⟩ := p
        have TK := hide htk
        have hx := tk_bound htk
        have hq := tk_le htk
        rw [List.length_drop, List.length_drop, nbs_length] at hq
        clear htk ht hlk
        go_wp2_with fail
        refine (rtake_some (s.extract (k + o) s.size) x q (by rw [nbs_sfx, ← List.drop_drop]; exact TK.out) _).mono ?_
        rintro r w2 ⟨rfl, b2⟩
        have L2 := hide (LL.out.below b2)
        have o0 := cell_of L2.out.out 0
        have o1 := cell_of L2.out.out 1
        have g0 := frozen_of L2.out.out 0
        have g1 := frozen_of L2.out.out 1
        have olt := heap_lt L2.out.out
        simp at o0 o1
        clear b2
        have L3 := hide (L2.out.below (btr (below_alloc w2 (.cells #[.int .i64 (x : Int), .int .i64 (q : Int)] 113)) (below_alloc (w2.alloc (.cells #[.int .i64 (x : Int), .int .i64 (q : Int)] 113)) (.cells #[.int .i64 (x : Int)] 3))))
        have T3 := hide (heap_below (heap_new w2 (.cells #[.int .i64 (x : Int), .int .i64 (q : Int)] 113)) (below_alloc (w2.alloc (.cells #[.int .i64 (x : Int), .int .i64 (q : Int)] 113)) (.cells #[.int .i64 (x : Int)] 3)))
        have N3 := hide (tst_next HT.out TK.out)
        go_wp2_with (at_builtin; refine wpList_append_own _ rfl _ _ 36 rfl (w1.heap.size + 2) 3 i0 (.int .i64 0) 1 8 Try.underlying36 INF.out.1 INF.out.2.1 INF.out.2.2.1 INF.out.2.2.2 rfl (by decide) _ _ _ rfl L3.out.own ⟨w2.heap.size + 1, 0, none⟩ 1 1 [.int .i64 (x : Int)] rfl rfl ?c1 ?c2 ?c3 ?c4 ?c5 ?_)
        case c1 =>
          intro j' u hj'
          match j', hj' with
          | 0, hj' =>
            simp at hj'
            subst hj'
            have := cell_of (heap_new (w2.alloc (.cells #[.int .i64 (x : Int), .int .i64 (q : Int)] 113)) (.cells #[.int .i64 (x : Int)] 3)) 0
            rw [World.size_alloc] at this
            rw [Addr.add_lit]
            exact this
        case c2 => intro u hu; simp at hu; subst hu; rfl
        case c3 => unfold maxLen; omega
        case c4 => omega
        case c5 => simp; omega
        intro v' w3 hown0 hgrow _
        have hown' : w3.ownsRow (w1.heap.size + 2) 3 1 v' (xs ++ [(x : Int)]).length ((xs ++ [(x : Int)]).map (Value.int .i64)) := by
          rw [List.map_append, List.length_append, xl.1]
          exact hown0
        clear hown0
        obtain ⟨oa', c', hv', _⟩ := owns_at hown'
        subst hv'
        have hlt2 := L2.out.own.lt
        have t1 := cell_of ((hgrow.block w2.heap.size (by simp; omega) (fun e => by have := (hlt2 _ e.symm).2; omega)).trans T3.out) 1
        have ne : ∀ b, b < w1.heap.size + 2 → some b ≠ v.ownBlock := fun b hb e => by
          have := (hlt2 b e.symm).1
          omega
        have p3 := (hgrow.block (w1.heap.size + 1) (by simp; omega) (ne _ (by omega))).trans L3.out.out
        have o2 := cell_of p3 0
        have o3 := cell_of p3 1
        have g2 := frozen_of p3 0
        have g3 := frozen_of p3 1
        simp at t1 o2 o3
        have L4 : Hid (LK w ((w3.setCell ⟨w1.heap.size + 1, 0, none⟩ (.slice oa' (xs ++ [(x : Int)]).length c')).setCell ⟨w1.heap.size + 1, 1, none⟩ (.int .i64 ((k + (o + q) : Nat) : Int))) w.heap.size w1.heap.size n k (.slice oa' (xs ++ [(x : Int)]).length c') (k + (o + q)) (xs ++ [(x : Int)])) := L3.out.grown hgrow hown' (k + (o + q))
        rw [show (xs ++ [(x : Int)]).length = j + 1 by simp [xl.1]] at L4
        clear hown' hgrow p3 ne hlt2
        go_wp2_with fail
        go_roundw
        case rel => exact ⟨j + 1, o + q, xs ++ [(x : Int)], _, by omega, by go_num, N3.out, by
            rw [show ((k : Int) + (o : Int) + (q : Int)) = ((k + (o + q) : Nat) : Int) by omega]
            exact L4.out⟩
        case measure => simp [intOf]; omega
    · have hjn' : decide ((j : Int) < (n : Int)) = false := by simp; omega
      have e : j = n := by omega
      subst e
      have r0 := cell_of hlk.res 0
      have r1 := cell_of hlk.res 1
      have g0 := frozen_of hlk.res 0
      have g1 := frozen_of hlk.res 1
      simp at r0 r1
      obtain ⟨oa, c, hv, hat⟩ := owns_at hlk.own
      rw [xl.1] at hv
      subst hv
      have AT2 : Hid (At ((wr.setCell ⟨w.heap.size, 0, none⟩ (.slice oa j c)).setCell ⟨w.heap.size, 1, none⟩ (.int .i64 ((k + o : Nat) : Int))) oa xs) := by
        have q1 := owns_setCell (owns_setCell hlk.own w.heap.size 0 (by have := hlk.lt; omega) (.slice oa j c)) w.heap.size 1 (by have := hlk.lt; omega) (.int .i64 ((k + o : Nat) : Int))
        obtain ⟨oa', c', hv', hat'⟩ := owns_at q1
        simp at hv'
        obtain ⟨rfl, _, rfl⟩ := hv'
        exact hat'
      clear ht hlk hat
      go_wp2_with fail
      exact bodyPost_ret (results_row2 Try.results74 _ _ _ _ _ rfl rfl (loadVar_list (two_set LL.out.res _ _) rfl)) rfl ⟨.inr ⟨xs, o, oa, c, HT.out, rfl, AT2.out⟩, (LL.out.bel.setCell (Nat.le_refl _) _).setCell (Nat.le_refl _) _⟩

set_option maxRecDepth 100000 in
set_option maxHeartbeats 1600000 in
theorem rtakelist_none (s : ByteArray) (most : Int) (w : World) (h : tk (nbs s) = none) :
    Calls Try.prog 74 #[.string s, .int .i64 most] w fun r w' => r = .returned (.tuple #[.agg #[.slice none 0 0, .int .i64 0], .int .i64 4]) ∧ Below w.heap.size w w' := by
  have H := hide h
  clear h
  go_enter Try.func74, Try.ntmps74
  go_wp2_with fail
  refine (rtake_none s H.out _).mono ?_
  rintro r w1 ⟨rfl, b1⟩
  have HR := heap_below (heap_new w (.cells #[.slice none 0 0, .int .i64 0] 129)) b1
  have rlt := heap_lt HR
  have r0 := cell_of HR 0
  have r1 := cell_of HR 1
  have g0 := frozen_of HR 0
  have g1 := frozen_of HR 1
  simp at r0 r1
  have HH := hide HR
  have B1 := hide (btr (below_alloc _ _) b1)
  clear HR b1
  go_wp2_with fail
  exact bodyPost_ret (results_row2 Try.results74 _ _ _ _ _ rfl rfl (loadVar_list (heap_below (two_set HH.out _ _) (below_alloc _ _)) rfl)) rfl ⟨rfl, btr ((B1.out.setCell (Nat.le_refl _) _).setCell (Nat.le_refl _) _) (below_alloc _ _)⟩

set_option maxRecDepth 100000 in
set_option maxHeartbeats 1600000 in
theorem rtakelist_long (s : ByteArray) (most : Int) (n k : Nat) (w : World) (h : tk (nbs s) = some (n, k)) (hm : most < (n : Int)) :
    Calls Try.prog 74 #[.string s, .int .i64 most] w fun r w' => r = .returned (.tuple #[.agg #[.slice none 0 0, .int .i64 0], .int .i64 2]) ∧ Below w.heap.size w w' := by
  have H := hide h
  have hd : decide (most < (n : Int)) = true := by simpa using hm
  clear h hm
  go_enter Try.func74, Try.ntmps74
  go_wp2_with fail
  refine (rtake_some s n k H.out _).mono ?_
  rintro r w1 ⟨rfl, b1⟩
  have HR := heap_below (heap_new w (.cells #[.slice none 0 0, .int .i64 0] 129)) b1
  have rlt := heap_lt HR
  have r0 := cell_of HR 0
  have r1 := cell_of HR 1
  have g0 := frozen_of HR 0
  have g1 := frozen_of HR 1
  simp at r0 r1
  have HH := hide HR
  have B1 := hide (btr (below_alloc _ _) b1)
  clear HR b1
  go_wp2_with fail
  exact bodyPost_ret (results_row2 Try.results74 _ _ _ _ _ rfl rfl (loadVar_list (heap_below (two_set HH.out _ _) (below_alloc _ _)) rfl)) rfl ⟨rfl, btr ((B1.out.setCell (Nat.le_refl _) _).setCell (Nat.le_refl _) _) (below_alloc _ _)⟩

theorem rtakelist_err (s : ByteArray) (most e : Int) (w : World) (h : tl (nbs s) most = .error e) (hs : s.size ≤ 5000000) :
    Calls Try.prog 74 #[.string s, .int .i64 most] w fun r w' => r = .returned (.tuple #[.agg #[.slice none 0 0, .int .i64 0], .int .i64 e]) ∧ Below w.heap.size w w' := by
  unfold tl at h
  cases ht : tk (nbs s) with
  | none =>
    rw [ht] at h
    simp at h
    subst h
    exact rtakelist_none s most w ht
  | some p =>
    obtain ⟨n, k⟩ := p
    rw [ht] at h
    simp only at h
    by_cases hm : most < (n : Int)
    · rw [if_pos hm] at h
      simp at h
      subst h
      exact rtakelist_long s most n k w ht hm
    · rw [if_neg hm] at h
      cases hq : tst ((nbs s).drop k) n with
      | some p => rw [hq] at h; simp at h
      | none =>
        rw [hq] at h
        simp at h
        subst h
        refine (rtakelist_loop s most n k w ht (by omega) hs).mono ?_
        rintro r w' ⟨⟨_, rfl⟩ | ⟨xs, o, oa, c, q, _⟩, hb⟩
        · exact ⟨rfl, hb⟩
        · rw [hq] at q; cases q
theorem rtakelist_ok (s : ByteArray) (most : Int) (xs : List Int) (z : Nat) (w : World) (h : tl (nbs s) most = .ok (xs, z)) (hs : s.size ≤ 5000000) :
    Calls Try.prog 74 #[.string s, .int .i64 most] w fun r w' => ∃ oa c, r = .returned (.tuple #[.agg #[.slice oa xs.length c, .int .i64 (z : Int)], .int .i64 0]) ∧ At w' oa xs ∧ Below w.heap.size w w' := by
  unfold tl at h
  cases ht : tk (nbs s) with
  | none => rw [ht] at h; simp at h
  | some p =>
    obtain ⟨n, k⟩ := p
    rw [ht] at h
    simp only at h
    by_cases hm : most < (n : Int)
    · rw [if_pos hm] at h; simp at h
    · rw [if_neg hm] at h
      cases hq : tst ((nbs s).drop k) n with
      | none => rw [hq] at h; simp at h
      | some p =>
        obtain ⟨ys, o⟩ := p
        rw [hq] at h
        simp at h
        obtain ⟨rfl, rfl⟩ := h
        have hl := tst_some hq
        refine (rtakelist_loop s most n k w ht (by omega) hs).mono ?_
        rintro r w' ⟨⟨q, _⟩ | ⟨xs, o', oa, c, q, rfl, hA⟩, hb⟩
        · rw [hq] at q; cases q
        · rw [hq] at q
          simp at q
          obtain ⟨rfl, rfl⟩ := q
          rw [hl.1]
          exact ⟨oa, c, rfl, hA, hb⟩
end Re
end Go.Proofs.Ytgnhophlnbpcgaa
