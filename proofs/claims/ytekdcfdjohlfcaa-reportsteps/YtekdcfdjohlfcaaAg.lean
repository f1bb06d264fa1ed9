/- Package cell, over this seat's program: Read. -/
import Derived.Test.YtekdcfdjohlfcaaAf
namespace Go.Proofs.Ytekdcfdjohlfcaa
open Go.ChangeShapes Go.WideShapes Go.ChangeAt Go.RowKit
namespace Ce
open Ck
open Ba (KF Bd Nw hide)
open Ep (tidOf clkOf ownB)

/-- what the rest is -/
def kept (own : Int) (l : List Int) (rd : List Int) : List Int := rd.filter fun x => !kn own l x
/-- a read -/
def rdS (st : Cst) (e : Int) (l : List Int) : Cst := { st with rd := insL (kept (tidOf e) l st.rd) (pos (kept (tidOf e) l st.rd) (tidOf e)) e }
def rdR (st : Cst) (e : Int) (l : List Int) : Int := if kn (tidOf e) l st.last = true then 0 else 1
theorem nth_mem {l : List Int} {k : Nat} (h : k < l.length) : nth l k ∈ l := by rw [nth_lt l k h]; exact List.getElem_mem h
theorem mem_nth {l : List Int} {x : Int} (h : x ∈ l) : ∃ k, k < l.length ∧ nth l k = x := by
  obtain ⟨k, hk, rfl⟩ := List.getElem_of_mem h
  exact ⟨k, hk, nth_lt l k hk⟩
theorem srt_pw {l : List Int} : Srt l ↔ l.Pairwise (fun a b => tidOf a < tidOf b) := by
  rw [List.pairwise_iff_getElem]
  constructor
  · intro h i j hi hj hij
    have := h i j hij hj
    rwa [nth_lt l i hi, nth_lt l j hj] at this
  · intro h i j hij hj
    rw [nth_lt l i (by omega), nth_lt l j hj]
    exact h i j (by omega) hj hij
theorem srt_filter {l : List Int} (h : Srt l) (p : Int → Bool) : Srt (l.filter p) := srt_pw.2 ((srt_pw.1 h).filter p)
theorem srt_nil : Srt [] := fun _ _ _ h => absurd h (Nat.not_lt_zero _)
theorem pos_le (l : List Int) (t : Int) : pos l t ≤ l.length := (List.takeWhile_prefix _).length_le
/-- ahead of the place all are less -/
theorem pos_lt {l : List Int} {t : Int} {k : Nat} (h : k < pos l t) : tidOf (nth l k) < t := by
  have hk : k < (l.takeWhile fun e => decide (tidOf e < t)).length := h
  have hm : decide (tidOf ((l.takeWhile fun e => decide (tidOf e < t))[k]) < t) = true := (List.all_eq_true.1 (List.all_takeWhile (l := l) (p := fun e => decide (tidOf e < t)))) _ (List.getElem_mem hk)
  have e : (l.takeWhile fun e => decide (tidOf e < t))[k] = nth l k := by
    rw [nth_lt l k (Nat.lt_of_lt_of_le h (pos_le l t))]
    have := List.takeWhile_prefix (l := l) (fun e => decide (tidOf e < t))
    exact List.IsPrefix.getElem this hk
  rw [e] at hm
  simpa using hm
theorem tw_stop (p : Int → Bool) : ∀ l : List Int, (l.takeWhile p).length < l.length → p (nth l (l.takeWhile p).length) = false
  | [], h => absurd h (Nat.not_lt_zero _)
  | x :: r, h => by
    by_cases hx : p x = true
    · rw [List.takeWhile_cons, if_pos hx] at h ⊢
      rw [List.length_cons, nth_cons_succ]
      exact tw_stop p r (by simpa using h)
    · rw [List.takeWhile_cons, if_neg hx, List.length_nil, nth_cons_zero]
      simpa using hx
theorem pos_ge {l : List Int} (hs : Srt l) {t : Int} {k : Nat} (h : pos l t ≤ k) (hk : k < l.length) : t ≤ tidOf (nth l k) := by
  have h0 := tw_stop (fun e => decide (tidOf e < t)) l (show pos l t < l.length by omega)
  have h1 : t ≤ tidOf (nth l (pos l t)) := by simpa [pos] using h0
  by_cases e : k = pos l t
  · rw [e]; exact h1
  · have := hs (pos l t) k (by omega) hk
    omega
theorem srt_ins {l : List Int} (hs : Srt l) {e : Int} (hn : ∀ x ∈ l, tidOf x ≠ tidOf e) : Srt (insL l (pos l (tidOf e)) e) := by
  have hp := pos_le l (tidOf e)
  intro i j hij hj
  rw [ins_len l _ e hp] at hj
  have gt_ : ∀ k, pos l (tidOf e) ≤ k → k < l.length → tidOf e < tidOf (nth l k) := fun k h1 h2 => by
    have := pos_ge hs h1 h2
    have := hn _ (nth_mem h2)
    omega
  rcases Nat.lt_trichotomy j (pos l (tidOf e)) with q | q | q
  · rw [nth_ins_lt l _ i e hp (by omega), nth_ins_lt l _ j e hp q]
    exact hs i j hij (by omega)
  · rw [q, nth_ins_at l _ e hp, nth_ins_lt l _ i e hp (by omega)]
    exact pos_lt (by omega)
  · rw [nth_ins_gt l _ j e hp q]
    rcases Nat.lt_trichotomy i (pos l (tidOf e)) with r | r | r
    · rw [nth_ins_lt l _ i e hp r]
      exact Int.lt_of_lt_of_le (pos_lt r) (pos_ge hs (by omega) (by omega))
    · rw [r, nth_ins_at l _ e hp]
      exact gt_ _ (by omega) (by omega)
    · rw [nth_ins_gt l _ i e hp r]
      exact hs _ _ (by omega) (by omega)
theorem mem_ins {l : List Int} {i : Nat} {e x : Int} : x ∈ insL l i e ↔ x = e ∨ x ∈ l := by
  unfold insL
  rw [List.mem_append, List.mem_cons]
  constructor
  · rintro (h | h | h)
    · exact .inr (List.mem_of_mem_take h)
    · exact .inl h
    · exact .inr (List.mem_of_mem_drop h)
  · rintro (h | h)
    · exact .inr (.inl h)
    · rw [← List.take_append_drop i l, List.mem_append] at h
      rcases h with h | h
      · exact .inl h
      · exact .inr (.inr h)
theorem kept_ne {own : Int} {l rd : List Int} {x : Int} (h : x ∈ kept own l rd) : tidOf x ≠ own := by
  have := (List.mem_filter.1 h).2
  simp [kn] at this
  exact this.1
theorem Gd.read {st : Cst} (h : Gd st) {e : Int} (ho : ownB e = true) (l : List Int) : Gd (rdS st e l) := by
  refine ⟨h.la, fun x hx => ?_, srt_ins (srt_filter h.so _) fun x hx => kept_ne hx⟩
  rcases mem_ins.1 hx with q | q
  · rw [q]; exact ho
  · exact h.ro x (List.mem_filter.1 q).1

theorem btr {a b c : World} (h : Below a.heap.size a b) (k : Below b.heap.size b c) : Below a.heap.size a c := h.trans (k.mono h.size)
theorem head_set {w : World} {X : Nat} {a v v' c : Value} (h : w.heap[X]? = some (.cells #[a, v, c] 134 (0, 0))) : (w.setCell ⟨X, 1, none⟩ v').heap[X]? = some (.cells #[a, v', c] 134 (0, 0)) := by
  have := Ba.heap_setCell_same (i := 1) h v'
  simpa using this
theorem own_set1 {w : World} {e : TypeId} {v : Value} {n S i : Nat} {xs : List Value} {u : Value} (h : w.ownsRow 0 e 1 v n xs) (hne : v.ownBlock ≠ some S) : (w.setCell ⟨S, i, none⟩ u).ownsRow 0 e 1 v n xs := by
  refine ⟨h.1, ?_⟩
  rcases h.2 with q | ⟨g, cap, cr, rfl, h0, hg, q⟩
  · exact .inl q
  · refine .inr ⟨g, cap, cr, rfl, h0, ?_, q⟩
    have : S ≠ g := fun e => hne (by rw [← e]; rfl)
    simp [World.setCell, Array.getElem?_modify, this, hg]
theorem enter_kn : ∀ (a : Array Value) (u : World), (callFunc 83 a).run Try.prog u = .ok (.enter 83 a) u := fun _ _ => by rfl

set_option maxRecDepth 100000 in
set_option maxHeartbeats 6400000 in
theorem read_ok {Y : Nat → Prop} {X : Nat} {w : World} {st : Cst} (h : CW Y X w st) (e : Int) (ho : ownB e = true) (b : Nat) (l : List Int) (hc : CL Y w b l) :
    Calls Try.prog 64 #[.pointer (some ⟨X, 0, none⟩), .int .u64 e, .pointer (some ⟨b, 0, none⟩)] w fun r w' => r = .returned (.tuple #[.int .i64 (rdR st e l), .int .i64 0]) ∧ CW Y X w' (rdS st e l) ∧ KY Y w w' := by
  obtain ⟨v, h⟩ := h
  have a0 := (own_u ho).1
  have a1 := (own_u ho).2
  have T := hide (takes_any e a0 a1 (some ⟨X, 0, none⟩) w)
  rw [ho] at T
  simp at T
  have TI := hide (Ep.tid_any e a0 a1)
  have KA := hide (know_any e a0 a1 b w)
  unfold knF at KA
  -- the world with what an access knows
  obtain ⟨w1, hw1⟩ : ∃ w1, w1 = (w.alloc (.cells #[.pointer (some ⟨b, 0, none⟩)] 34)).alloc (.cells #[.int .i64 (tidOf e)] 3) := ⟨_, rfl⟩
  rw [← hw1] at KA
  have b1 : Below w.heap.size w w1 := by rw [hw1]; exact btr (Ba.below_alloc _ _) (Ba.below_alloc _ _)
  have hA : w1.heap[w.heap.size]? = some (.cells #[.pointer (some ⟨b, 0, none⟩)] 34 (0, 0)) := by
    rw [hw1, Below.heap_alloc _ _ _ (by rw [World.size_alloc]; omega)]; exact heap_new _ _
  have hB : w1.heap[w.heap.size + 1]? = some (.cells #[.int .i64 (tidOf e)] 3 (0, 0)) := by
    rw [hw1]
    have := heap_new (w.alloc (.cells #[.pointer (some ⟨b, 0, none⟩)] 34)) (.cells #[.int .i64 (tidOf e)] 3)
    rwa [World.size_alloc] at this
  have hz : w1.heap.size = w.heap.size + 2 := by rw [hw1, World.size_alloc, World.size_alloc]
  have k1 : KY Y w w1 := KY.of b1 h.yl
  have C1 := h.kept b1
  have gl := fun g (q : v.ownBlock = some g) => (h.own.lt g q).2
  have hXl := h.lt
  clear h hw1
  -- what is known, in whatever world the row has changed in
  have PK : Hid (∀ W, w1.grownBy W v.ownBlock → ∀ o, 0 ≤ o → o ≤ 18446744073709551615 → Calls Try.prog 83 (#[.int .u64 o] ++ #[.pointer (some ⟨w.heap.size + 1, 0, none⟩), .pointer (some ⟨w.heap.size, 0, none⟩)]) W fun r w' => r = .returned (.bool (kn (tidOf e) l o)) ∧ w' = W) := by
    intro W hg o h0 h1
    refine kn_any (tidOf e) w.heap.size (w.heap.size + 1) b l o h0 h1 W ?_ ?_ ?_
    · exact hg.cell (a := ⟨w.heap.size + 1, 0, none⟩) (by rw [cell_of hB]; rfl) (fun q => by have : w.heap.size + 1 < w.heap.size := gl _ q.symm; omega)
    · exact hg.cell (a := ⟨w.heap.size, 0, none⟩) (by rw [cell_of hA]; rfl) (fun q => by have : w.heap.size < w.heap.size := gl _ q.symm; omega)
    · exact hc W (k1.trans (KY.grown hg (fun k hk => C1.yl k hk) C1.yg))
  have gr1 : w1.grownBy w1 v.ownBlock := ⟨rfl, rfl, rfl, Nat.le_refl _, fun _ _ _ => rfl⟩
  have P1 := hide (PK.out w1 gr1 st.last C1.gd.last.1 C1.gd.last.2)
  have DL := hide (deleteF_any 83 #[.pointer (some ⟨w.heap.size + 1, 0, none⟩), .pointer (some ⟨w.heap.size, 0, none⟩)] enter_kn (kn (tidOf e) l) v st.rd w1 C1.own (fun W hg k hk => PK.out W hg _ (C1.gd.u.nth k).1 (C1.gd.u.nth k).2))
  obtain ⟨oa, c, rfl⟩ := own_sl C1.own
  have x0 := cell_of C1.head 0
  have x1 := cell_of C1.head 1
  simp at x0 x1
  have CC := hide C1
  have K1 := hide k1
  have GD := hide (C1.gd.read ho l)
  have hX1 := C1.lt
  clear C1 k1 PK gr1 hA hB b1 hc gl hz hXl
  unfold rdR
  obtain ⟨kb, hkb⟩ : ∃ kb, kn (tidOf e) l st.last = kb := ⟨_, rfl⟩
  rw [hkb] at P1 ⊢
  clear hkb
  generalize hF : w.heap.size = A at *
  cases kb
  all_goals
    go_enter Try.func64, Try.ntmps64
    go_wp2_with fail
    refine T.out.mono ?_
    rintro r w0 ⟨rfl, e0⟩
    obtain rfl := e0.symm
    go_wp2_with fail
    refine KA.out.mono ?_
    rintro r w0 ⟨rfl, e0⟩
    obtain rfl := e0.symm
    go_wp2_with fail
    refine P1.out.mono ?_
    rintro r w0 ⟨rfl, e0⟩
    obtain rfl := e0.symm
    go_wp2_with fail
    refine DL.out.mono ?_
    rintro r w2 ⟨v2, rfl, o2, bk2, g2⟩
    obtain ⟨oa2, c2, rfl⟩ := own_sl o2
    have h2 : w2.heap[X]? = some (.cells #[.int .u64 st.last, .slice oa st.rd.length c, .bool st.tl] 134 (0, 0)) := (g2.block X hX1 (fun q => CC.out.ne q.symm)).trans CC.out.head
    have y1 := cell_of h2 1
    simp at y1
    have f1 : w2.frozen? ⟨X, 1, none⟩ = false := Ba.frozen_of h2 1
    have ne2 := CC.out.ne
    rw [← bk2] at ne2
    have C3 : Hid (CX Y X (w2.setCell ⟨X, 1, none⟩ (.slice oa2 (st.rd.filter fun x => !kn (tidOf e) l x).length c2)) ⟨st.last, kept (tidOf e) l st.rd, st.tl⟩ (.slice oa2 (st.rd.filter fun x => !kn (tidOf e) l x).length c2)) :=
      ⟨head_set h2, own_set1 o2 ne2, ne2, CC.out.yx, fun g q => CC.out.yg g (bk2 ▸ q), fun k hk => by rw [show (w2.setCell ⟨X, 1, none⟩ (.slice oa2 (st.rd.filter fun x => !kn (tidOf e) l x).length c2)).heap.size = w2.heap.size by simp [World.setCell]]; exact Nat.lt_of_lt_of_le (CC.out.yl k hk) g2.size, ⟨CC.out.gd.la, fun x hx => CC.out.gd.ro x (List.mem_filter.1 hx).1, srt_filter CC.out.gd.so _⟩⟩
    have K3 : Hid (KY Y w (w2.setCell ⟨X, 1, none⟩ (.slice oa2 (st.rd.filter fun x => !kn (tidOf e) l x).length c2))) := (K1.out.trans (KY.grown g2 CC.out.yl CC.out.yg)).trans (KY.set _ CC.out.yx _ _)
    clear h2 ne2 bk2 g2 o2 DL P1 KA T CC
    generalize (st.rd.filter fun x => !kn (tidOf e) l x).length = n2 at *
    go_wp2_with fail
    generalize w2.setCell ⟨X, 1, none⟩ (.slice oa2 n2 c2) = w3 at *
    refine (TI.out _).mono ?_
    rintro r w0 ⟨rfl, e0⟩
    obtain rfl := e0.symm
    have FN := hide (find_any ⟨_, C3.out⟩ (tidOf e))
    go_wp2_with fail
    refine FN.out.mono ?_
    rintro r w0 ⟨rfl, e0⟩
    obtain rfl := e0.symm
    clear FN
    have z1 := cell_of C3.out.head 1
    simp at z1
    have C4 := hide (C3.out.kept (Ba.below_alloc w3 (.cells #[.int .u64 e] 61)))
    have hv4 : (w3.alloc (.cells #[.int .u64 e] 61)).heap[w3.heap.size]? = some (.cells #[.int .u64 e] 61 (0, 0)) := heap_new _ _
    have IN := hide (insert_any _ (kept (tidOf e) l st.rd) (pos (kept (tidOf e) l st.rd) (tidOf e)) e w3.heap.size (w3.alloc (.cells #[.int .u64 e] 61)) C4.out.own (pos_le _ _) (Nat.le_trans (srt_len C4.out.gd.so C4.out.gd.ro) (by decide)) hv4 (fun q => Nat.lt_irrefl _ (C3.out.own.lt _ q).2))
    unfold InsR at IN
    have K4 := hide (K3.out.trans (KY.of (Ba.below_alloc w3 (.cells #[.int .u64 e] 61)) C3.out.yl))
    have z4 := cell_of C4.out.head 1
    simp at z4
    clear hv4 C3 K3
    obtain ⟨KT, hKT⟩ : ∃ KT, kept (tidOf e) l st.rd = KT := ⟨_, rfl⟩
    simp only [hKT] at C4 IN ⊢
    generalize hPO : pos KT (tidOf e) = PO at *
    go_wp2_with fail
    refine IN.out.mono ?_
    rintro r w5 ⟨v5, rfl, o5, bk5, g5⟩
    obtain ⟨oa5, c5, rfl⟩ := own_sl o5
    have h5 : w5.heap[X]? = some (.cells #[.int .u64 st.last, .slice oa2 n2 c2, .bool st.tl] 134 (0, 0)) := (g5.block X C4.out.lt (fun q => C4.out.ne q.symm)).trans C4.out.head
    have u1 := cell_of h5 1
    simp at u1
    have f5 : w5.frozen? ⟨X, 1, none⟩ = false := Ba.frozen_of h5 1
    have ne5 : (Value.slice oa5 (insL KT PO e).length c5).ownBlock ≠ some X := by
      rcases bk5 with q | ⟨N, q, hN⟩
      · rw [q]; exact C4.out.ne
      · rw [q]; intro e; cases e; have := C4.out.lt; omega
    have C6 : Hid (CX Y X (w5.setCell ⟨X, 1, none⟩ (.slice oa5 (insL KT PO e).length c5)) (rdS st e l) (.slice oa5 (insL KT PO e).length c5)) := by
      have erd : (rdS st e l).rd = insL KT PO e := by simp only [rdS, hKT, hPO]
      refine ⟨head_set h5, ?_, ne5, C4.out.yx, fun g q => ?_, fun k hk => ?_, GD.out⟩
      · rw [erd]; exact own_set1 o5 ne5
      · rcases bk5 with r | ⟨N, r, hN⟩
        · rw [r] at q; exact C4.out.yg g q
        · rw [r] at q; cases q; exact fun q => by have := C4.out.yl _ q; omega
      · rw [show (w5.setCell ⟨X, 1, none⟩ (.slice oa5 (insL KT PO e).length c5)).heap.size = w5.heap.size by simp [World.setCell]]; exact Nat.lt_of_lt_of_le (C4.out.yl k hk) g5.size
    have K6 : Hid (KY Y w (w5.setCell ⟨X, 1, none⟩ (.slice oa5 (insL KT PO e).length c5))) := (K4.out.trans (KY.grown g5 C4.out.yl C4.out.yg)).trans (KY.set _ C4.out.yx _ _)
    clear h5 ne5 bk5 g5 o5 IN C4 K4
    generalize (insL KT PO e).length = n5 at *
    go_wp2_with fail
    go_ret2
    exact ⟨rfl, ⟨_, C6.out⟩, K6.out⟩
end Ce
end Go.Proofs.Ytekdcfdjohlfcaa
