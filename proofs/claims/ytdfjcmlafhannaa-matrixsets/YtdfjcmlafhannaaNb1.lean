/- Layer 25's reference, over this seat's program: truths in memory; In, Set, Has. -/
import Derived.Test.YtdfjcmlafhannaaNa9
namespace Go.Proofs.Ytdfjcmlafhannaa
open Go.ChangeShapes Go.WideShapes Go.ChangeAt Go.RowKit
namespace Mx
open Ba (KB btr heap_lt cell_of frozen_of ret_bool ret_int bdrew bdrew1 heap_new below_alloc heap_below own_below)

/-- the rows' headers -/
def rv (n : Nat) (bs : List Nat) : List Value := bs.map fun b => .slice (some ⟨b, 0, none⟩) n n
theorem rv_at {n : Nat} {bs : List Nat} {i b : Nat} (h : bs[i]? = some b) : (rv n bs)[i]? = some (.slice (some ⟨b, 0, none⟩) n n) := by simp [rv, h]
theorem rv_one (n : Nat) (bs : List Nat) : ∀ v ∈ rv n bs, v.oneCell' = true := by
  intro v hv
  obtain ⟨b, -, rfl⟩ := List.mem_map.1 hv
  rfl
theorem rv_app (n : Nat) (l m : List Nat) : rv n (l ++ m) = rv n l ++ rv n m := by simp [rv]
/-- a table of rows of n truths, all of it from base on -/
structure TX (w : World) (base n : Nat) (v : Value) (bs : List Nat) (f : Nat → Nat → Bool) : Prop where
  own : w.ownsRow base 52 1 v bs.length (rv n bs)
  row : ∀ i b, bs[i]? = some b → base ≤ b ∧ ∃ cur, w.heap[b]? = some (.cells cur 4) ∧ ∀ k, k < n → cur[k]? = some (.bool (f i k))
  nd : bs.Nodup
/-- the document's matrix -/
structure RX (w : World) (base G n : Nat) (f : Nat → Nat → Bool) (v : Value) (bs : List Nat) : Prop where
  le : n ≤ 1024
  hd : w.heap[G]? = some (.cells #[v] 51)
  gb : base ≤ G
  tx : TX w base n v bs f
  len : bs.length = n
theorem TX.keep {w w' : World} {base n : Nat} {v : Value} {bs : List Nat} {f : Nat → Nat → Bool} (t : TX w base n v bs f) (h : ∀ k, base ≤ k → k < w.heap.size → w'.heap[k]? = w.heap[k]?) : TX w' base n v bs f := by
  refine ⟨⟨t.own.1, ?_⟩, fun i b hb => ?_, t.nd⟩
  · rcases t.own.2 with q | ⟨g, cap, cur, q1, q2, q3, q4⟩
    · exact .inl q
    · exact .inr ⟨g, cap, cur, q1, q2, (h g q2 (heap_lt q3)).trans q3, q4⟩
  · obtain ⟨h1, cur, h2, h3⟩ := t.row i b hb
    exact ⟨h1, cur, (h b h1 (heap_lt h2)).trans h2, h3⟩
theorem RX.keep {w w' : World} {base G n : Nat} {f : Nat → Nat → Bool} {v : Value} {bs : List Nat} (x : RX w base G n f v bs) (h : ∀ k, base ≤ k → k < w.heap.size → w'.heap[k]? = w.heap[k]?) : RX w' base G n f v bs :=
  ⟨x.le, (h G x.gb (heap_lt x.hd)).trans x.hd, x.gb, x.tx.keep h, x.len⟩
theorem RX.below {w w' : World} {base G n : Nat} {f : Nat → Nat → Bool} {v : Value} {bs : List Nat} (x : RX w base G n f v bs) (b : Below w.heap.size w w') : RX w' base G n f v bs :=
  x.keep fun k _ hk => b.block k hk
theorem RX.kb {w w' : World} {base G n W : Nat} {f : Nat → Nat → Bool} {v : Value} {bs : List Nat} (x : RX w base G n f v bs) (b : KB W w w') (hW : W < base) : RX w' base G n f v bs :=
  x.keep fun k hb hk => b.block k hk (by omega)
theorem RX.slice {w : World} {base G n : Nat} {f : Nat → Nat → Bool} {v : Value} {bs : List Nat} (x : RX w base G n f v bs) : ∃ oa c, v = .slice oa n c := by
  obtain ⟨oa, c, h⟩ := own_slice x.tx.own
  rw [x.len] at h
  exact ⟨oa, c, h⟩
theorem own_cellg {w : World} {base : Nat} {e : TypeId} {oa : Option Addr} {c n : Nat} {xs : List Value} (h : w.ownsRow base e 1 (.slice oa n c) n xs) {i : Nat} {x : Value} (hi : i < n) (hx : xs[i]? = some x) : ∃ g, oa = some ⟨g, 0, none⟩ ∧ w.cell? ⟨g, i, none⟩ = some x := by
  rcases h.2 with ⟨-, h0⟩ | ⟨g, cap, cur, e1, -⟩
  · omega
  · cases e1
    exact ⟨g, rfl, by rw [h.cellAt i (by omega)]; exact hx⟩
/-- row i -/
theorem RX.at {w : World} {base G n : Nat} {f : Nat → Nat → Bool} {oa : Option Addr} {c : Nat} {bs : List Nat} (x : RX w base G n f (.slice oa n c) bs) {i : Nat} (hi : i < n) : ∃ g b cur, oa = some ⟨g, 0, none⟩ ∧ w.cell? ⟨g, i, none⟩ = some (.slice (some ⟨b, 0, none⟩) n n) ∧ bs[i]? = some b ∧ w.heap[b]? = some (.cells cur 4) ∧ base ≤ b ∧ ∀ k, k < n → w.cell? ⟨b, k, none⟩ = some (.bool (f i k)) := by
  obtain ⟨b, hb⟩ : ∃ b, bs[i]? = some b := ⟨_, List.getElem?_eq_getElem (by rw [x.len]; exact hi)⟩
  have ho := x.tx.own
  rw [x.len] at ho
  obtain ⟨g, rfl, hc⟩ := own_cellg ho hi (rv_at hb)
  obtain ⟨h1, cur, h2, h3⟩ := x.tx.row i b hb
  exact ⟨g, _, cur, rfl, hc, hb, h2, h1, fun k hk => (cell_of h2 k).trans (h3 k hk)⟩
def inI (n : Nat) (i : Int) : Bool := decide (0 ≤ i) && decide (i < n)
set_option maxHeartbeats 800000 in
theorem in_any {w : World} {base G n : Nat} {f : Nat → Nat → Bool} {v : Value} {bs : List Nat} (x : RX w base G n f v bs) (i : Int) :
    Calls Try.prog 25 #[.pointer (some ⟨G, 0, none⟩), .int .i64 i] w fun e w' => e = .returned (.bool (inI n i)) ∧ w' = w := by
  obtain ⟨oa, c, rfl⟩ := x.slice
  have c0 : w.cell? ⟨G, 0, none⟩ = some (.slice oa n c) := by rw [cell_of x.hd]; rfl
  have hle := x.le
  unfold inI
  clear x
  by_cases h1 : 0 ≤ i
  · have a1 : decide (0 ≤ i) = true := by simpa using h1
    rw [a1, Bool.true_and]
    go_enter Try.func25, Try.ntmps25
    go_wp2
    go_ret
    exact ⟨rfl, rfl⟩
  · have a1 : decide (0 ≤ i) = false := by simpa using h1
    rw [a1, Bool.false_and]
    go_enter Try.func25, Try.ntmps25
    go_wp2
    go_ret
    exact ⟨rfl, rfl⟩
theorem inB_in (n : Nat) (i k : Int) : inB n i k = (inI n i && inI n k) := by
  rw [Bool.eq_iff_iff, inB_iff]
  simp only [inI, Bool.and_eq_true, decide_eq_true_eq]
  constructor <;> (intro h; omega)
def fI (n : Nat) (f : Nat → Nat → Bool) (i k : Int) : Bool := inB n i k && f i.toNat k.toNat
set_option maxHeartbeats 800000 in
theorem rhas_any {w : World} {base G n : Nat} {f : Nat → Nat → Bool} {v : Value} {bs : List Nat} (x : RX w base G n f v bs) (i k : Int) :
    Calls Try.prog 14 #[.pointer (some ⟨G, 0, none⟩), .int .i64 i, .int .i64 k] w fun e w' => e = .returned (.bool (fI n f i k)) ∧ w' = w := by
  have I1 := hide (in_any x i)
  have I2 := hide (in_any x k)
  unfold fI
  rw [inB_in]
  cases h1 : inI n i
  · rw [h1] at I1
    clear x h1
    go_enter Try.func14, Try.ntmps14
    go_wp2_with fail
    refine I1.out.mono ?_
    rintro e w1 ⟨rfl, e1⟩
    obtain rfl := e1.symm
    go_wp2
    go_ret
    exact ⟨rfl, rfl⟩
  · cases h2 : inI n k
    · rw [h1] at I1
      rw [h2] at I2
      clear x h1 h2
      go_enter Try.func14, Try.ntmps14
      go_wp2_with fail
      refine I1.out.mono ?_
      rintro e w1 ⟨rfl, e1⟩
      obtain rfl := e1.symm
      go_wp2_with fail
      refine I2.out.mono ?_
      rintro e w1 ⟨rfl, e1⟩
      obtain rfl := e1.symm
      go_wp2
      go_ret
      exact ⟨rfl, rfl⟩
    · rw [h1] at I1
      rw [h2] at I2
      simp only [inI, Bool.and_eq_true, decide_eq_true_eq] at h1 h2
      obtain ⟨a, rfl⟩ := Int.eq_ofNat_of_zero_le h1.1
      obtain ⟨b, rfl⟩ := Int.eq_ofNat_of_zero_le h2.1
      simp only [Int.toNat_natCast, Bool.true_and]
      obtain ⟨oa, c, rfl⟩ := x.slice
      have c0 : w.cell? ⟨G, 0, none⟩ = some (.slice oa n c) := by rw [cell_of x.hd]; rfl
      have hle := x.le
      have hn := x.len
      obtain ⟨g, bb, cur, rfl, c1, -, -, -, c2⟩ := x.at (i := a) (by omega)
      have c3 := c2 b (by omega)
      have ha : (a : Int) < (n : Int) := h1.2
      have hb : (b : Int) < (n : Int) := h2.2
      generalize f a b = z at *
      clear x h1 h2 c2 hn
      go_enter Try.func14, Try.ntmps14
      go_wp2_with fail
      refine I1.out.mono ?_
      rintro e w1 ⟨rfl, e1⟩
      obtain rfl := e1.symm
      go_wp2_with fail
      refine I2.out.mono ?_
      rintro e w1 ⟨rfl, e1⟩
      obtain rfl := e1.symm
      go_wp2
      go_ret
      exact ⟨rfl, rfl⟩
/-- one is related to another one -/
def setF (f : Nat → Nat → Bool) (i k : Nat) : Nat → Nat → Bool := fun a b => f a b || (decide (a = i) && decide (b = k))
theorem ne_ty {w : World} {a b : Nat} {c d : Array Value} {s t : TypeId} (h : w.heap[a]? = some (.cells c s)) (k : w.heap[b]? = some (.cells d t)) (ht : s ≠ t) : a ≠ b := by
  rintro rfl
  rw [h] at k
  simp at k
  exact ht k.2
theorem TX.put {w : World} {base n : Nat} {v : Value} {bs : List Nat} {f : Nat → Nat → Bool} (t : TX w base n v bs f) {i b k : Nat} (hb : bs[i]? = some b) (hk : k < n) (z : Bool) {g : Nat → Nat → Bool} (hg : ∀ a c, a < bs.length → c < n → g a c = if a = i ∧ c = k then z else f a c) : TX (w.setCell ⟨b, k, none⟩ (.bool z)) base n v bs g := by
  obtain ⟨h1, cur, h2, h3⟩ := t.row i b hb
  have hil : i < bs.length := (List.getElem?_eq_some_iff.1 hb).1
  refine ⟨⟨t.own.1, ?_⟩, fun a c hc => ?_, t.nd⟩
  · rcases t.own.2 with q | ⟨g, cap, cr, q1, q2, q3, q4⟩
    · exact .inl q
    · exact .inr ⟨g, cap, cr, q1, q2, (heap_set (ne_ty q3 h2 (by decide))).trans q3, q4⟩
  · have hal : a < bs.length := (List.getElem?_eq_some_iff.1 hc).1
    by_cases e : a = i
    · subst e
      rw [hb] at hc
      cases hc
      refine ⟨h1, _, Ba.heap_setCell_same h2 _, fun y hy => ?_⟩
      rw [Array.getElem?_setIfInBounds]
      have hcs : k < cur.size := by
        have := h3 k hk
        exact (Array.getElem?_eq_some_iff.1 this).1
      rw [hg a y hal hy]
      by_cases e2 : k = y
      · subst e2; simp [hcs]
      · have e3 : ¬ (y = k) := fun q => e2 q.symm
        simp only [e2, if_false, e3, and_false]
        exact h3 y hy
    · obtain ⟨g1, cr, g2, g3⟩ := t.row a c hc
      have hne : c ≠ b := by
        intro q
        subst q
        have := (List.getElem?_inj hal t.nd).1 (hc.trans hb.symm)
        exact e this
      refine ⟨g1, cr, (heap_set hne).trans g2, fun y hy => ?_⟩
      rw [hg a y hal hy, if_neg (fun q => e q.1)]
      exact g3 y hy
set_option maxHeartbeats 800000 in
theorem rset_any {w : World} {base G n : Nat} {f : Nat → Nat → Bool} {v : Value} {bs : List Nat} (x : RX w base G n f v bs) (i k : Int) :
    Calls Try.prog 12 #[.pointer (some ⟨G, 0, none⟩), .int .i64 i, .int .i64 k] w fun e w' => e = .returned (.int .i64 (setE n i k)) ∧ RX w' base G n (if inB n i k then setF f i.toNat k.toNat else f) v bs ∧ Below base w w' ∧ (∀ (j : Nat) (d : Array Value) (s : TypeId), w.heap[j]? = some (.cells d s) → s ≠ 4 → w'.heap[j]? = some (.cells d s)) := by
  have I1 := hide (in_any x i)
  have I2 := hide (in_any x k)
  unfold setE
  rw [inB_in]
  cases h1 : inI n i
  · rw [h1] at I1
    rw [Bool.false_and]
    simp only [Bool.false_eq_true, if_false]
    have X := hide x
    clear x h1
    go_enter Try.func12, Try.ntmps12
    go_wp2_with fail
    refine I1.out.mono ?_
    rintro e w1 ⟨rfl, e1⟩
    obtain rfl := e1.symm
    go_wp2
    go_ret
    exact ⟨rfl, X.out, Below.refl _ _, fun _ _ _ h _ => h⟩
  · cases h2 : inI n k
    · rw [h1] at I1
      rw [h2] at I2
      rw [Bool.and_false]
      simp only [Bool.false_eq_true, if_false]
      have X := hide x
      clear x h1 h2
      go_enter Try.func12, Try.ntmps12
      go_wp2_with fail
      refine I1.out.mono ?_
      rintro e w1 ⟨rfl, e1⟩
      obtain rfl := e1.symm
      go_wp2_with fail
      refine I2.out.mono ?_
      rintro e w1 ⟨rfl, e1⟩
      obtain rfl := e1.symm
      go_wp2
      go_ret
      exact ⟨rfl, X.out, Below.refl _ _, fun _ _ _ h _ => h⟩
    · rw [h1] at I1
      rw [h2] at I2
      simp only [inI, Bool.and_eq_true, decide_eq_true_eq] at h1 h2
      obtain ⟨a, rfl⟩ := Int.eq_ofNat_of_zero_le h1.1
      obtain ⟨b, rfl⟩ := Int.eq_ofNat_of_zero_le h2.1
      simp only [Int.toNat_natCast, Bool.true_and, if_true]
      obtain ⟨oa, c, rfl⟩ := x.slice
      have c0 : w.cell? ⟨G, 0, none⟩ = some (.slice oa n c) := by rw [cell_of x.hd]; rfl
      have hle := x.le
      obtain ⟨g, bb, cur, rfl, c1, hbb, hcur, hbase, c2⟩ := x.at (i := a) (by omega)
      have c3 := c2 b (by omega)
      have f3 : w.frozen? ⟨bb, b, none⟩ = false := frozen_of hcur b
      have ha : (a : Int) < (n : Int) := h1.2
      have hb : (b : Int) < (n : Int) := h2.2
      have END : Hid (RX (w.setCell ⟨bb, b, none⟩ (.bool true)) base G n (setF f a b) (.slice (some ⟨g, 0, none⟩) n c) bs ∧ Below base w (w.setCell ⟨bb, b, none⟩ (.bool true)) ∧ (∀ (j : Nat) (d : Array Value) (s : TypeId), w.heap[j]? = some (.cells d s) → s ≠ 4 → (w.setCell ⟨bb, b, none⟩ (.bool true)).heap[j]? = some (.cells d s))) := by
        refine ⟨⟨x.le, (heap_set (ne_ty x.hd hcur (by decide))).trans x.hd, x.gb, x.tx.put hbb (by omega) true (fun p q _ _ => ?_), x.len⟩, (Below.refl _ _).setCell (by exact hbase) _, fun j d s h hs => (heap_set (ne_ty h hcur hs)).trans h⟩
        unfold setF
        by_cases e : p = a ∧ q = b
        · rw [if_pos e, e.1, e.2]; simp
        · rw [if_neg e]
          have : (decide (p = a) && decide (q = b)) = false := by simp; omega
          rw [this, Bool.or_false]
      clear x h1 h2 c2 hbb hcur hbase
      go_enter Try.func12, Try.ntmps12
      go_wp2_with fail
      refine I1.out.mono ?_
      rintro e w1 ⟨rfl, e1⟩
      obtain rfl := e1.symm
      go_wp2_with fail
      refine I2.out.mono ?_
      rintro e w1 ⟨rfl, e1⟩
      obtain rfl := e1.symm
      go_wp2
      go_ret
      exact ⟨rfl, END.out⟩
end Mx
end Go.Proofs.Ytdfjcmlafhannaa
