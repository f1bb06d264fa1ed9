/- Records of a table: rows of them in memory; what becomes of a table. -/
import Derived.Test.YtgfnafipfbajcaaFa
import Derived.Maps.AppendAt
namespace Go.Proofs.Ytgfnafipfbajcaa
open Go.ChangeShapes Go.WideShapes Go.ChangeAt Go.RowKit
namespace Rk
open Ba

/-- a record: whose, its tid, from where on, whether it is gone, till where, its cut -/
structure Rd where
  g : Int
  t : Int
  f : Int
  b : Bool
  l : Int
  c : Int
def cl (x : Rd) : List Value := [.int .i64 x.g, .int .i64 x.t, .int .i64 x.f, .bool x.b, .int .i64 x.l, .int .i64 x.c]
def rv (x : Rd) : Value := .agg #[.int .i64 x.g, .int .i64 x.t, .int .i64 x.f, .bool x.b, .int .i64 x.l, .int .i64 x.c]
def rc (l : List Rd) : List Value := l.flatMap cl
theorem rc_nil : rc [] = [] := rfl
theorem rc_cons (x : Rd) (l : List Rd) : rc (x :: l) = .int .i64 x.g :: .int .i64 x.t :: .int .i64 x.f :: .bool x.b :: .int .i64 x.l :: .int .i64 x.c :: rc l := rfl
theorem rc_app (l m : List Rd) : rc (l ++ m) = rc l ++ rc m := by simp [rc]
theorem rc_len (l : List Rd) : (rc l).length = l.length * 6 := by
  induction l with
  | nil => rfl
  | cons x l ih => rw [rc_cons]; simp; omega
theorem rc_at : ∀ (l : List Rd) (k : Nat) (x : Rd), l[k]? = some x → ∀ j, j < 6 → (rc l)[k * 6 + j]? = (cl x)[j]?
  | [], _, _, h, _, _ => by simp at h
  | y :: l, 0, x, h, j, hj => by
    simp at h; subst h
    rw [Nat.zero_mul, Nat.zero_add, rc_cons]
    match j, hj with
    | 0, _ => rfl
    | 1, _ => rfl
    | 2, _ => rfl
    | 3, _ => rfl
    | 4, _ => rfl
    | 5, _ => rfl
  | y :: l, k + 1, x, h, j, hj => by
    rw [rc_cons]
    have := rc_at l k x (by simpa using h) j hj
    rw [show (k + 1) * 6 + j = k * 6 + j + 6 by omega]
    exact this
theorem rc_one (l : List Rd) : ∀ u ∈ rc l, u.oneCell' = true := by
  intro u hu
  obtain ⟨x, -, h⟩ := List.mem_flatMap.1 hu
  simp [cl] at h
  rcases h with rfl | rfl | rfl | rfl | rfl | rfl <;> rfl
theorem rc_take (l : List Rd) (k : Nat) : (rc l).take (k * 6) = rc (l.take k) := by
  induction l generalizing k with
  | nil => simp [rc]
  | cons x l ih =>
    cases k with
    | zero => simp [rc]
    | succ k => rw [List.take_succ_cons, rc_cons, rc_cons, ← ih k, show (k + 1) * 6 = k * 6 + 1 + 1 + 1 + 1 + 1 + 1 by omega]; simp only [List.take_succ_cons]
theorem rc_drop (l : List Rd) (k : Nat) : (rc l).drop (k * 6) = rc (l.drop k) := by
  induction l generalizing k with
  | nil => simp [rc]
  | cons x l ih =>
    cases k with
    | zero => simp
    | succ k => rw [List.drop_succ_cons, rc_cons, ← ih k, show (k + 1) * 6 = k * 6 + 1 + 1 + 1 + 1 + 1 + 1 by omega]; simp only [List.drop_succ_cons]
/-- the cells from oa on are those of l -/
def RA (w : World) (oa : Option Addr) (l : List Rd) : Prop :=
  ∀ k x, l[k]? = some x → ∃ b, oa = some ⟨b, 0, none⟩ ∧ w.cell? ⟨b, k * 6, none⟩ = some (.int .i64 x.g) ∧ w.cell? ⟨b, k * 6 + 1, none⟩ = some (.int .i64 x.t) ∧ w.cell? ⟨b, k * 6 + 2, none⟩ = some (.int .i64 x.f) ∧ w.cell? ⟨b, k * 6 + 3, none⟩ = some (.bool x.b) ∧ w.cell? ⟨b, k * 6 + 4, none⟩ = some (.int .i64 x.l) ∧ w.cell? ⟨b, k * 6 + 5, none⟩ = some (.int .i64 x.c)
theorem RA.nil (w : World) (oa : Option Addr) : RA w oa [] := fun _ _ h => by simp at h
theorem cellB {w w' : World} {a : Addr} {v : Value} (h : w.cell? a = some v) (b : Below w.heap.size w w') : w'.cell? a = some v := (b.cell (World.block_lt_of_cell? w _ h)).trans h
theorem RA.below {w w' : World} {oa : Option Addr} {l : List Rd} (h : RA w oa l) (hb : Below w.heap.size w w') : RA w' oa l := by
  intro k x hk
  obtain ⟨b, e, h0, h1, h2, h3, h4, h5⟩ := h k x hk
  exact ⟨b, e, cellB h0 hb, cellB h1 hb, cellB h2 hb, cellB h3 hb, cellB h4 hb, cellB h5 hb⟩
theorem owns_ra {w : World} {base : Nat} {e : TypeId} {v : Value} {l : List Rd} (h : w.ownsRow base e 6 v l.length (rc l)) : ∃ oa c, v = .slice oa l.length c ∧ RA w oa l ∧ l.length ≤ c ∧ c ≤ maxLen := by
  rcases h.2 with ⟨rfl, h0⟩ | ⟨g, cap, cur, rfl, _, hg, hc, hm, hcs, htk⟩
  · refine ⟨none, 0, by rw [h0], ?_, by omega, Nat.zero_le _⟩
    obtain rfl := List.eq_nil_of_length_eq_zero h0
    exact RA.nil _ _
  · refine ⟨_, cap, rfl, ?_, hc, hm⟩
    intro k x hk
    have hkl := (List.getElem?_eq_some_iff.1 hk).1
    have key : ∀ j, j < 6 → w.cell? ⟨g, k * 6 + j, none⟩ = (cl x)[j]? := by
      intro j hj
      have q := rc_at l k x hk j hj
      rw [← htk, List.getElem?_take_of_lt (by omega)] at q
      rw [cell_of hg]; simpa using q
    exact ⟨g, rfl, key 0 (by decide), key 1 (by decide), key 2 (by decide), key 3 (by decide), key 4 (by decide), key 5 (by decide)⟩
theorem own_keep {w w' : World} {base : Nat} {e : TypeId} {size : Nat} {v : Value} {n : Nat} {xs : List Value} (h : w.ownsRow base e size v n xs) (hk : ∀ g, v.ownBlock = some g → w'.heap[g]? = w.heap[g]?) : w'.ownsRow base e size v n xs := by
  refine ⟨h.1, ?_⟩
  rcases h.2 with q | ⟨g, cap, cur, q1, q2, q3, q4⟩
  · exact .inl q
  · exact .inr ⟨g, cap, cur, q1, q2, (hk g (by rw [q1]; rfl)).trans q3, q4⟩
theorem own_blk {w : World} {base : Nat} {e : TypeId} {size : Nat} {v : Value} {n : Nat} {xs : List Value} (h : w.ownsRow base e size v n xs) (g : Nat) (hg : v.ownBlock = some g) : base ≤ g ∧ ∃ cur, w.heap[g]? = some (.cells cur e (0, 0)) := by
  rcases h.2 with ⟨rfl, _⟩ | ⟨g', cap, cur, rfl, q2, q3, q4⟩
  · simp [Value.ownBlock] at hg
  · simp [Value.ownBlock] at hg
    subst hg
    exact ⟨q2, cur, q3⟩
theorem own_set {w : World} {base : Nat} {e : TypeId} {g n cap j : Nat} {xs : List Value} (h : w.ownsRow base e 6 (.slice (some ⟨g, 0, none⟩) n cap) n xs) (u : Value) : (w.setCell ⟨g, j, none⟩ u).ownsRow base e 6 (.slice (some ⟨g, 0, none⟩) n cap) n (xs.set j u) := by
  refine ⟨by rw [List.length_set]; exact h.1, ?_⟩
  rcases h.2 with ⟨q, _⟩ | ⟨g', cap', cur, q1, q2, q3, q4, q5, q6, q7⟩
  · cases q
  · cases q1
    refine .inr ⟨g, cap, _, rfl, q2, Ba.heap_setCell_same q3 u, q4, q5, by simpa using q6, ?_⟩
    rw [Array.toList_setIfInBounds, List.take_set, q7]
theorem rc_set3 : ∀ (l : List Rd) (k : Nat) (x : Rd) (y : Bool) (z u : Int), l[k]? = some x → (((rc l).set (k * 6 + 3) (.bool y)).set (k * 6 + 4) (.int .i64 z)).set (k * 6 + 5) (.int .i64 u) = rc (l.set k ⟨x.g, x.t, x.f, y, z, u⟩)
  | [], _, _, _, _, _, h => by simp at h
  | r :: l, 0, x, y, z, u, h => by simp at h; subst h; rfl
  | r :: l, k + 1, x, y, z, u, h => by
    rw [List.set_cons_succ, rc_cons, rc_cons, ← rc_set3 l k x y z u (by simpa using h), show (k + 1) * 6 + 3 = k * 6 + 3 + 1 + 1 + 1 + 1 + 1 + 1 by omega, show (k + 1) * 6 + 4 = k * 6 + 4 + 1 + 1 + 1 + 1 + 1 + 1 by omega, show (k + 1) * 6 + 5 = k * 6 + 5 + 1 + 1 + 1 + 1 + 1 + 1 by omega]
    simp only [List.set_cons_succ]

/-- what a table of header type T and record type E is in memory: block B, all inside F -/
structure Tb (T E : TypeId) (w : World) (B : Nat) (F : Nat → Prop) (oa : Option Addr) (c : Nat) (l : List Rd) : Prop where
  hp : w.heap[B]? = some (.cells #[.slice oa l.length c] T (0, 0))
  ow : w.ownsRow 0 E 6 (.slice oa l.length c) l.length (rc l)
  fb : F B
  fr : ∀ g, (Value.slice oa l.length c).ownBlock = some g → F g
  bd : Bd F w
def Tq (T E : TypeId) (w : World) (B : Nat) (F : Nat → Prop) (l : List Rd) : Prop := ∃ oa c, Tb T E w B F oa c l
section
variable {T E : TypeId} {w w' : World} {B : Nat} {F K : Nat → Prop} {oa : Option Addr} {c : Nat} {l : List Rd}
theorem Tb.at (h : Tb T E w B F oa c l) : RA w oa l ∧ l.length ≤ c ∧ c ≤ maxLen := by
  obtain ⟨oa', c', e, h1, h2⟩ := owns_ra h.ow
  cases e
  exact ⟨h1, h2⟩
theorem Tb.lt (h : Tb T E w B F oa c l) : B < w.heap.size := heap_lt h.hp
theorem Tq.lt (h : Tq T E w B F l) : B < w.heap.size := by
  obtain ⟨oa, c, h⟩ := h
  exact h.lt
theorem Tq.bd (h : Tq T E w B F l) : Bd F w := by
  obtain ⟨oa, c, h⟩ := h
  exact h.bd
theorem Tq.fb (h : Tq T E w B F l) : F B := by
  obtain ⟨oa, c, h⟩ := h
  exact h.fb
theorem Tb.sm (h : Tb T E w B F oa c l) (s : Sm F w w') : Tb T E w' B F oa c l :=
  ⟨s.heap h.fb h.hp, own_keep h.ow fun g e => s g (h.fr g e), h.fb, h.fr, h.bd.sm s⟩
theorem Tb.below (h : Tb T E w B F oa c l) (hb : Below w.heap.size w w') : Tb T E w' B F oa c l := h.sm (Sm.below hb h.bd)
theorem Tq.below (h : Tq T E w B F l) (hb : Below w.heap.size w w') : Tq T E w' B F l := by
  obtain ⟨oa, c, h⟩ := h
  exact ⟨oa, c, h.below hb⟩
theorem Tq.kf (h : Tq T E w B F l) (k : KF K w w') (hd : ∀ x, F x → ¬ K x) : Tq T E w' B F l := by
  obtain ⟨oa, c, h⟩ := h
  exact ⟨oa, c, h.sm (Sm.kf k h.bd hd)⟩
/-- a record is gone -/
theorem Tb.gone {g k : Nat} {x : Rd} (h : Tb T E w B F (some ⟨g, 0, none⟩) c l) (hT : T ≠ E) (hk : l[k]? = some x) (y : Bool) (z u : Int) : Tb T E (((w.setCell ⟨g, k * 6 + 3, none⟩ (.bool y)).setCell ⟨g, k * 6 + 4, none⟩ (.int .i64 z)).setCell ⟨g, k * 6 + 5, none⟩ (.int .i64 u)) B F (some ⟨g, 0, none⟩) c (l.set k ⟨x.g, x.t, x.f, y, z, u⟩) := by
  have K := (((KB.refl g w).setCell (k * 6 + 3) (.bool y)).setCell (k * 6 + 4) (.int .i64 z)).setCell (k * 6 + 5) (.int .i64 u)
  have hg : g ≠ B := by
    intro e
    obtain ⟨_, cur, q⟩ := own_blk h.ow g rfl
    rw [e, h.hp] at q
    cases q
    exact hT rfl
  refine ⟨?_, ?_, h.fb, ?_, h.bd.mono K.size⟩
  · rw [List.length_set]; exact K.heap h.hp (Ne.symm hg)
  · rw [List.length_set, ← rc_set3 l k x y z u hk]; exact own_set (own_set (own_set h.ow _) _) _
  · rw [List.length_set]; exact h.fr
/-- another row -/
def Fw (F : Nat → Prop) (v : Value) : Nat → Prop := fun k => F k ∨ v.ownBlock = some k
theorem Tb.put {v0 : Value} {m : List Rd} (hG : w.heap[B]? = some (.cells #[v0] T (0, 0))) (ow : w.ownsRow 0 E 6 (.slice oa m.length c) m.length (rc m)) (hT : T ≠ E) (fb : F B) (bd : Bd F w) : Tb T E (w.setCell ⟨B, 0, none⟩ (.slice oa m.length c)) B (Fw F (.slice oa m.length c)) oa c m := by
  have K := (KB.refl B w).setCell 0 (.slice oa m.length c)
  refine ⟨(Ba.heap_setCell_same hG _).trans rfl, own_keep ow fun g e => ?_, .inl fb, fun g e => .inr e, ?_⟩
  · obtain ⟨_, cur, q⟩ := own_blk ow g e
    refine K.block g (heap_lt q) fun e2 => ?_
    rw [e2, hG] at q
    cases q
    exact hT rfl
  · intro k hk
    refine Nat.lt_of_lt_of_le ?_ K.size
    rcases hk with q | q
    · exact bd k q
    · obtain ⟨_, cur, q⟩ := own_blk ow k q
      exact heap_lt q
end
/-- behind a call the table is l', and nothing else has changed -/
def Po (T E : TypeId) (w w' : World) (B : Nat) (F : Nat → Prop) (l : List Rd) : Prop := ∃ F', Tq T E w' B F' l ∧ KF F w w' ∧ Nw F' F w
theorem Po.of {T E : TypeId} {w w' : World} {B : Nat} {F : Nat → Prop} {l : List Rd} (h : Tq T E w B F l) (b : Below w.heap.size w w') : Po T E w w' B F l := ⟨F, h.below b, KF.of b, Nw.refl _ _⟩
end Rk
end Go.Proofs.Ytgfnafipfbajcaa
