/- Goroutines as rows of records in memory; what becomes of them. -/
import Derived.Test.YtgpmefbmbfbjcaaFa
import Derived.Maps.AppendAt
namespace Go.Proofs.Ytgpmefbmbfbjcaa
open Go.ChangeShapes Go.WideShapes Go.ChangeAt Go.RowKit
namespace Cr
open Ba

/-- a goroutine: its program, its place, its state -/
structure Mb where
  p : Int
  q : Int
  s : Int
def mc (l : List Mb) : List Value := l.flatMap fun x => [.int .i64 x.p, .int .i64 x.q, .int .i64 x.s]
theorem mc_nil : mc [] = [] := rfl
theorem mc_cons (x : Mb) (l : List Mb) : mc (x :: l) = .int .i64 x.p :: .int .i64 x.q :: .int .i64 x.s :: mc l := rfl
theorem mc_app (l m : List Mb) : mc (l ++ m) = mc l ++ mc m := by simp [mc]
theorem mc_len (l : List Mb) : (mc l).length = l.length * 3 := by
  induction l with
  | nil => rfl
  | cons x l ih => rw [mc_cons]; simp; omega
theorem mc_at : ∀ (l : List Mb) (k : Nat) (x : Mb), l[k]? = some x → (mc l)[k * 3]? = some (.int .i64 x.p) ∧ (mc l)[k * 3 + 1]? = some (.int .i64 x.q) ∧ (mc l)[k * 3 + 2]? = some (.int .i64 x.s)
  | [], _, _, h => by simp at h
  | y :: l, 0, x, h => by simp at h; subst h; exact ⟨rfl, rfl, rfl⟩
  | y :: l, k + 1, x, h => by
    rw [mc_cons]
    have := mc_at l k x (by simpa using h)
    rw [show (k + 1) * 3 = k * 3 + 3 by omega]
    exact this
theorem mc_one (l : List Mb) : ∀ u ∈ mc l, u.oneCell' = true := by
  induction l with
  | nil => intro u hu; simp [mc_nil] at hu
  | cons x l ih =>
    intro u hu
    rw [mc_cons] at hu
    simp at hu
    rcases hu with rfl | rfl | rfl | hu
    · rfl
    · rfl
    · rfl
    · exact ih u hu
theorem mc_set1 : ∀ (l : List Mb) (k : Nat) (x : Mb) (y : Int), l[k]? = some x → (mc l).set (k * 3 + 1) (.int .i64 y) = mc (l.set k ⟨x.p, y, x.s⟩)
  | [], _, _, _, h => by simp at h
  | z :: l, 0, x, y, h => by simp at h; subst h; rfl
  | z :: l, k + 1, x, y, h => by
    rw [List.set_cons_succ, mc_cons, mc_cons, ← mc_set1 l k x y (by simpa using h), show (k + 1) * 3 + 1 = k * 3 + 1 + 1 + 1 + 1 by omega]
    simp only [List.set_cons_succ]
theorem mc_set2 : ∀ (l : List Mb) (k : Nat) (x : Mb) (y : Int), l[k]? = some x → (mc l).set (k * 3 + 2) (.int .i64 y) = mc (l.set k ⟨x.p, x.q, y⟩)
  | [], _, _, _, h => by simp at h
  | z :: l, 0, x, y, h => by simp at h; subst h; rfl
  | z :: l, k + 1, x, y, h => by
    rw [List.set_cons_succ, mc_cons, mc_cons, ← mc_set2 l k x y (by simpa using h), show (k + 1) * 3 + 2 = k * 3 + 2 + 1 + 1 + 1 by omega]
    simp only [List.set_cons_succ]
/-- the cells from oa on are those of l -/
def MAt (w : World) (oa : Option Addr) (l : List Mb) : Prop :=
  ∀ k x, l[k]? = some x → ∃ b, oa = some ⟨b, 0, none⟩ ∧ w.cell? ⟨b, k * 3, none⟩ = some (.int .i64 x.p) ∧ w.cell? ⟨b, k * 3 + 1, none⟩ = some (.int .i64 x.q) ∧ w.cell? ⟨b, k * 3 + 2, none⟩ = some (.int .i64 x.s)
theorem MAt.nil (w : World) (oa : Option Addr) : MAt w oa [] := fun _ _ h => by simp at h
theorem MAt.below {w w' : World} {oa : Option Addr} {l : List Mb} (h : MAt w oa l) (hb : Below w.heap.size w w') : MAt w' oa l := by
  intro k x hk
  obtain ⟨b, e, h0, h1, h2⟩ := h k x hk
  exact ⟨b, e, (hb.cell (World.block_lt_of_cell? w _ h0)).trans h0, (hb.cell (World.block_lt_of_cell? w _ h1)).trans h1, (hb.cell (World.block_lt_of_cell? w _ h2)).trans h2⟩
theorem owns_mat {w : World} {base : Nat} {e : TypeId} {v : Value} {l : List Mb} (h : w.ownsRow base e 3 v l.length (mc l)) : ∃ oa c, v = .slice oa l.length c ∧ MAt w oa l ∧ l.length ≤ c := by
  rcases h.2 with ⟨rfl, h0⟩ | ⟨g, cap, cur, rfl, _, hg, hc, _, hcs, htk⟩
  · refine ⟨none, 0, by rw [h0], ?_, by omega⟩
    obtain rfl := List.eq_nil_of_length_eq_zero h0
    exact MAt.nil _ _
  · refine ⟨_, cap, rfl, ?_, hc⟩
    intro k x hk
    have hkl := (List.getElem?_eq_some_iff.1 hk).1
    obtain ⟨q0, q1, q2⟩ := mc_at l k x hk
    rw [← htk, List.getElem?_take_of_lt (by omega)] at q0 q1 q2
    refine ⟨g, rfl, ?_, ?_, ?_⟩
    · rw [cell_of hg]; simpa using q0
    · rw [cell_of hg]; simpa using q1
    · rw [cell_of hg]; simpa using q2
theorem src3 (w : World) (x : Mb) (t : TypeId) : ∀ j u, (mc [x])[j]? = some u → (w.alloc (.cells #[.int .i64 x.p, .int .i64 x.q, .int .i64 x.s] t)).cell? ((⟨w.heap.size, 0, none⟩ : Addr).add j) = some u := by
  intro j u hj
  rw [Addr.add_lit, Nat.zero_add, cell_of (heap_new _ _)]
  rw [mc_cons, mc_nil] at hj
  rw [← hj]
  simp
theorem own_keep {w w' : World} {base : Nat} {e : TypeId} {size : Nat} {v : Value} {n : Nat} {xs : List Value} (h : w.ownsRow base e size v n xs) (hk : ∀ g, v.ownBlock = some g → w'.heap[g]? = w.heap[g]?) : w'.ownsRow base e size v n xs := by
  refine ⟨h.1, ?_⟩
  rcases h.2 with q | ⟨g, cap, cur, q1, q2, q3, q4⟩
  · exact .inl q
  · exact .inr ⟨g, cap, cur, q1, q2, (hk g (by rw [q1]; rfl)).trans q3, q4⟩
theorem own_blk {w : World} {base : Nat} {e : TypeId} {size : Nat} {v : Value} {n : Nat} {xs : List Value} (h : w.ownsRow base e size v n xs) (g : Nat) (hg : v.ownBlock = some g) : base ≤ g ∧ ∃ cur, w.heap[g]? = some (.cells cur e (0, 0)) := by
  rcases h.2 with ⟨rfl, _⟩ | ⟨g', cap, cur, rfl, q2, q3, q4⟩
  · simp [Value.ownBlock] at hg
  · simp [Value.ownBlock] at hg
    subst hg
    exact ⟨q2, cur, q3⟩
theorem own_set {w : World} {base : Nat} {e : TypeId} {g n cap j : Nat} {xs : List Value} (h : w.ownsRow base e 3 (.slice (some ⟨g, 0, none⟩) n cap) n xs) (u : Value) : (w.setCell ⟨g, j, none⟩ u).ownsRow base e 3 (.slice (some ⟨g, 0, none⟩) n cap) n (xs.set j u) := by
  refine ⟨by rw [List.length_set]; exact h.1, ?_⟩
  rcases h.2 with ⟨q, _⟩ | ⟨g', cap', cur, q1, q2, q3, q4, q5, q6, q7⟩
  · cases q
  · cases q1
    refine .inr ⟨g, cap, _, rfl, q2, Ba.heap_setCell_same q3 u, q4, q5, by simpa using q6, ?_⟩
    rw [Array.toList_setIfInBounds, List.take_set, q7]

/-- what a crew of header type T and record type E is in memory: block B, all inside F -/
structure Cw (T E : TypeId) (w : World) (B : Nat) (F : Nat → Prop) (oa : Option Addr) (c : Nat) (l : List Mb) : Prop where
  hp : w.heap[B]? = some (.cells #[.slice oa l.length c] T (0, 0))
  ow : w.ownsRow 0 E 3 (.slice oa l.length c) l.length (mc l)
  fb : F B
  fr : ∀ g, (Value.slice oa l.length c).ownBlock = some g → F g
  bd : Bd F w
  le : l.length ≤ 512
def Cq (T E : TypeId) (w : World) (B : Nat) (F : Nat → Prop) (l : List Mb) : Prop := ∃ oa c, Cw T E w B F oa c l
section
variable {T E : TypeId} {w w' : World} {B : Nat} {F K : Nat → Prop} {oa : Option Addr} {c : Nat} {l : List Mb}
theorem Cw.at (h : Cw T E w B F oa c l) : MAt w oa l ∧ l.length ≤ c := by
  obtain ⟨oa', c', e, h1, h2⟩ := owns_mat h.ow
  cases e
  exact ⟨h1, h2⟩
theorem Cw.lt (h : Cw T E w B F oa c l) : B < w.heap.size := heap_lt h.hp
theorem Cq.lt (h : Cq T E w B F l) : B < w.heap.size := by
  obtain ⟨oa, c, h⟩ := h
  exact h.lt
theorem Cq.le (h : Cq T E w B F l) : l.length ≤ 512 := by
  obtain ⟨oa, c, h⟩ := h
  exact h.le
theorem Cq.bd (h : Cq T E w B F l) : Bd F w := by
  obtain ⟨oa, c, h⟩ := h
  exact h.bd
theorem Cw.sm (h : Cw T E w B F oa c l) (s : Sm F w w') : Cw T E w' B F oa c l :=
  ⟨s.heap h.fb h.hp, own_keep h.ow fun g e => s g (h.fr g e), h.fb, h.fr, h.bd.sm s, h.le⟩
theorem Cw.below (h : Cw T E w B F oa c l) (hb : Below w.heap.size w w') : Cw T E w' B F oa c l := h.sm (Sm.below hb h.bd)
theorem Cq.below (h : Cq T E w B F l) (hb : Below w.heap.size w w') : Cq T E w' B F l := by
  obtain ⟨oa, c, h⟩ := h
  exact ⟨oa, c, h.below hb⟩
theorem Cq.kf (h : Cq T E w B F l) (k : KF K w w') (hd : ∀ x, F x → ¬ K x) : Cq T E w' B F l := by
  obtain ⟨oa, c, h⟩ := h
  exact ⟨oa, c, h.sm (Sm.kf k h.bd hd)⟩
/-- a record's cell is laid anew -/
theorem Cw.set1 {g k : Nat} {x : Mb} (h : Cw T E w B F (some ⟨g, 0, none⟩) c l) (hT : T ≠ E) (hk : l[k]? = some x) (y : Int) : Cw T E (w.setCell ⟨g, k * 3 + 1, none⟩ (.int .i64 y)) B F (some ⟨g, 0, none⟩) c (l.set k ⟨x.p, y, x.s⟩) := by
  have K := (KB.refl g w).setCell (k * 3 + 1) (.int .i64 y)
  have hg : g ≠ B := by
    intro e
    obtain ⟨_, cur, q⟩ := own_blk h.ow g rfl
    rw [e, h.hp] at q
    cases q
    exact hT rfl
  refine ⟨?_, ?_, h.fb, ?_, h.bd.mono K.size, by rw [List.length_set]; exact h.le⟩
  · rw [List.length_set]; exact K.heap h.hp (Ne.symm hg)
  · rw [List.length_set, ← mc_set1 l k x y hk]; exact own_set h.ow _
  · rw [List.length_set]; exact h.fr
theorem Cw.set2 {g k : Nat} {x : Mb} (h : Cw T E w B F (some ⟨g, 0, none⟩) c l) (hT : T ≠ E) (hk : l[k]? = some x) (y : Int) : Cw T E (w.setCell ⟨g, k * 3 + 2, none⟩ (.int .i64 y)) B F (some ⟨g, 0, none⟩) c (l.set k ⟨x.p, x.q, y⟩) := by
  have K := (KB.refl g w).setCell (k * 3 + 2) (.int .i64 y)
  have hg : g ≠ B := by
    intro e
    obtain ⟨_, cur, q⟩ := own_blk h.ow g rfl
    rw [e, h.hp] at q
    cases q
    exact hT rfl
  refine ⟨?_, ?_, h.fb, ?_, h.bd.mono K.size, by rw [List.length_set]; exact h.le⟩
  · rw [List.length_set]; exact K.heap h.hp (Ne.symm hg)
  · rw [List.length_set, ← mc_set2 l k x y hk]; exact own_set h.ow _
  · rw [List.length_set]; exact h.fr
/-- one more -/
def Fw (F : Nat → Prop) (v : Value) : Nat → Prop := fun k => F k ∨ v.ownBlock = some k
theorem Cw.put {v0 : Value} {m : List Mb} (hG : w.heap[B]? = some (.cells #[v0] T (0, 0))) (ow : w.ownsRow 0 E 3 (.slice oa m.length c) m.length (mc m)) (hT : T ≠ E) (fb : F B) (bd : Bd F w) (le : m.length ≤ 512) : Cw T E (w.setCell ⟨B, 0, none⟩ (.slice oa m.length c)) B (Fw F (.slice oa m.length c)) oa c m := by
  have K := (KB.refl B w).setCell 0 (.slice oa m.length c)
  refine ⟨(Ba.heap_setCell_same hG _).trans rfl, own_keep ow fun g e => ?_, .inl fb, fun g e => .inr e, ?_, le⟩
  · obtain ⟨_, cur, q⟩ := own_blk ow g e
    refine K.block g (heap_lt q) fun e2 => ?_
    rw [e2, hG] at q
    cases q
    exact hT rfl
  · intro k hk
    refine Nat.lt_of_lt_of_le ?_ K.size
    rcases hk with q | q
    · exact bd k q
    · obtain ⟨_, cur, q⟩ := own_blk ow k q
      exact heap_lt q
end

/-! ### what becomes of a crew -/
def spE (l : List Mb) (p : Int) : Int := if p < 0 then 1 else if 512 ≤ l.length then 5 else 0
def spV (l : List Mb) (p : Int) : Int := if p < 0 then 0 else if 512 ≤ l.length then 0 else l.length
def spL (l : List Mb) (p : Int) : List Mb := if p < 0 then l else if 512 ≤ l.length then l else l ++ [⟨p, 0, 0⟩]
/-- the goroutine g -/
def gt (l : List Mb) (g : Int) : Option Mb := if g < 0 then none else l[g.toNat]?
def thr (l : List Mb) (g : Int) : Bool := (gt l g).isSome
def one0 (o : Option Mb) : Mb := o.getD ⟨0, 0, 0⟩
def chE (l : List Mb) (g a : Int) : Int := match gt l g with
  | none => 6
  | some x => if x.s = a then 0 else 7
def chL (l : List Mb) (g a b d : Int) : List Mb := match gt l g with
  | none => l
  | some x => if x.s = a then l.set g.toNat ⟨x.p, x.q + d, b⟩ else l
def ablF : Nat → List Mb → List Int
  | _, [] => []
  | k, x :: l => if x.s = 0 then (k : Int) :: ablF (k + 1) l else ablF (k + 1) l
def abl (l : List Mb) : List Int := ablF 0 l
def hasS (l : List Mb) (s : Int) : Bool := l.any fun x => x.s == s
def ovr (l : List Mb) : Int := if hasS l 0 then 0 else if hasS l 1 then 2 else 1
theorem gt_none {l : List Mb} {g : Int} (h : gt l g = none) : g < 0 ∨ (l.length : Int) ≤ g := by
  unfold gt at h
  split at h
  · exact .inl ‹_›
  · rw [List.getElem?_eq_none_iff] at h
    omega
theorem gt_some {l : List Mb} {g : Int} {x : Mb} (h : gt l g = some x) : ∃ k : Nat, g = (k : Int) ∧ k < l.length ∧ l[k]? = some x := by
  unfold gt at h
  split at h
  · cases h
  · exact ⟨g.toNat, by omega, (List.getElem?_eq_some_iff.1 h).1, h⟩
theorem gt_nat (l : List Mb) (k : Nat) : gt l (k : Int) = l[k]? := by
  unfold gt
  rw [if_neg (by omega), Int.toNat_natCast]
theorem gt_out {l : List Mb} {g : Int} (h : g < 0 ∨ (l.length : Int) ≤ g) : gt l g = none := by
  unfold gt
  split
  · rfl
  · rw [List.getElem?_eq_none_iff]
    omega
/-- places up to K, states from 0 to 2 -/
def Bn (K : Nat) (l : List Mb) : Prop := ∀ x ∈ l, (0 ≤ x.q ∧ x.q ≤ K) ∧ 0 ≤ x.s ∧ x.s ≤ 2
theorem Bn.nil (K : Nat) : Bn K [] := fun _ h => by simp at h
theorem Bn.mono {K M : Nat} {l : List Mb} (h : Bn K l) (hK : K ≤ M) : Bn M l := fun x hx => by have := h x hx; omega
theorem Bn.at {K : Nat} {l : List Mb} (h : Bn K l) {k : Nat} {x : Mb} (hx : l[k]? = some x) : (0 ≤ x.q ∧ x.q ≤ K) ∧ 0 ≤ x.s ∧ x.s ≤ 2 := h x (List.mem_of_getElem? hx)
theorem Bn.gt {K : Nat} {l : List Mb} (h : Bn K l) {g : Int} {x : Mb} (hx : gt l g = some x) : (0 ≤ x.q ∧ x.q ≤ K) ∧ 0 ≤ x.s ∧ x.s ≤ 2 := by
  obtain ⟨k, _, _, q⟩ := gt_some hx
  exact h.at q
theorem Bn.sp {K : Nat} {l : List Mb} (h : Bn K l) (p : Int) : Bn K (spL l p) := by
  unfold spL
  split
  · exact h
  · split
    · exact h
    · intro x hx
      rcases List.mem_append.1 hx with q | q
      · exact h x q
      · simp at q
        subst q
        exact ⟨⟨by simp, by simp⟩, by simp, by simp⟩
theorem Bn.ch {K : Nat} {l : List Mb} (h : Bn K l) (g a b d : Int) (hb : 0 ≤ b ∧ b ≤ 2) (hd : 0 ≤ d ∧ d ≤ 1) : Bn (K + 1) (chL l g a b d) := by
  unfold chL
  cases hg : Cr.gt l g with
  | none => exact h.mono (Nat.le_succ _)
  | some x =>
    have hx := h.gt hg
    simp only
    split
    · intro y hy
      rcases List.mem_or_eq_of_mem_set hy with q | q
      · exact (h.mono (Nat.le_succ _)) y q
      · subst q
        simp only
        omega
    · exact h.mono (Nat.le_succ _)
theorem ablF_app : ∀ (k : Nat) (l m : List Mb), ablF k (l ++ m) = ablF k l ++ ablF (k + l.length) m
  | k, [], m => by simp [ablF]
  | k, x :: l, m => by
    have h := ablF_app (k + 1) l m
    rw [show k + 1 + l.length = k + (x :: l).length by simp; omega] at h
    simp only [List.cons_append, ablF, h]
    split <;> simp
theorem ablF_len : ∀ (k : Nat) (l : List Mb), (ablF k l).length ≤ l.length
  | _, [] => by simp [ablF]
  | k, x :: l => by
    have h := ablF_len (k + 1) l
    simp only [ablF]
    split <;> simp <;> omega
theorem abl_len (l : List Mb) : (abl l).length ≤ l.length := ablF_len 0 l
theorem abl_take {l : List Mb} {k : Nat} {x : Mb} (h : l[k]? = some x) : abl (l.take (k + 1)) = abl (l.take k) ++ if x.s = 0 then [(k : Int)] else [] := by
  have hk := (List.getElem?_eq_some_iff.1 h).1
  unfold abl
  rw [List.take_add_one, h, ablF_app]
  congr 1
  rw [List.length_take, Nat.min_eq_left (by omega), Nat.zero_add]
  simp [ablF]
theorem hasS_take {l : List Mb} {k : Nat} {x : Mb} (h : l[k]? = some x) (s : Int) : hasS (l.take (k + 1)) s = (hasS (l.take k) s || x.s == s) := by
  unfold hasS
  rw [List.take_add_one, h, List.any_append]
  simp
/-! ### the law's two, as numbers -/
theorem ovr_cases (l : List Mb) : ovr l = 0 ∨ ovr l = 1 ∨ ovr l = 2 := by
  unfold ovr
  split
  · exact .inl rfl
  · split
    · exact .inr (.inr rfl)
    · exact .inr (.inl rfl)
end Cr
end Go.Proofs.Ytgpmefbmbfbjcaa
