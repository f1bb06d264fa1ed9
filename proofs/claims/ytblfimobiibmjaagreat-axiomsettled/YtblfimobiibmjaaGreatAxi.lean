import Derived.Test.YtblfimobiibmjaaGreatZjAh19
import Derived.Test.YtblfimobiibmjaaGreatAxh
namespace Go.Proofs.YtblfimobiibmjaaGreat
open Go.ChangeShapes Go.WideShapes Go.ChangeAt Go.RowKit
namespace Ax
open En Gu Eg Ba
theorem info_g : (Tryz.prog.info? 148).map (fun i => (i.zero, i.size, i.bytes)) = some (some (.agg #[.int .i64 0, .bool false]), 2, 16) := by kernel_rfl
theorem info_c : (Tryz.prog.info? 192).map (fun i => (i.zero, i.size, i.bytes)) = some (some (.agg #[.int .i64 0, .slice none 0 0, .slice none 0 0, .slice none 0 0]), 4, 80) := by kernel_rfl
theorem mk_g (w : World) (n : Nat) (hn : n ≤ 100000) : (Instr.makeSlice 142 (.int .i64 (n : Int)) (.int .i64 (n : Int))).run Tryz.prog w = .ok (.slice (some ⟨w.heap.size, 0, none⟩) n n) (w.alloc (.cells (madeCells #[.int .i64 0, .bool false] (n * 2)) 148)) := by
 obtain ⟨i0, hi, hz, hs, hby⟩ := info_ex info_g
 have := run_mkG (Tryz.underlying142) hi hz w n (by rw [hby]; omega) (by omega)
 rw [hs] at this
 exact this
theorem mk_c (w : World) (n : Nat) (hn : n ≤ 100000) : (Instr.makeSlice 143 (.int .i64 (n : Int)) (.int .i64 (n : Int))).run Tryz.prog w = .ok (.slice (some ⟨w.heap.size, 0, none⟩) n n) (w.alloc (.cells (madeCells #[.int .i64 0, .slice none 0 0, .slice none 0 0, .slice none 0 0] (n * 4)) 192)) := by
 obtain ⟨i0, hi, hz, hs, hby⟩ := info_ex info_c
 have := run_mkG (Tryz.underlying143) hi hz w n (by rw [hby]; omega) (by omega)
 rw [hs] at this
 exact this
theorem made_g (n g : Nat) (h : g < n) : (madeCells #[Value.int .i64 0, .bool false] (n * 2))[g * 2]? = some (.int .i64 0) ∧ (madeCells #[Value.int .i64 0, .bool false] (n * 2))[g * 2 + 1]? = some (.bool false) := by
 unfold madeCells
 have e0 : (g * 2) % 2 = 0 := by omega
 have e1 : (g * 2 + 1) % 2 = 1 := by omega
 have h0 : g * 2 < n * 2 := by omega
 have h1 : g * 2 + 1 < n * 2 := by omega
 simp [e0, e1, h0, h1]
theorem made_c (n g : Nat) (h : g < n) : (madeCells #[Value.int .i64 0, .slice none 0 0, .slice none 0 0, .slice none 0 0] (n * 4))[g * 4]? = some (.int .i64 0) ∧ ∀ b, b < 3 → (madeCells #[Value.int .i64 0, .slice none 0 0, .slice none 0 0, .slice none 0 0] (n * 4))[g * 4 + 1 + b]? = some (.slice none 0 0) := by
 unfold madeCells
 have e0 : (g * 4) % 4 = 0 := by omega
 have h0 : g * 4 < n * 4 := by omega
 refine ⟨by simp [e0, h0], fun b hb => ?_⟩
 have h1 : g * 4 + 1 + b < n * 4 := by omega
 obtain rfl | rfl | rfl : b = 0 ∨ b = 1 ∨ b = 2 := by omega
 ·have e1 : (g * 4 + 1 + 0) % 4 = 1 := by omega
  simp [e1, h1]
 ·have e1 : (g * 4 + 1 + 1) % 4 = 2 := by omega
  simp [e1, h1]
 ·have e1 : (g * 4 + 1 + 2) % 4 = 3 := by omega
  simp [e1, h1]
structure SC (w : World) (N A M G C : Nat) (la : Nat → Nat) (ex : Nat → Bool) (sz : Nat → Int) (D : Nat → Nat → List Nat) (vs : Nat → Nat → Value) : Prop where
 gr : ∃ cur, w.heap[A]? = some (.cells cur 148 (0, 0)) ∧ cur.size = G * 2 ∧ ∀ g, g < G → cur[g * 2]? = some (.int .i64 (la g : Int)) ∧ cur[g * 2 + 1]? = some (.bool (ex g))
 ch : ∃ cur, w.heap[M]? = some (.cells cur 192 (0, 0)) ∧ cur.size = C * 4 ∧ ∀ c, c < C → cur[c * 4]? = some (.int .i64 (sz c)) ∧ ∀ b, b < 3 → cur[c * 4 + 1 + b]? = some (vs c b)
 rn : ∀ c, c < C → ∀ b, b < 3 → Rn w N (vs c b) (D c b)
 dj : ∀ c b c' b', c < C → b < 3 → c' < C → b' < 3 → (c ≠ c' ∨ b ≠ b') → ∀ g, (vs c b).ownBlock = some g → (vs c' b').ownBlock ≠ some g
 ha : A < N
 hm : M < N
section
variable {w w' : World} {N A M G C : Nat} {la : Nat → Nat} {ex : Nat → Bool} {sz : Nat → Int} {D : Nat → Nat → List Nat} {vs : Nat → Nat → Value}
theorem SC.lt (h : SC w N A M G C la ex sz D vs) : A < w.heap.size ∧ M < w.heap.size := by
 obtain ⟨cur, a, -⟩ := h.gr
 obtain ⟨cur2, a2, -⟩ := h.ch
 exact ⟨heap_lt a, heap_lt a2⟩
theorem SC.ne (h : SC w N A M G C la ex sz D vs) : A ≠ M := by
 obtain ⟨cur, a, -⟩ := h.gr
 obtain ⟨cur2, a2, -⟩ := h.ch
 intro e
 rw [e, a2] at a
 have : 192 = 148 := by cases a
 revert this
 decide
theorem SC.below (h : SC w N A M G C la ex sz D vs) (b : Below w.heap.size w w') : SC w' N A M G C la ex sz D vs := by
 obtain ⟨cur, a, r⟩ := h.gr
 obtain ⟨cur2, a2, r2⟩ := h.ch
 exact ⟨⟨cur, heap_below a b, r⟩, ⟨cur2, heap_below a2 b, r2⟩, fun c hc x hx => (h.rn c hc x hx).below b, h.dj, h.ha, h.hm⟩
theorem SC.readG (h : SC w N A M G C la ex sz D vs) {g : Nat} (hg : g < G) : w.cell? ⟨A, g * 2, none⟩ = some (.int .i64 (la g : Int)) ∧ w.cell? ⟨A, g * 2 + 1, none⟩ = some (.bool (ex g)) := by
 obtain ⟨cur, a, -, r⟩ := h.gr
 obtain ⟨r0, r1⟩ := r g hg
 exact ⟨(cell_of a _).trans r0, (cell_of a _).trans r1⟩
theorem SC.readC (h : SC w N A M G C la ex sz D vs) {c : Nat} (hc : c < C) : w.cell? ⟨M, c * 4, none⟩ = some (.int .i64 (sz c)) ∧ w.cell? ⟨M, c * 4 + 1, none⟩ = some (vs c 0) ∧ w.cell? ⟨M, c * 4 + 2, none⟩ = some (vs c 1) ∧ w.cell? ⟨M, c * 4 + 3, none⟩ = some (vs c 2) := by
 obtain ⟨cur, a, -, r⟩ := h.ch
 obtain ⟨r0, r1⟩ := r c hc
 exact ⟨(cell_of a _).trans r0, (cell_of a _).trans (r1 0 (by omega)), (cell_of a _).trans (r1 1 (by omega)), (cell_of a _).trans (r1 2 (by omega))⟩
theorem SC.frA (h : SC w N A M G C la ex sz D vs) (o : Nat) : w.frozen? ⟨A, o, none⟩ = false := by
 obtain ⟨cur, a, -⟩ := h.gr
 exact frozen_of a _
theorem SC.frM (h : SC w N A M G C la ex sz D vs) (o : Nat) : w.frozen? ⟨M, o, none⟩ = false := by
 obtain ⟨cur, a, -⟩ := h.ch
 exact frozen_of a _
theorem SC.congr {la' : Nat → Nat} {ex' : Nat → Bool} {sz' : Nat → Int} {D' : Nat → Nat → List Nat} (h : SC w N A M G C la ex sz D vs) (e1 : ∀ g, g < G → la' g = la g) (e2 : ∀ g, g < G → ex' g = ex g) (e3 : ∀ c, c < C → sz' c = sz c) (e4 : ∀ c, c < C → ∀ b, b < 3 → D' c b = D c b) : SC w N A M G C la' ex' sz' D' vs := by
 obtain ⟨cur, a, s, r⟩ := h.gr
 obtain ⟨cur2, a2, s2, r2⟩ := h.ch
 refine ⟨⟨cur, a, s, fun g hg => ?_⟩, ⟨cur2, a2, s2, fun c hc => ?_⟩, fun c hc b hb => ?_, h.dj, h.ha, h.hm⟩
 ·rw [e1 g hg, e2 g hg]
  exact r g hg
 ·rw [e3 c hc]
  exact r2 c hc
 ·rw [e4 c hc b hb]
  exact h.rn c hc b hb
theorem rn_other {B : Nat} {v : Value} {l : List Nat} {k : Nat} {x : Value} {o : Nat} (h : Rn w B v l) (hk : k < B) : Rn (w.setCell ⟨k, o, none⟩ x) B v l := by
 refine own_keep h fun g hg hl => ?_
 rw [Below.heap_setCell _ _ _ _ (fun e => by have e' : g = k := e; omega)]
theorem SC.setG (h : SC w N A M G C la ex sz D vs) {g : Nat} (hg : g < G) (k : Nat) : SC (w.setCell ⟨A, g * 2, none⟩ (.int .i64 (k : Int))) N A M G C (fun y => if y = g then k else la y) ex sz D vs := by
 obtain ⟨cur, a, s, r⟩ := h.gr
 obtain ⟨cur2, a2, r2⟩ := h.ch
 refine ⟨⟨_, Ba.heap_setCell_same a _, by simpa using s, fun y hy => ?_⟩, ⟨cur2, (Below.heap_setCell _ _ _ _ (fun e => h.ne (show M = A from e).symm)).trans a2, r2⟩, fun y hy b hb => rn_other (h.rn y hy b hb) h.ha, h.dj, h.ha, h.hm⟩
 obtain ⟨r0, r1⟩ := r y hy
 refine ⟨?_, (Array.getElem?_setIfInBounds_ne (by omega)).trans r1⟩
 by_cases e : y = g
 ·subst e
  rw [if_pos rfl]
  exact Array.getElem?_setIfInBounds_self_of_lt (by omega)
 ·rw [if_neg e]
  exact (Array.getElem?_setIfInBounds_ne (by omega)).trans r0
theorem SC.setX (h : SC w N A M G C la ex sz D vs) {g : Nat} (hg : g < G) (b : Bool) : SC (w.setCell ⟨A, g * 2 + 1, none⟩ (.bool b)) N A M G C la (fun y => if y = g then b else ex y) sz D vs := by
 obtain ⟨cur, a, s, r⟩ := h.gr
 obtain ⟨cur2, a2, r2⟩ := h.ch
 refine ⟨⟨_, Ba.heap_setCell_same a _, by simpa using s, fun y hy => ?_⟩, ⟨cur2, (Below.heap_setCell _ _ _ _ (fun e => h.ne (show M = A from e).symm)).trans a2, r2⟩, fun y hy b hb => rn_other (h.rn y hy b hb) h.ha, h.dj, h.ha, h.hm⟩
 obtain ⟨r0, r1⟩ := r y hy
 refine ⟨(Array.getElem?_setIfInBounds_ne (by omega)).trans r0, ?_⟩
 by_cases e : y = g
 ·subst e
  rw [if_pos rfl]
  exact Array.getElem?_setIfInBounds_self_of_lt (by omega)
 ·rw [if_neg e]
  exact (Array.getElem?_setIfInBounds_ne (by omega)).trans r1
theorem SC.size (h : SC w N A M G C la ex sz D vs) {c : Nat} (hc : c < C) (x : Int) : SC (w.setCell ⟨M, c * 4, none⟩ (.int .i64 x)) N A M G C la ex (fun y => if y = c then x else sz y) D vs := by
 obtain ⟨cur, a, r⟩ := h.gr
 obtain ⟨cur2, a2, s2, r2⟩ := h.ch
 refine ⟨⟨cur, (Below.heap_setCell _ _ _ _ (fun e => h.ne e)).trans a, r⟩, ⟨_, Ba.heap_setCell_same a2 _, by simpa using s2, fun y hy => ?_⟩, fun y hy b hb => rn_other (h.rn y hy b hb) h.hm, h.dj, h.ha, h.hm⟩
 obtain ⟨r0, r1⟩ := r2 y hy
 refine ⟨?_, fun b hb => (Array.getElem?_setIfInBounds_ne (by omega)).trans (r1 b hb)⟩
 by_cases e : y = c
 ·subst e
  rw [if_pos rfl]
  exact Array.getElem?_setIfInBounds_self_of_lt (by omega)
 ·rw [if_neg e]
  exact (Array.getElem?_setIfInBounds_ne (by omega)).trans r0
theorem SC.put (h : SC w N A M G C la ex sz D vs) {c b : Nat} (hc : c < C) (hb : b < 3) {v' : Value} {l' : List Nat} (o' : Rn w' N v' l') (g : w.grownBy w' (vs c b).ownBlock) (hn : v'.ownBlock = (vs c b).ownBlock ∨ ∀ n, v'.ownBlock = some n → w.heap.size ≤ n) :
 SC (w'.setCell ⟨M, c * 4 + 1 + b, none⟩ v') N A M G C la ex sz (fun y z => if y = c ∧ z = b then l' else D y z) (fun y z => if y = c ∧ z = b then v' else vs y z) := by
 obtain ⟨cur, a, s, r⟩ := h.gr
 obtain ⟨cur2, a2, s2, r2⟩ := h.ch
 have hA : some A ≠ (vs c b).ownBlock := fun e => by have := own_base (h.rn c hc b hb) A e.symm; have := h.ha; omega
 have hM : some M ≠ (vs c b).ownBlock := fun e => by have := own_base (h.rn c hc b hb) M e.symm; have := h.hm; omega
 have a' : w'.heap[A]? = some (.cells cur 148 (0, 0)) := (g.block A (heap_lt a) hA).trans a
 have a2' : w'.heap[M]? = some (.cells cur2 192 (0, 0)) := (g.block M (heap_lt a2) hM).trans a2
 refine ⟨⟨cur, (Below.heap_setCell _ _ _ _ (fun e => h.ne e)).trans a', s, r⟩, ⟨_, Ba.heap_setCell_same a2' _, by simpa using s2, fun y hy => ?_⟩, fun y hy z hz => ?_, fun y z y' z' hy hz hy' hz' hne q hq => ?_, h.ha, h.hm⟩
 ·obtain ⟨r0, r1⟩ := r2 y hy
  refine ⟨(Array.getElem?_setIfInBounds_ne (by omega)).trans r0, fun z hz => ?_⟩
  by_cases e : y = c ∧ z = b
  ·obtain ⟨rfl, rfl⟩ := e
   simp only [and_self, if_true]
   exact Array.getElem?_setIfInBounds_self_of_lt (by omega)
  ·rw [if_neg e]
   exact (Array.getElem?_setIfInBounds_ne (by omega)).trans (r1 z hz)
 ·by_cases e : y = c ∧ z = b
  ·simp only [e, and_self, if_true]
   exact rn_other o' h.hm
  ·simp only [e, if_false]
   refine rn_other ?_ h.hm
   rcases (h.rn y hy z hz).2 with ⟨q1, q2⟩ | ⟨q, cap, cr, q1, q2, q3, q4⟩
   ·exact ⟨(h.rn y hy z hz).1, .inl ⟨q1, q2⟩⟩
   ·refine ⟨(h.rn y hy z hz).1, .inr ⟨q, cap, cr, q1, q2, (g.block q (heap_lt q3) fun e2 => ?_).trans q3, q4⟩⟩
    refine h.dj y z c b hy hz hc hb ?_ q (by rw [q1]; rfl) e2.symm
    rcases Classical.em (y = c) with ey | ey
    ·exact .inr fun ez => e ⟨ey, ez⟩
    ·exact .inl ey
 ·have old : ∀ y z, y < C → z < 3 → ¬ (y = c ∧ z = b) → ∀ n, v'.ownBlock = some n → (vs y z).ownBlock ≠ some n := by
   intro y z hy hz e n hn1 hn2
   rcases hn with q | q
   ·rw [q] at hn1
    refine h.dj y z c b hy hz hc hb ?_ n hn2 hn1
    rcases Classical.em (y = c) with ey | ey
    ·exact .inr fun ez => e ⟨ey, ez⟩
    ·exact .inl ey
   ·have q1 := q n hn1
    have q2 := own_lt (h.rn y hy z hz) n hn2
    omega
  by_cases e : y = c ∧ z = b <;> by_cases e' : y' = c ∧ z' = b
  ·omega
  ·simp only [e, e', if_false, and_self, if_true] at hq ⊢
   exact old y' z' hy' hz' e' q hq
  ·simp only [e, e', if_false, and_self, if_true] at hq ⊢
   exact fun q2 => old y z hy hz e q q2 hq
  ·simp only [e, e', if_false] at hq ⊢
   exact h.dj y z y' z' hy hz hy' hz' hne q hq
theorem SC.app (h : SC w N A M G C la ex sz D vs) {d b o : Nat} (hd : d < C) (hb : b < 3) (ho : o = d * 4 + 1 + b) (q : Nat) (hl : (D d b).length ≤ 100000) (hN : N ≤ w.heap.size) {base : Nat} (b1 : base ≤ M) (W : World) (hW : Below w.heap.size w W) :
 ∃ oa c w6, (Builtin.append_ #[67, 67] 67 #[vs d b, .slice (some ⟨W.heap.size, 0, none⟩) 1 1]).run Tryz.prog (W.alloc (.cells #[.int .i64 (q : Int)] 3)) = .ok (.slice oa ((D d b).length + 1) c) w6 ∧ w6.cell? ⟨M, o, none⟩ = some (vs d b) ∧ w6.frozen? ⟨M, o, none⟩ = false ∧
  (∃ vs', SC (w6.setCell ⟨M, o, none⟩ (.slice oa ((D d b).length + 1) c)) N A M G C la ex sz (fun y z => if y = d ∧ z = b then D d b ++ [q] else D y z) vs') ∧ Below base w (w6.setCell ⟨M, o, none⟩ (.slice oa ((D d b).length + 1) c)) ∧
  ∀ k cc tt fr, w.heap[k]? = some (.cells cc tt fr) → tt ≠ 3 → k ≠ M → (w6.setCell ⟨M, o, none⟩ (.slice oa ((D d b).length + 1) c)).heap[k]? = w.heap[k]? := by
 subst ho
 have bA := btr hW (below_alloc W (.cells #[.int .i64 (q : Int)] 3))
 have hA := h.below bA
 obtain ⟨i0, hi, hz, hs, hby⟩ := info_ex info_i0
 have hB2 : N ≤ (W.alloc (.cells #[.int .i64 (q : Int)] 3)).heap.size := by have := bA.size; omega
 obtain ⟨v', w', hr, h2, hg, -, hob⟩ := run_append_own_at (P := Tryz.prog) (W.alloc (.cells #[.int .i64 (q : Int)] 3)) N 67 67 3 i0 _ 1 8 Tryz.underlying67 hi hz hs hby rfl (by decide) _ _ _ (hA.rn d hd b hb) ⟨W.heap.size, 0, none⟩ 1 1 (nc [q]) (by simp [nc]) (fun j u hj => by rw [Addr.add_lit, Nat.zero_add, cell_of (heap_new W _)]; simpa [nc] using hj) (nc_one _) (by unfold maxLen; omega) (by omega) hB2
 rw [← nc_app] at h2
 obtain ⟨ea', c', rfl⟩ := Eg.own_sl h2
 obtain ⟨cur2, a2, s2, r2⟩ := hA.ch
 have hM : some M ≠ (vs d b).ownBlock := fun e => by have := own_base (hA.rn d hd b hb) M e.symm; have := h.hm; omega
 have a2' : w'.heap[M]? = some (.cells cur2 192 (0, 0)) := (hg.block M (heap_lt a2) hM).trans a2
 have R : Rn w' N (.slice ea' ((D d b).length + 1) c') (D d b ++ [q]) := by
  unfold Rn
  rw [List.length_append]
  exact h2
 refine ⟨ea', c', w', hr, (cell_of a2' _).trans ((r2 d hd).2 b hb), frozen_of a2' _, ⟨_, hA.put hd hb R hg ?_⟩, ?_, fun k cc tt fr hk ht hkM => ?_⟩
 ·rcases hob with z | z
  ·exact .inl z
  ·refine .inr fun n hn => ?_
   rw [z] at hn
   cases hn
   exact Nat.le_refl _
 ·have b2 := Eg.grown_below hg (Eg.own_base (hA.rn d hd b hb)) hB2
  have hbs : base ≤ w.heap.size := by have := h.lt.2; omega
  exact ((bA.mono hbs).trans (b2.mono (by have := h.hm; omega))).setCell b1 _
 ·refine (Below.heap_setCell _ _ _ _ (fun e => hkM e)).trans ?_
  refine (hg.block k (by have := heap_lt hk; have := bA.size; omega) (fun e2 => ?_)).trans (bA.block k (heap_lt hk))
  rcases (hA.rn d hd b hb).2 with ⟨r1, -⟩ | ⟨b', cap', cr', r1, -, r3, -⟩
  ·rw [r1] at e2
   cases e2
  ·rw [r1] at e2
   have e3 := (bA.block k (heap_lt hk)).trans hk
   cases e2
   rw [e3] at r3
   cases r3
   exact ht rfl
end
end Ax
end Go.Proofs.YtblfimobiibmjaaGreat
