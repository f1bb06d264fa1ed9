/- Package clock, what writes: the memory of a clock, its frame, and own(), over this seat's program. -/
import Derived.Test.YtakbbhngcdccpaaGreatCn
import Derived.Lib.AppendZerosOnto
namespace Go.Proofs.YtakbbhngcdccpaaGreat
open Go.ChangeShapes Go.WideShapes Go.ChangeAt Go.RowKit
namespace Ck

/-- nothing has turned from w to w' but blocks of X, and new ones -/
structure Fr (X : Nat → Prop) (w w' : World) : Prop where
  os : w'.os = w.os
  tape : w'.tape = w.tape
  output : w'.output = w.output
  size : w.heap.size ≤ w'.heap.size
  block : ∀ k, k < w.heap.size → ¬ X k → w'.heap[k]? = w.heap[k]?

theorem Fr.refl (X : Nat → Prop) (w : World) : Fr X w w := ⟨rfl, rfl, rfl, Nat.le_refl _, fun _ _ _ => rfl⟩
theorem Fr.trans {X Y : Nat → Prop} {a b c : World} (h : Fr X a b) (k : Fr Y b c) (hY : ∀ j, j < a.heap.size → Y j → X j) : Fr X a c :=
  ⟨k.os.trans h.os, k.tape.trans h.tape, k.output.trans h.output, Nat.le_trans h.size k.size, fun j hj hx => (k.block j (Nat.lt_of_lt_of_le hj h.size) (fun y => hx (hY j hj y))).trans (h.block j hj hx)⟩
theorem Fr.below {X : Nat → Prop} {w w' : World} (h : Fr X w w') {B : Nat} (hB : B ≤ w.heap.size) (hX : ∀ k, X k → B ≤ k) : Below B w w' :=
  ⟨h.os, h.tape, h.output, h.size, fun k hk => h.block k (Nat.lt_of_lt_of_le hk hB) (fun x => by have := hX k x; omega)⟩
theorem Fr.alloc {X : Nat → Prop} {a w : World} (h : Fr X a w) (o : Obj) : Fr X a (w.alloc o) :=
  ⟨h.os, h.tape, h.output, Nat.le_trans h.size (by simp), fun k hk hx => (Below.heap_alloc w o k (Nat.lt_of_lt_of_le hk h.size)).trans (h.block k hk hx)⟩
theorem Fr.drew {X : Nat → Prop} {a w : World} (h : Fr X a w) : Fr X a w.drew := ⟨h.os, h.tape, h.output, h.size, h.block⟩
theorem Fr.setCell {X : Nat → Prop} {a w : World} (h : Fr X a w) {p : Addr} (hp : X p.block ∨ a.heap.size ≤ p.block) (u : Value) : Fr X a (w.setCell p u) := by
  have hb : Below 0 w (w.setCell p u) := (Below.refl 0 w).setCell (Nat.zero_le _) u
  refine ⟨hb.os.trans h.os, hb.tape.trans h.tape, hb.output.trans h.output, Nat.le_trans h.size hb.size, fun k hk hx => ?_⟩
  rw [Below.heap_setCell w p u k (fun e => by subst e; rcases hp with hp | hp; exact hx hp; omega)]
  exact h.block k hk hx
theorem Fr.setRow {X : Nat → Prop} {a w : World} (h : Fr X a w) {g : Nat} (hp : X g) (cs : Array Value) : Fr X a (w.setRow g cs) :=
  ⟨h.os, h.tape, h.output, by simpa using h.size, fun k hk hx => (setRow_other w g k cs (fun e => hx (e ▸ hp))).trans (h.block k hk hx)⟩

/-- the clock in block b: its numbers l, whether it is shared, the block of its numbers, how many fit there -/
structure Rep (w : World) (b : Nat) (l : List Int) (s : Bool) (g : Option Nat) (cap : Nat) : Prop where
  head : w.heap[b]? = some (.cells #[.slice (g.map fun g => ⟨g, 0, none⟩) l.length cap, .bool s] 80 (0, 0))
  len : l.length ≤ 256
  le : l.length ≤ cap
  mx : cap ≤ maxLen
  sh : s = true → cap = l.length
  nil : g = none → cap = 0
  data : ∀ x, g = some x → x ≠ b ∧ ∃ cur, w.heap[x]? = some (.cells cur 3 (0, 0)) ∧ cap ≤ cur.size ∧ ∀ k, k < l.length → cur[k]? = some (.int .i64 (nth l k))

theorem frozen_of {w : World} {b : Nat} {cur : Array Value} {t : TypeId} (h : w.heap[b]? = some (.cells cur t (0, 0))) (k : Nat) : w.frozen? ⟨b, k, none⟩ = false := by
  simp [World.frozen?, h]

theorem Rep.at_ {w : World} {b : Nat} {l : List Int} {s : Bool} {g : Option Nat} {cap : Nat} (h : Rep w b l s g cap) : At w (g.map fun g => ⟨g, 0, none⟩) l := by
  intro k hk
  cases hg : g with
  | none => have := h.nil hg; have := h.le; omega
  | some x =>
    obtain ⟨_, cur, hc, _, hd⟩ := h.data x hg
    refine ⟨x, 0, rfl, ?_⟩
    rw [Nat.zero_add, cell_of hc k]
    exact hd k hk
theorem Rep.ck {w : World} {b : Nat} {l : List Int} {s : Bool} {g : Option Nat} {cap : Nat} (h : Rep w b l s g cap) : CK w b l :=
  ⟨_, cap, s, cell_of h.head 0, cell_of h.head 1, h.at_, h.len⟩
theorem Rep.lt {w : World} {b : Nat} {l : List Int} {s : Bool} {g : Option Nat} {cap : Nat} (h : Rep w b l s g cap) : b < w.heap.size := (Array.getElem?_eq_some_iff.1 h.head).1
theorem Rep.glt {w : World} {b : Nat} {l : List Int} {s : Bool} {g : Option Nat} {cap : Nat} (h : Rep w b l s g cap) {x : Nat} (hx : g = some x) : x < w.heap.size := by
  obtain ⟨_, cur, hc, _⟩ := h.data x hx
  exact (Array.getElem?_eq_some_iff.1 hc).1
/-- whatever leaves both blocks alone leaves the clock alone -/
theorem Rep.keep {w w' : World} {b : Nat} {l : List Int} {s : Bool} {g : Option Nat} {cap : Nat} (h : Rep w b l s g cap) (h1 : w'.heap[b]? = w.heap[b]?) (h2 : ∀ x, g = some x → w'.heap[x]? = w.heap[x]?) : Rep w' b l s g cap :=
  ⟨h1.trans h.head, h.len, h.le, h.mx, h.sh, h.nil, fun x hx => by
    obtain ⟨hne, cur, hc, rest⟩ := h.data x hx
    exact ⟨hne, cur, (h2 x hx).trans hc, rest⟩⟩

/-- l, and noughts behind it up to n numbers -/
def pad (l : List Int) (n : Nat) : List Int := l ++ List.replicate (n - l.length) 0
theorem pad_length (l : List Int) (n : Nat) : (pad l n).length = max l.length n := by simp [pad]; omega
theorem nth_pad (l : List Int) (n k : Nat) : nth (pad l n) k = nth l k := by
  by_cases h : k < l.length
  · simp [nth, pad, List.getElem?_append_left h]
  · rw [nth_out l k (by omega)]
    by_cases h2 : k < max l.length n
    · rw [nth_lt _ _ (by rw [pad_length]; exact h2)]
      simp only [pad]
      rw [List.getElem_append_right (by omega)]
      simp
    · exact nth_out _ _ (by rw [pad_length]; omega)
theorem pad_same (l : List Int) (n : Nat) (h : n ≤ l.length) : pad l n = l := by
  have : n - l.length = 0 := by omega
  simp [pad, this]

/-- the blocks that a clock may write -/
def Mine (b : Nat) (s : Bool) (g : Option Nat) : Nat → Prop := fun k => k = b ∨ (s = false ∧ g = some k)
/-- what becomes of a clock that is changed from world w on: it has the same numbers' block, or a new one of its own -/
def Nx (w : World) (s : Bool) (g : Option Nat) (s' : Bool) (g' : Option Nat) : Prop := (s' = s ∧ g' = g) ∨ (s' = false ∧ ∃ x, g' = some x ∧ w.heap.size ≤ x)

theorem heap_setCell_same {w : World} {b i : Nat} {cur : Array Value} {t : TypeId} {fr : Nat × Nat} (h : w.heap[b]? = some (.cells cur t fr)) (v : Value) : (w.setCell ⟨b, i, none⟩ v).heap[b]? = some (.cells (cur.setIfInBounds i v) t fr) := by
  rw [setCell_eq_setRow w b i cur t fr v h]
  exact setRow_heap w b cur _ t fr h
end Ck
end Go.Proofs.YtakbbhngcdccpaaGreat
