/- From world to world, but for one block; a list in memory below a block. -/
import Derived.Test.YtakbbhngcdccpaaGreatBa
import Derived.Deep.AppendSrc
namespace Go.Proofs.YtakbbhngcdccpaaGreat
open Go.ChangeShapes Go.WideShapes Go.ChangeAt Go.RowKit
namespace Ba

theorem heap_lt {w : World} {b : Nat} {o : Obj} (h : w.heap[b]? = some o) : b < w.heap.size := by
  rcases Nat.lt_or_ge b w.heap.size with q | q
  · exact q
  · rw [Array.getElem?_eq_none q] at h; cases h

/-- from w to w' at most block R has changed, of those that were there -/
structure KB (R : Nat) (w w' : World) : Prop where
  os : w'.os = w.os
  tape : w'.tape = w.tape
  output : w'.output = w.output
  size : w.heap.size ≤ w'.heap.size
  block : ∀ k, k < w.heap.size → k ≠ R → w'.heap[k]? = w.heap[k]?
theorem KB.refl (R : Nat) (w : World) : KB R w w := ⟨rfl, rfl, rfl, Nat.le_refl _, fun _ _ _ => rfl⟩
theorem KB.trans {R : Nat} {a b c : World} (h : KB R a b) (k : KB R b c) : KB R a c :=
  ⟨k.os.trans h.os, k.tape.trans h.tape, k.output.trans h.output, Nat.le_trans h.size k.size, fun x hx hr => (k.block x (Nat.lt_of_lt_of_le hx h.size) hr).trans (h.block x hx hr)⟩
theorem KB.of {R : Nat} {a b : World} (h : Below a.heap.size a b) : KB R a b := ⟨h.os, h.tape, h.output, h.size, fun x hx _ => h.block x hx⟩
theorem KB.setCell {R : Nat} {a b : World} (h : KB R a b) (i : Nat) (v : Value) : KB R a (b.setCell ⟨R, i, none⟩ v) :=
  ⟨h.os, h.tape, h.output, by show _ ≤ (b.setCell _ _).heap.size; simp [World.setCell]; exact h.size, fun x hx hr => (Below.heap_setCell _ _ _ _ hr).trans (h.block x hx hr)⟩
theorem KB.below {R : Nat} {w a b : World} (h : Below w.heap.size w a) (k : KB R a b) (hR : w.heap.size ≤ R) : Below w.heap.size w b :=
  ⟨k.os.trans h.os, k.tape.trans h.tape, k.output.trans h.output, Nat.le_trans h.size k.size, fun x hx => (k.block x (Nat.lt_of_lt_of_le hx h.size) (by omega)).trans (h.block x hx)⟩
theorem KB.heap {R b : Nat} {w w' : World} {o : Obj} (k : KB R w w') (h : w.heap[b]? = some o) (hb : b ≠ R) : w'.heap[b]? = some o :=
  (k.block b (heap_lt h) hb).trans h
theorem KB.cell {R b i : Nat} {w w' : World} {v : Value} (k : KB R w w') (h : w.cell? ⟨b, i, none⟩ = some v) (hb : b ≠ R) : w'.cell? ⟨b, i, none⟩ = some v := by
  have := k.block b (World.block_lt_of_cell? w _ h) hb
  rw [← h]
  simp only [World.cell?, this]
theorem KB.at {R : Nat} {w w' : World} {oa : Option Addr} {l : List Int} (k : KB R w w') (h : At w oa l) (hb : ∀ a, oa = some a → a.block ≠ R) : At w' oa l := by
  intro j hj
  obtain ⟨b, off, rfl, hc⟩ := h j hj
  exact ⟨b, off, rfl, k.cell hc (hb _ rfl)⟩
theorem KB.at' {R : Nat} {w w' : World} {oa : Option Addr} {l : List Int} (k : KB R w w') (h : At w oa l) (hb : 0 < l.length → ∀ a, oa = some a → a.block ≠ R) : At w' oa l := by
  intro j hj
  obtain ⟨b, off, rfl, hc⟩ := h j hj
  exact ⟨b, off, rfl, k.cell hc (hb (by omega) _ rfl)⟩
theorem At.lt {w : World} {oa : Option Addr} {l : List Int} (h : At w oa l) (h0 : 0 < l.length) (a : Addr) (e : oa = some a) : a.block < w.heap.size := by
  obtain ⟨b, off, rfl, hc⟩ := h 0 h0
  cases e
  exact World.block_lt_of_cell? w _ hc
theorem At.tail {w : World} {b off : Nat} {x : Int} {l : List Int} (h : At w (some ⟨b, off, none⟩) (x :: l)) : At w (some ⟨b, off + 1, none⟩) l := by
  intro k hk
  obtain ⟨b', off', he, hc⟩ := h (k + 1) (by simp; omega)
  simp only [Option.some.injEq, Addr.mk.injEq] at he
  obtain ⟨rfl, rfl, _⟩ := he
  refine ⟨b, off + 1, rfl, ?_⟩
  rw [show off + 1 + k = off + (k + 1) by omega, hc]
  rfl
theorem At.head {w : World} {oa : Option Addr} {x : Int} {l : List Int} (h : At w oa (x :: l)) : ∃ b off, oa = some ⟨b, off, none⟩ ∧ w.cell? ⟨b, off, none⟩ = some (.int .i64 x) := by
  obtain ⟨b, off, rfl, hc⟩ := h 0 (by simp)
  exact ⟨b, off, rfl, hc⟩
end Ba
end Go.Proofs.YtakbbhngcdccpaaGreat
