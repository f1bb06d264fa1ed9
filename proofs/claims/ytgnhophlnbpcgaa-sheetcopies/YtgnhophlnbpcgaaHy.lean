/- What a script's copy keeps while numbers are written into another copy's blocks. -/
import Derived.Test.YtgnhophlnbpcgaaHx
import Derived.Test.YtgnhophlnbpcgaaHt
namespace Go.Proofs.Ytgnhophlnbpcgaa
open Go.ChangeShapes Go.WideShapes Go.ChangeAt Go.RowKit
namespace Sh
open De Ba Re

/-- outside the blocks from A to B nothing has changed, inside but numbers -/
structure Sim (A B : Nat) (w wr : World) : Prop where
  os : wr.os = w.os
  tape : wr.tape = w.tape
  output : wr.output = w.output
  size : wr.heap.size = w.heap.size
  out : ∀ k, (k < A ∨ B ≤ k) → wr.heap[k]? = w.heap[k]?
  cel : ∀ k i v, w.cell? ⟨k, i, none⟩ = some v → wr.cell? ⟨k, i, none⟩ = some v ∨ (∃ x, v = .int .i64 x) ∧ ∃ y, wr.cell? ⟨k, i, none⟩ = some (.int .i64 y)
  fro : ∀ k i, wr.frozen? ⟨k, i, none⟩ = w.frozen? ⟨k, i, none⟩
theorem Sim.refl (A B : Nat) (w : World) : Sim A B w w := ⟨rfl, rfl, rfl, rfl, fun _ _ => rfl, fun _ _ _ h => .inl h, fun _ _ => rfl⟩
theorem Sim.int {A B : Nat} {w wr : World} (h : Sim A B w wr) {k i : Nat} {x : Int} (hc : w.cell? ⟨k, i, none⟩ = some (.int .i64 x)) : ∃ y, wr.cell? ⟨k, i, none⟩ = some (.int .i64 y) := by
  rcases h.cel k i _ hc with q | ⟨_, q⟩
  · exact ⟨x, q⟩
  · exact q
theorem Sim.sl {A B : Nat} {w wr : World} (h : Sim A B w wr) {k i : Nat} {oa : Option Addr} {n c : Nat} (hc : w.cell? ⟨k, i, none⟩ = some (.slice oa n c)) : wr.cell? ⟨k, i, none⟩ = some (.slice oa n c) := by
  rcases h.cel k i _ hc with q | ⟨⟨x, q⟩, _⟩
  · exact q
  · cases q
theorem Sim.set {A B : Nat} {w wr : World} (h : Sim A B w wr) {b i : Nat} {x : Int} (hA : A ≤ b) (hB : b < B) (hc : w.cell? ⟨b, i, none⟩ = some (.int .i64 x)) (y : Int) : Sim A B w (wr.setCell ⟨b, i, none⟩ (.int .i64 y)) := by
  refine ⟨h.os, h.tape, h.output, by simp [World.setCell]; exact h.size, fun k hk => (Below.heap_setCell _ _ _ _ (by show k ≠ b; omega)).trans (h.out k hk), ?_, fun k j => (World.frozen?_setCell _ _ _ _).trans (h.fro k j)⟩
  intro k j v hv
  by_cases e : k = b ∧ j = i
  · obtain ⟨rfl, rfl⟩ := e
    rw [hc] at hv
    cases hv
    obtain ⟨z, hz⟩ := h.int hc
    exact .inr ⟨⟨x, rfl⟩, y, World.cell?_setCell_same _ _ _ hz⟩
  · have hne : (⟨k, j, none⟩ : Addr) ≠ ⟨b, i, none⟩ := by
      intro q
      injection q with q1 q2
      exact e ⟨q1, q2⟩
    have := World.cell?_setCell_other wr ⟨b, i, none⟩ ⟨k, j, none⟩ (.int .i64 y) (fun q => hne q.symm)
    rw [this]
    exact h.cel k j v hv
theorem Sim.below {A B : Nat} {w0 w wr : World} (h : Sim A B w wr) (hb : Below w0.heap.size w0 w) (hA : w0.heap.size ≤ A) : Below w0.heap.size w0 wr :=
  ⟨h.os.trans hb.os, h.tape.trans hb.tape, h.output.trans hb.output, by rw [h.size]; exact hb.size, fun k hk => (h.out k (.inl (by omega))).trans (hb.block k hk)⟩
theorem Sim.cellO {A B : Nat} {w wr : World} (h : Sim A B w wr) {k i : Nat} {v : Value} (hk : B ≤ k) (hc : w.cell? ⟨k, i, none⟩ = some v) : wr.cell? ⟨k, i, none⟩ = some v := by
  rw [← hc]
  simp only [World.cell?, h.out k (.inr hk)]
theorem Sim.pf {A B N : Nat} {w wr : World} {arr : Array Value} {ps : List (List OpD)} (h : Sim A B w wr) (hp : PF w N arr ps) (hN : B ≤ N) : PF wr N arr ps := by
  intro t q ht
  obtain ⟨g, c, h1, h2, h3, h4⟩ := hp t q ht
  refine ⟨g, c, h1, ?_, h3, h4⟩
  intro k o hk
  obtain ⟨ca, cc, ⟨q0, q1, q2, q3, q4⟩, hC, h5, h6⟩ := h2 k o hk
  refine ⟨ca, cc, ⟨h.cellO (by omega) q0, h.cellO (by omega) q1, h.cellO (by omega) q2, h.cellO (by omega) q3, h.cellO (by omega) q4⟩, ?_, h5, h6⟩
  intro j x hj
  obtain ⟨b, off, rfl, r0, r1, r2⟩ := hC j x hj
  have := h5 _ rfl
  simp only at this
  exact ⟨b, off, rfl, h.cellO (by omega) r0, h.cellO (by omega) r1, h.cellO (by omega) r2⟩
end Sh
end Go.Proofs.Ytgnhophlnbpcgaa
