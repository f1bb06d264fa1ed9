/- A list of records of integers, each with a list of integers behind them, among a law's arguments, opened. -/
import Derived.Test.YtekdcfdjohlfcaaBs
import Derived.Test.YtekdcfdjohlfcaaBo
namespace Go.Proofs.Ytekdcfdjohlfcaa
open Go.ChangeShapes Go.WideShapes Go.ChangeAt Go.RowKit
namespace Ba

/-- one such record at an address -/
def IAt (w : World) (b o : Nat) (m : Nat) (x : List Int × List Int) : Prop :=
  (∀ j, j < m → w.cell? ⟨b, o + j, none⟩ = some (.int .i64 (nth x.1 j))) ∧ ∃ ca cc, w.cell? ⟨b, o + m, none⟩ = some (.slice ca x.2.length cc) ∧ At w ca x.2 ∧ x.2.length ≤ cc ∧ cc ≤ maxLen
/-- the cells from oa on hold the records l, of m numbers and a list each -/
def JAt (w : World) (oa : Option Addr) (m : Nat) (l : List (List Int × List Int)) : Prop :=
  ∀ k x, l[k]? = some x → ∃ b off, oa = some ⟨b, off, none⟩ ∧ IAt w b (off + k * (m + 1)) m x
theorem JAt.nil (w : World) (oa : Option Addr) (m : Nat) : JAt w oa m [] := fun _ _ h => by simp at h
theorem IAt.below {w w' : World} {b o m : Nat} {x : List Int × List Int} (h : IAt w b o m x) (hb : Below w.heap.size w w') : IAt w' b o m x := by
  obtain ⟨h1, ca, cc, h2, h3, h4, h5⟩ := h
  exact ⟨fun j hj => (hb.cell (World.block_lt_of_cell? w _ (h1 j hj))).trans (h1 j hj), ca, cc, (hb.cell (World.block_lt_of_cell? w _ h2)).trans h2, h3.below hb, h4, h5⟩
theorem JAt.below {w w' : World} {oa : Option Addr} {m : Nat} {l : List (List Int × List Int)} (h : JAt w oa m l) (hb : Below w.heap.size w w') : JAt w' oa m l := by
  intro k x hk
  obtain ⟨b, off, he, hi⟩ := h k x hk
  exact ⟨b, off, he, hi.below hb⟩
section
variable {H : Type} {enc : TypeId × Value → H} {w : World}
/-- what an element's cells are -/
def ElIs (w : World) (m : Nat) (cs : List Value) (z : List Int × List Int) : Prop :=
  (∀ j, j < m → cs[j]? = some (.int .i64 (nth z.1 j))) ∧ ∃ ca cc, cs[m]? = some (.slice ca z.2.length cc) ∧ At w ca z.2 ∧ z.2.length ≤ cc ∧ cc ≤ maxLen
theorem jrecs_open {t e : TypeId} {m : Nat} (ht : Try.prog.underlying t = some (.slice e)) (hm0 : 0 < m) (hce : Try.prog.cellsOf e = m + 1)
    (hE : ∀ (n : Nat) (cs : List Value) (x : DataW H × List MemPlace), DataW.trod enc Try.prog w 0 (fun _ => true) true n e cs = some x → ∃ z, ElIs w m cs z)
    {n : Nat} {oa : Option Addr} {len cap : Nat} {x : DataW H × List MemPlace} (h : DataW.trod enc Try.prog w 0 (fun _ => true) true n t [.slice oa len cap] = some x) : ∃ l : List (List Int × List Int), l.length = len ∧ JAt w oa m l ∧ len ≤ cap ∧ cap ≤ maxLen := by
  rcases Go.Deep.open_slice ht h with ⟨hcs, _⟩ | ⟨a, len', cap', m', n', D, Pl, hcs, _, hl, hm, hmm, _, hel⟩
  · simp at hcs
    obtain ⟨rfl, rfl, rfl⟩ := hcs
    exact ⟨[], rfl, JAt.nil _ _ _, Nat.le_refl _, Nat.zero_le _⟩
  · simp at hcs
    obtain ⟨rfl, rfl, rfl⟩ := hcs
    have hmc : m' = cap := by simpa using hmm
    subst hmc
    have key : ∀ i, i < len → ∃ z : List Int × List Int, (∀ j, j < m → w.cell? ((a.add (i * (m + 1))).add j) = some (.int .i64 (nth z.1 j))) ∧ ∃ ca cc, w.cell? ((a.add (i * (m + 1))).add m) = some (.slice ca z.2.length cc) ∧ At w ca z.2 ∧ z.2.length ≤ cc ∧ cc ≤ maxLen := by
      intro i hi
      obtain ⟨cs', h1, h2⟩ := hel i (by omega)
      rw [hce] at h1
      obtain ⟨_, _, hcell⟩ := World.cells?_some h1
      obtain ⟨z, hz, ca, cc, h3, h4⟩ := hE _ _ _ h2
      exact ⟨z, fun j hj => (hcell j (by omega)).trans (hz j hj), ca, cc, (hcell m (by omega)).trans h3, h4⟩
    have fam : ∃ f : Nat → List Int × List Int, ∀ i, i < len → (∀ j, j < m → w.cell? ((a.add (i * (m + 1))).add j) = some (.int .i64 (nth (f i).1 j))) ∧ ∃ ca cc, w.cell? ((a.add (i * (m + 1))).add m) = some (.slice ca (f i).2.length cc) ∧ At w ca (f i).2 ∧ (f i).2.length ≤ cc ∧ cc ≤ maxLen := by
      refine ⟨fun i => if hi : i < len then Classical.choose (key i hi) else ([], []), fun i hi => ?_⟩
      simp only [dif_pos hi]
      exact Classical.choose_spec (key i hi)
    obtain ⟨f, hf⟩ := fam
    refine ⟨(List.range len).map f, by simp, ?_, hl, hm⟩
    intro k c hk
    have hk2 : k < len := by
      have := (List.getElem?_eq_some_iff.1 hk).1
      simpa using this
    have hc : c = f k := by
      simp [hk2] at hk
      exact hk.symm
    subst hc
    obtain ⟨q1, ca, cc, q2, q3⟩ := hf k hk2
    have hspot : a.spot = none := by
      have := World.cell?_spot ((hf 0 (by omega)).1 0 hm0)
      simpa [Addr.add] using this
    obtain ⟨b, off, spot⟩ := a
    simp at hspot
    subst hspot
    refine ⟨b, off, rfl, fun j hj => ?_, ca, cc, ?_, q3⟩
    · have := q1 j hj
      rw [Addr.add_lit, Addr.add_lit] at this
      exact this
    · rw [Addr.add_lit, Addr.add_lit] at q2
      exact q2
end
end Ba
end Go.Proofs.Ytekdcfdjohlfcaa
