/- A list of bool among a law's arguments, opened. -/
import Derived.Test.YtbangoghekefcaaBo
namespace Go.Proofs.Ytbangoghekefcaa
open Go.ChangeShapes Go.WideShapes Go.ChangeAt Go.RowKit
namespace Ba

/-- the cells from oa on hold l -/
def BAt (w : World) (oa : Option Addr) (l : List Bool) : Prop :=
  ∀ k x, l[k]? = some x → ∃ b off, oa = some ⟨b, off, none⟩ ∧ w.cell? ⟨b, off + k, none⟩ = some (.bool x)
theorem BAt.below {w w' : World} {oa : Option Addr} {l : List Bool} (h : BAt w oa l) (hb : Below w.heap.size w w') : BAt w' oa l := by
  intro k x hk
  obtain ⟨b, off, he, hc⟩ := h k x hk
  exact ⟨b, off, he, (hb.cell (World.block_lt_of_cell? w _ hc)).trans hc⟩
theorem BAt.nil (w : World) (oa : Option Addr) : BAt w oa [] := fun _ _ hk => by simp at hk

section
variable {H : Type} {enc : TypeId × Value → H} {w : World}
theorem bools_open {fuel : Nat} {oa : Option Addr} {len cap : Nat} {x : DataW H × List MemPlace} (h : DataW.trod enc Try.prog w 0 (fun _ => true) true fuel 53 [.slice oa len cap] = some x) : ∃ l, l.length = len ∧ BAt w oa l ∧ len ≤ cap ∧ cap ≤ maxLen := by
  rcases Go.Deep.open_slice Try.underlying53 h with ⟨hcs, _⟩ | ⟨a, len', cap', m, n, D, Pl, hcs, _, hl, hm, hmm, _, hel⟩
  · simp at hcs
    obtain ⟨rfl, rfl, rfl⟩ := hcs
    exact ⟨[], rfl, BAt.nil _ _, Nat.le_refl _, Nat.zero_le _⟩
  · simp at hcs
    obtain ⟨rfl, rfl, rfl⟩ := hcs
    have hmc : m = cap := by simpa using hmm
    subst hmc
    have ce : Try.prog.cellsOf 4 = 1 := by kernel_rfl
    have key : ∀ i, i < len → ∃ b : Bool, w.cell? (a.add i) = some (.bool b) := by
      intro i hi
      obtain ⟨cs', h1, h2⟩ := hel i (by omega)
      rw [ce, Nat.mul_one] at h1
      obtain ⟨_, hlen, hcell⟩ := World.cells?_some h1
      obtain ⟨b, hb, _⟩ := DataW.trod_bool Try.underlying4 h2
      refine ⟨b, ?_⟩
      have := hcell 0 (by decide)
      rw [hb] at this
      simpa [Addr.add] using this
    have fam : ∃ f : Nat → Bool, ∀ i, i < len → w.cell? (a.add i) = some (.bool (f i)) := by
      refine ⟨fun i => if hi : i < len then Classical.choose (key i hi) else false, fun i hi => ?_⟩
      simp only [dif_pos hi]
      exact Classical.choose_spec (key i hi)
    obtain ⟨f, hf⟩ := fam
    refine ⟨(List.range len).map f, by simp, ?_, hl, hm⟩
    intro k c hk
    have hk2 : k < len := by
      have := (List.getElem?_eq_some_iff.1 hk).1
      simpa using this
    have hc : c = f k := by
      simp [hk2] at hk
      exact hk.symm
    subst hc
    have hspot : a.spot = none := by
      have := World.cell?_spot (hf 0 (by omega))
      simpa [Addr.add] using this
    obtain ⟨b, off, spot⟩ := a
    simp at hspot
    subst hspot
    have := hf k hk2
    rw [Addr.add_lit] at this
    exact ⟨b, off, rfl, this⟩
end
end Ba
end Go.Proofs.Ytbangoghekefcaa
