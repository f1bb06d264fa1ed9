/- A list of records of whatever make among a law's arguments, opened: what each one's cells are. -/
import Derived.Test.YtfimfgffbfjkeaaBs
import Derived.Test.YtfimfgffbfjkeaaBo
namespace Go.Proofs.Ytfimfgffbfjkeaa
open Go.ChangeShapes Go.WideShapes Go.ChangeAt Go.RowKit
namespace Ba

/-- the cells from oa on hold the records l, of m cells each -/
def GAt {α : Type} (w : World) (oa : Option Addr) (m : Nat) (E : List Value → α → Prop) (l : List α) : Prop :=
  ∀ k x, l[k]? = some x → ∃ b off cs, oa = some ⟨b, off, none⟩ ∧ cs.length = m ∧ (∀ j, j < m → w.cell? ⟨b, off + k * m + j, none⟩ = cs[j]?) ∧ E cs x
theorem GAt.nil {α : Type} (w : World) (oa : Option Addr) (m : Nat) (E : List Value → α → Prop) : GAt w oa m E [] := fun _ _ h => by simp at h
theorem GAt.below {α : Type} {w w' : World} {oa : Option Addr} {m : Nat} {E E' : List Value → α → Prop} {l : List α} (h : GAt w oa m E l) (hb : Below w.heap.size w w') (hE : ∀ cs x, E cs x → E' cs x) : GAt w' oa m E' l := by
  intro k x hk
  obtain ⟨b, off, cs, he, hl, hc, hx⟩ := h k x hk
  refine ⟨b, off, cs, he, hl, fun j hj => ?_, hE cs x hx⟩
  obtain ⟨v, hv⟩ : ∃ v, cs[j]? = some v := ⟨_, List.getElem?_eq_getElem (by omega)⟩
  have := hc j hj
  rw [hv] at this
  rw [hv]
  exact (hb.cell (World.block_lt_of_cell? w _ this)).trans this
section
variable {H : Type} {enc : TypeId × Value → H} {w : World}
theorem grecs_open {α : Type} [Inhabited α] {E : List Value → α → Prop} {t e : TypeId} {m : Nat} (ht : Try.prog.underlying t = some (.slice e)) (hm0 : 0 < m) (hce : Try.prog.cellsOf e = m)
    (hE : ∀ (n : Nat) (cs : List Value) (x : DataW H × List MemPlace), DataW.trod enc Try.prog w 0 (fun _ => true) true n e cs = some x → ∃ z, E cs z)
    {n : Nat} {oa : Option Addr} {len cap : Nat} {x : DataW H × List MemPlace} (h : DataW.trod enc Try.prog w 0 (fun _ => true) true n t [.slice oa len cap] = some x) : ∃ l : List α, l.length = len ∧ GAt w oa m E l ∧ len ≤ cap ∧ cap ≤ maxLen := by
  rcases Go.Deep.open_slice ht h with ⟨hcs, _⟩ | ⟨a, len', cap', m', n', D, Pl, hcs, _, hl, hm, hmm, _, hel⟩
  · simp at hcs
    obtain ⟨rfl, rfl, rfl⟩ := hcs
    exact ⟨[], rfl, GAt.nil _ _ _ _, Nat.le_refl _, Nat.zero_le _⟩
  · simp at hcs
    obtain ⟨rfl, rfl, rfl⟩ := hcs
    have hmc : m' = cap := by simpa using hmm
    subst hmc
    have key : ∀ i, i < len → ∃ (z : α) (cs : List Value), cs.length = m ∧ (∀ j, j < m → w.cell? ((a.add (i * m)).add j) = cs[j]?) ∧ E cs z := by
      intro i hi
      obtain ⟨cs', h1, h2⟩ := hel i (by omega)
      rw [hce] at h1
      obtain ⟨_, h3, hcell⟩ := World.cells?_some h1
      obtain ⟨z, hz⟩ := hE _ _ _ h2
      exact ⟨z, cs', h3, fun j hj => hcell j (by omega), hz⟩
    have fam : ∃ f : Nat → α, ∀ i, i < len → ∃ cs : List Value, cs.length = m ∧ (∀ j, j < m → w.cell? ((a.add (i * m)).add j) = cs[j]?) ∧ E cs (f i) := by
      refine ⟨fun i => if hi : i < len then Classical.choose (key i hi) else default, fun i hi => ?_⟩
      simp only [dif_pos hi]
      exact Classical.choose_spec (key i hi)
    obtain ⟨f, hf⟩ := fam
    refine ⟨(List.range len).map f, by simp, ?_, hl, hm⟩
    intro k c hk
    have hk2 : k < len := by
      have := (List.getElem?_eq_some_iff.1 hk).1
      simpa using this
    have hc : c = f k := by
      simp [hk2] at hk
      exact hk.symm
    subst hc
    obtain ⟨cs, q0, q1, q2⟩ := hf k hk2
    have hspot : a.spot = none := by
      obtain ⟨cs0, r0, r1, -⟩ := hf 0 (by omega)
      obtain ⟨v, hv⟩ : ∃ v, cs0[0]? = some v := ⟨_, List.getElem?_eq_getElem (by omega)⟩
      have := r1 0 hm0
      rw [hv] at this
      have := World.cell?_spot this
      simpa [Addr.add] using this
    obtain ⟨b, off, spot⟩ := a
    simp at hspot
    subst hspot
    refine ⟨b, off, cs, rfl, q0, fun j hj => ?_, q2⟩
    have := q1 j hj
    rw [Addr.add_lit, Addr.add_lit] at this
    exact this
end
end Ba
end Go.Proofs.Ytfimfgffbfjkeaa
