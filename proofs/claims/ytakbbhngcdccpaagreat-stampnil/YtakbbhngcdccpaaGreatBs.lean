/- A list of records of integers among a law's arguments, opened. -/
import Derived.Test.YtakbbhngcdccpaaGreatBk
import Derived.Deep.Slices
import Derived.ShutString
import Derived.ChangeOld
namespace Go.Proofs.YtakbbhngcdccpaaGreat
open Go.ChangeShapes Go.WideShapes Go.ChangeAt Go.RowKit
namespace Ba

/-- the cells from oa on hold the records l, of m numbers each -/
def RAt (w : World) (oa : Option Addr) (m : Nat) (l : List (List Int)) : Prop :=
  ∀ k x, l[k]? = some x → ∃ b off, oa = some ⟨b, off, none⟩ ∧ ∀ j, j < m → w.cell? ⟨b, off + k * m + j, none⟩ = some (.int .i64 (nth x j))
theorem RAt.nil (w : World) (oa : Option Addr) (m : Nat) : RAt w oa m [] := fun _ _ h => by simp at h
theorem RAt.below {w w' : World} {oa : Option Addr} {m : Nat} {l : List (List Int)} (h : RAt w oa m l) (hb : Below w.heap.size w w') : RAt w' oa m l := by
  intro k x hk
  obtain ⟨b, off, he, hc⟩ := h k x hk
  exact ⟨b, off, he, fun j hj => (hb.cell (World.block_lt_of_cell? w _ (hc j hj))).trans (hc j hj)⟩
theorem RAt.kb {w w' : World} {R : Nat} {oa : Option Addr} {m : Nat} {l : List (List Int)} (h : RAt w oa m l) (k : KB R w w') (hb : ∀ a, oa = some a → a.block ≠ R) : RAt w' oa m l := by
  intro i x hi
  obtain ⟨b, off, rfl, hc⟩ := h i x hi
  exact ⟨b, off, rfl, fun j hj => k.cell (hc j hj) (hb _ rfl)⟩
/-- below G nothing has changed, and no block of another type than e but G -/
def FT (G : Nat) (e : TypeId) (w w' : World) : Prop := Below G w w' ∧ ∀ k c t fr, w.heap[k]? = some (.cells c t fr) → t ≠ e → k ≠ G → w'.heap[k]? = some (.cells c t fr)
theorem FT.refl (P : Nat) (e : TypeId) (w : World) : FT P e w w := ⟨Below.refl _ _, fun _ _ _ _ h _ _ => h⟩
theorem FT.trans {P : Nat} {e : TypeId} {a b c : World} (h : FT P e a b) (k : FT P e b c) : FT P e a c :=
  ⟨h.1.trans k.1, fun x cc t fr hx ht hP => k.2 x cc t fr (h.2 x cc t fr hx ht hP) ht hP⟩
theorem FT.of {P : Nat} {e : TypeId} {a b : World} (h : Below a.heap.size a b) (hP : P ≤ a.heap.size) : FT P e a b :=
  ⟨h.mono hP, fun _ _ _ _ hx _ _ => heap_below hx h⟩
theorem FT.setP {P : Nat} {e : TypeId} {a b : World} (h : FT P e a b) (i : Nat) (v : Value) : FT P e a (b.setCell ⟨P, i, none⟩ v) :=
  ⟨h.1.setCell (Nat.le_refl _) _, fun x cc t fr hx ht hP => (Below.heap_setCell _ _ _ _ hP).trans (h.2 x cc t fr hx ht hP)⟩
theorem FT.setS {P : Nat} {e : TypeId} {a b : World} {q : Nat} {c : Array Value} {f : Nat × Nat} (h : FT P e a b) (hq : b.heap[q]? = some (.cells c e f)) (hP : P ≤ q) (i : Nat) (v : Value) : FT P e a (b.setCell ⟨q, i, none⟩ v) :=
  ⟨h.1.setCell hP _, fun x cc t fr hx ht hPx => (Below.heap_setCell _ _ _ _ (by
    intro (e : x = q)
    have := h.2 x cc t fr hx ht hPx
    rw [e, hq] at this
    cases this
    exact ht rfl)).trans (h.2 x cc t fr hx ht hPx)⟩
theorem FT.setNew {P : Nat} {e : TypeId} {a b : World} {z : Nat} (h : FT P e a b) (hz : a.heap.size ≤ z) (hP : P ≤ z) (i : Nat) (v : Value) : FT P e a (b.setCell ⟨z, i, none⟩ v) :=
  ⟨h.1.setCell hP _, fun x cc t fr hx ht hPx => (Below.heap_setCell _ _ _ _ (by have := heap_lt hx; show x ≠ z; omega)).trans (h.2 x cc t fr hx ht hPx)⟩
theorem FT.alloc {P : Nat} {e : TypeId} {a b : World} (h : FT P e a b) (hP : P ≤ b.heap.size) (o : Obj) : FT P e a (b.alloc o) := h.trans (FT.of (below_alloc _ _) hP)
theorem FT.under {P : Nat} {e : TypeId} {w a b : World} (h : Below w.heap.size w a) (k : FT P e a b) (hP : w.heap.size ≤ P) : Below w.heap.size w b := h.trans (k.1.mono hP)
theorem own_below {w w' : World} {base : Nat} {e : TypeId} {size : Nat} {v : Value} {n : Nat} {xs : List Value} (h : w.ownsRow base e size v n xs) (hb : Below w.heap.size w w') : w'.ownsRow base e size v n xs := by
  refine ⟨h.1, ?_⟩
  rcases h.2 with q | ⟨g, cap, cur, q1, q2, q3, q4⟩
  · exact .inl q
  · exact .inr ⟨g, cap, cur, q1, q2, heap_below q3 hb, q4⟩
theorem own_ty {w : World} {base size : Nat} {e : TypeId} {v : Value} {n g : Nat} {xs : List Value} {c : Array Value} {t : TypeId} {fr : Nat × Nat} (h : w.ownsRow base e size v n xs) (hg : w.heap[g]? = some (.cells c t fr)) (ht : t ≠ e) : some g ≠ v.ownBlock := by
  intro q
  rcases h.2 with ⟨rfl, _⟩ | ⟨b, cap, cur, rfl, _, hb, _⟩
  · simp [Value.ownBlock] at q
  · simp [Value.ownBlock] at q
    subst q
    rw [hg] at hb
    simp at hb
    exact ht hb.2.1
theorem one_of {cs : List Value} {j : Nat} {v : Value} (h : (cs.drop j).take 1 = [v]) : cs[j]? = some v := by
  have : ((cs.drop j).take 1)[0]? = some v := by rw [h]; rfl
  simpa using this
theorem cells_int : Tryz.prog.cellsOf 3 = 1 := by kernel_rfl

section
variable {H : Type} {enc : TypeId × Value → H} {w : World}
theorem recs_open {t e : TypeId} {m : Nat} (ht : Tryz.prog.underlying t = some (.slice e)) (hm0 : 0 < m) (hce : Tryz.prog.cellsOf e = m)
    (hE : ∀ (n : Nat) (cs : List Value) (x : DataW H × List MemPlace), DataW.trod enc Tryz.prog w 0 (fun _ => true) true n e cs = some x → ∃ z : List Int, ∀ j, j < m → cs[j]? = some (.int .i64 (nth z j)))
    {n : Nat} {oa : Option Addr} {len cap : Nat} {x : DataW H × List MemPlace} (h : DataW.trod enc Tryz.prog w 0 (fun _ => true) true n t [.slice oa len cap] = some x) : ∃ l : List (List Int), l.length = len ∧ RAt w oa m l ∧ len ≤ cap ∧ cap ≤ maxLen := by
  rcases Go.Deep.open_slice ht h with ⟨hcs, _⟩ | ⟨a, len', cap', m', n', D, Pl, hcs, _, hl, hm, hmm, _, hel⟩
  · simp at hcs
    obtain ⟨rfl, rfl, rfl⟩ := hcs
    exact ⟨[], rfl, RAt.nil _ _ _, Nat.le_refl _, Nat.zero_le _⟩
  · simp at hcs
    obtain ⟨rfl, rfl, rfl⟩ := hcs
    have hmc : m' = cap := by simpa using hmm
    subst hmc
    have key : ∀ i, i < len → ∃ z : List Int, ∀ j, j < m → w.cell? ((a.add (i * m)).add j) = some (.int .i64 (nth z j)) := by
      intro i hi
      obtain ⟨cs', h1, h2⟩ := hel i (by omega)
      rw [hce] at h1
      obtain ⟨_, _, hcell⟩ := World.cells?_some h1
      obtain ⟨z, hz⟩ := hE _ _ _ h2
      exact ⟨z, fun j hj => (hcell j hj).trans (hz j hj)⟩
    have fam : ∃ f : Nat → List Int, ∀ i, i < len → ∀ j, j < m → w.cell? ((a.add (i * m)).add j) = some (.int .i64 (nth (f i) j)) := by
      refine ⟨fun i => if hi : i < len then Classical.choose (key i hi) else [], fun i hi => ?_⟩
      simp only [dif_pos hi]
      exact Classical.choose_spec (key i hi)
    obtain ⟨f, hf⟩ := fam
    refine ⟨(List.range len).map f, by simp, ?_, hl, hm⟩
    intro k c hk
    have hk2 : k < len := by
      have := (List.getElem?_eq_some_iff.1 hk).1
      simpa using this
    have hc : c = f k := by
      simp [hk2] at hk
      exact hk.symm
    subst hc
    have hspot : a.spot = none := by
      have := World.cell?_spot (hf 0 (by omega) 0 hm0)
      simpa [Addr.add] using this
    obtain ⟨b, off, spot⟩ := a
    simp at hspot
    subst hspot
    refine ⟨b, off, rfl, fun j hj => ?_⟩
    have := hf k hk2 j hj
    rw [Addr.add_lit, Addr.add_lit] at this
    exact this
end
end Ba
end Go.Proofs.YtakbbhngcdccpaaGreat
