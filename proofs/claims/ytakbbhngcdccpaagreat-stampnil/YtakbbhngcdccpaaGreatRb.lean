/- The reference's clocks by value: Within and Join, over this seat's program. -/
import Derived.Test.YtakbbhngcdccpaaGreatRa
namespace Go.Proofs.YtakbbhngcdccpaaGreat
open Go.ChangeShapes Go.WideShapes Go.ChangeAt Go.RowKit
namespace Ck

/-- 256 numbers as cells -/
def ra (F : Nat → Int) : Array Value := ((List.range 256).map fun k => Value.int .i64 (F k)).toArray
theorem ra_size (F : Nat → Int) : (ra F).size = 256 := by simp [ra]
theorem ra_at (F : Nat → Int) (k : Nat) (h : k < 256) : (ra F)[k]? = some (.int .i64 (F k)) := by simp [ra, h]
theorem RA.new (w : World) (F : Nat → Int) (t : TypeId) : RA (w.alloc (.cells (ra F) t)) w.heap.size 0 F := by
  intro k hk
  rw [Nat.zero_add]
  exact ⟨(cell_of (heap_new _ _) k).trans (ra_at F k hk), frozen_of (heap_new _ _) k⟩
theorem RA.of {w : World} {b : Nat} {F : Nat → Int} {t : TypeId} (h : w.heap[b]? = some (.cells (ra F) t (0, 0))) : RA w b 0 F := by
  intro k hk
  rw [Nat.zero_add]
  exact ⟨(cell_of h k).trans (ra_at F k hk), frozen_of h k⟩
theorem RA.below {w w' : World} {b off : Nat} {F : Nat → Int} (h : RA w b off F) (hb : Below w.heap.size w w') : RA w' b off F := by
  intro k hk
  obtain ⟨h1, h2⟩ := h k hk
  have := World.block_lt_of_cell? w _ h1
  exact ⟨(hb.cell this).trans h1, (hb.frozen this).trans h2⟩

def rwithin (F G : Nat → Int) : Bool := (List.range 256).all fun k => decide (F k ≤ G k)
theorem rwithin_iff (F G : Nat → Int) : rwithin F G = true ↔ ∀ k, k < 256 → F k ≤ G k := by simp [rwithin]
theorem rwithin_no (F G : Nat → Int) (k : Nat) (hk : k < 256) (h : G k < F k) : rwithin F G = false := by
  have : ¬ (rwithin F G = true) := by
    rw [rwithin_iff]
    intro hh
    have := hh k hk
    omega
  simpa using this

/-- the numbers G where they are greater, up to k -/
def jf (F G : Nat → Int) (k : Nat) : Nat → Int := fun j => if j < k then max (F j) (G j) else F j
theorem jf_zero (F G : Nat → Int) : jf F G 0 = F := by funext j; simp [jf]
theorem jf_same (F G : Nat → Int) (k : Nat) (h : G k ≤ F k) : jf F G (k + 1) = jf F G k := by
  funext j
  by_cases e : j = k
  · subst e; simp [jf]; omega
  · have : (j < k + 1) = (j < k) := by simp; omega
    simp only [jf, this]

/-- what the reference's Join leaves in the cells from off on of block b: the numbers H; all other cells as they were in W -/
def RJ (W : World) (b off : Nat) (H : Nat → Int) (wr : World) : Prop :=
  RA wr b off H ∧ wr.os = W.os ∧ wr.tape = W.tape ∧ wr.output = W.output ∧ wr.heap.size = W.heap.size ∧ (∀ k, k ≠ b → wr.heap[k]? = W.heap[k]?) ∧ (∀ o, o < off ∨ off + 256 ≤ o → wr.cell? ⟨b, o, none⟩ = W.cell? ⟨b, o, none⟩) ∧ (∀ o, wr.frozen? ⟨b, o, none⟩ = W.frozen? ⟨b, o, none⟩)

theorem RJ.refl {W : World} {b off : Nat} {F : Nat → Int} (h : RA W b off F) : RJ W b off F W := ⟨h, rfl, rfl, rfl, rfl, fun _ _ => rfl, fun _ _ => rfl, fun _ => rfl⟩
theorem RJ.drewN {W wr : World} {b off : Nat} {F : Nat → Int} (h : RJ W b off F wr) (q : Nat) : RJ W b off F (wr.drewN q) := h
theorem RJ.set {W wr : World} {b off : Nat} {F H : Nat → Int} (h : RJ W b off F wr) {k : Nat} (hk : k < 256) (v : Int) (hH : ∀ j, H j = if j = k then v else F j) : RJ W b off H (wr.setCell ⟨b, off + k, none⟩ (.int .i64 v)) := by
  obtain ⟨ra, h1, h2, h3, h4, h5, h6, h7⟩ := h
  have hb : Below 0 wr (wr.setCell ⟨b, off + k, none⟩ (.int .i64 v)) := (Below.refl 0 wr).setCell (Nat.zero_le _) _
  have hfz : ∀ o, (wr.setCell ⟨b, off + k, none⟩ (.int .i64 v)).frozen? ⟨b, o, none⟩ = wr.frozen? ⟨b, o, none⟩ := fun o => World.frozen?_setCell _ _ _ _
  refine ⟨fun j hj => ⟨?_, (hfz _).trans (ra j hj).2⟩, hb.os.trans h1, hb.tape.trans h2, hb.output.trans h3, by rw [← h4]; simp [World.setCell], fun x hx => (Below.heap_setCell _ _ _ _ hx).trans (h5 x hx), fun o ho => ?_, fun o => (hfz o).trans (h7 o)⟩
  · rw [hH j]
    by_cases e : j = k
    · subst e
      rw [if_pos rfl]
      exact World.cell?_setCell_same' _ _ _ (by rw [(ra j hj).1]; rfl)
    · rw [if_neg e, World.cell?_setCell_other wr ⟨b, off + k, none⟩ ⟨b, off + j, none⟩ (.int .i64 v) (fun q => by injection q; omega)]
      exact (ra j hj).1
  · rw [World.cell?_setCell_other wr ⟨b, off + k, none⟩ ⟨b, o, none⟩ (.int .i64 v) (fun q => by injection q; omega)]
    exact h6 o ho

theorem jf_step (F G : Nat → Int) (k : Nat) (h : F k < G k) : ∀ j, jf F G (k + 1) j = if j = k then G k else jf F G k j := by
  intro j
  by_cases e : j = k
  · subst e; simp [jf]; omega
  · have : (j < k + 1) = (j < k) := by simp; omega
    simp only [jf, this, if_neg e]
theorem jf_at (F G : Nat → Int) (k : Nat) : jf F G k k = F k := by simp [jf]

theorem RJ.alloc_base {w W wr : World} {b off : Nat} {F : Nat → Int} (h : RJ W b off F wr) {o : Obj} (hW : W = w.alloc o) : Fr (fun k => k = b) w wr := by
  subst hW
  obtain ⟨_, h1, h2, h3, h4, h5, _⟩ := h
  exact ⟨h1, h2, h3, by rw [h4]; simp, fun k hk hx => (h5 k hx).trans (Below.heap_alloc _ _ _ hk)⟩

end Ck
end Go.Proofs.YtakbbhngcdccpaaGreat
