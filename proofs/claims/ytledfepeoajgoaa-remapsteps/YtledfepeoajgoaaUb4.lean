/- A record stays (plain); two tables of our own; the laws' first calls. -/
import Derived.Test.YtledfepeoajgoaaUb3
namespace Go.Proofs.Ytledfepeoajgoaa
open Go.ChangeShapes Go.WideShapes Go.ChangeAt Go.RowKit
namespace Rk
open Ba

theorem Gd.mem {l : List Rd} (h : Gd l) {x : Rd} (hx : x ∈ l) : fd l x.g = some x ∧ hs l x.g = true := by
  obtain ⟨i, hi, e⟩ := List.getElem_of_mem hx
  have hx' : l[i]? = some x := by rw [List.getElem?_eq_getElem hi, e]
  exact ⟨h.srt.fd hx', hs_iff.2 ⟨i, x, hx', rfl⟩⟩
/-- what a record may become -/
def Sty (x y : Rd) : Prop := y.g = x.g ∧ y.t = x.t ∧ y.f = x.f ∧ (x.b = true → y = x)
theorem Sty.refl (x : Rd) : Sty x x := ⟨rfl, rfl, rfl, fun _ => rfl⟩
theorem stays_born {l : List Rd} {x : Rd} (hx : x ∈ l) (g t a : Int) : ∃ y ∈ bnL l g t a, Sty x y := by
  refine ⟨x, ?_, Sty.refl x⟩
  unfold bnL
  split
  · exact hx
  · split
    · exact hx
    · exact mem_ins.2 (.inr hx)
theorem stays_gone {l : List Rd} (hg : Gd l) {x : Rd} (hx : x ∈ l) (g a c : Int) : ∃ y ∈ gnL l g a c, Sty x y := by
  unfold gnL
  split
  · exact ⟨x, hx, Sty.refl x⟩
  · split
    · exact ⟨x, hx, Sty.refl x⟩
    · rename_i z hz
      split
      · exact ⟨x, hx, Sty.refl x⟩
      · rename_i q
        obtain ⟨h1, h2⟩ := fd_some hg.srt hz
        have hlt := (List.getElem?_eq_some_iff.1 h1).1
        by_cases e : x.g = g
        · have hf := (hg.mem hx).1
          rw [e, hz] at hf
          cases hf
          refine ⟨gn1 x a c, ?_, rfl, rfl, rfl, fun hb => ?_⟩
          · exact List.mem_of_getElem? (i := ps l g) (by rw [List.getElem?_set_self hlt])
          · simp [lv_ok (hg.ok x hx), hb] at q
        · obtain ⟨i, hi, ei⟩ := List.getElem_of_mem hx
          refine ⟨x, ?_, Sty.refl x⟩
          have hne : ps l g ≠ i := by
            intro e2
            rw [e2, List.getElem?_eq_getElem hi, ei] at h1
            cases h1
            exact e h2
          exact List.mem_of_getElem? (i := i) (by rw [List.getElem?_set_ne hne, List.getElem?_eq_getElem hi, ei])
theorem stays_step {s : S4} {l : List Rd} (hg : Gd l) (hg' : Gd (stE s l)) {g : Int} {x : Rd} (hx : fd l g = some x) : ∃ y, fd (stE s l) g = some y ∧ hs (stE s l) g = true ∧ Sty x y := by
  obtain ⟨h1, h2⟩ := fd_some hg.srt hx
  have hm := List.mem_of_getElem? h1
  have key : ∃ y ∈ stE s l, Sty x y := by
    unfold stE
    split
    · exact stays_born hm _ _ _
    · split
      · exact stays_gone hg hm _ _ _
      · exact ⟨x, hm, Sty.refl x⟩
  obtain ⟨y, hy, q⟩ := key
  have := hg'.mem hy
  rw [q.1, h2] at this
  exact ⟨y, this.1, this.2, q⟩
theorem dx_new {w w1 w2 : World} {B G : Nat} {F H : Nat → Prop} {l m : List Rd} (p : PT w1 B F l) (pf : ∀ x, F x → w.heap.size ≤ x) (b1 : Below w.heap.size w w1) (r : RT w2 G H m) (rf : ∀ x, H x → w1.heap.size ≤ x) (b2 : Below w1.heap.size w1 w2) : Dx w w2 B F G H l m :=
  ⟨p.below b2, r, pf, fun x hx => Nat.le_trans b1.size (rf x hx), fun x hx hh => by have := p.bd x hx; have := rf x hh; omega, btr b1 b2⟩
end Rk
end Go.Proofs.Ytledfepeoajgoaa
