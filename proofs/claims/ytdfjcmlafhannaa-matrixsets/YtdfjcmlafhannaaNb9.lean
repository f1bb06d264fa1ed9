/- Layer 25's laws: three lists of a law's own. -/
import Derived.Test.YtdfjcmlafhannaaNb8
import Derived.Maps.AppendAt
namespace Go.Proofs.Ytdfjcmlafhannaa
open Go.ChangeShapes Go.WideShapes Go.ChangeAt Go.RowKit
namespace Mx
open Ba (KB btr heap_lt cell_of frozen_of ret_bool ret_int bdrew bdrew1 heap_new below_alloc heap_below own_below nth)

theorem own_blk {w : World} {base : Nat} {e : TypeId} {v : Value} {n : Nat} {xs : List Value} (h : w.ownsRow base e 1 v n xs) (g : Nat) (hg : v.ownBlock = some g) : base ≤ g ∧ g < w.heap.size := by
  rcases h.2 with ⟨rfl, _⟩ | ⟨b, cap, cur, rfl, q2, q3, _⟩
  · simp [Value.ownBlock] at hg
  · simp [Value.ownBlock] at hg
    subst hg
    exact ⟨q2, heap_lt q3⟩
structure R3 (w : World) (base : Nat) (v1 v2 v3 : Value) (A B C : List Int) : Prop where
  r1 : w.ownsRow base 3 1 v1 A.length (ic A)
  r2 : w.ownsRow base 3 1 v2 B.length (ic B)
  r3 : w.ownsRow base 3 1 v3 C.length (ic C)
  d12 : ∀ g, v1.ownBlock = some g → v2.ownBlock ≠ some g
  d13 : ∀ g, v1.ownBlock = some g → v3.ownBlock ≠ some g
  d23 : ∀ g, v2.ownBlock = some g → v3.ownBlock ≠ some g
theorem R3.nil (w : World) (base : Nat) : R3 w base (.slice none 0 0) (.slice none 0 0) (.slice none 0 0) [] [] [] :=
  ⟨World.ownsRow_nil _ _ _ _, World.ownsRow_nil _ _ _ _, World.ownsRow_nil _ _ _ _, fun g e => by simp [Value.ownBlock] at e, fun g e => by simp [Value.ownBlock] at e, fun g e => by simp [Value.ownBlock] at e⟩
section
variable {w w' : World} {base : Nat} {v1 v2 v3 v' : Value} {A B C : List Int}
theorem R3.below (h : R3 w base v1 v2 v3 A B C) (b : Below w.heap.size w w') : R3 w' base v1 v2 v3 A B C :=
  ⟨own_below h.r1 b, own_below h.r2 b, own_below h.r3 b, h.d12, h.d13, h.d23⟩
theorem R3.s12 (h : R3 w base v1 v2 v3 A B C) : R3 w base v2 v1 v3 B A C :=
  ⟨h.r2, h.r1, h.r3, fun g e1 e2 => h.d12 g e2 e1, h.d23, h.d13⟩
theorem R3.s13 (h : R3 w base v1 v2 v3 A B C) : R3 w base v3 v2 v1 C B A :=
  ⟨h.r3, h.r2, h.r1, fun g e1 e2 => h.d23 g e2 e1, fun g e1 e2 => h.d13 g e2 e1, fun g e1 e2 => h.d12 g e2 e1⟩
theorem R3.app1 {x : Int} (h : R3 w base v1 v2 v3 A B C) (r : w'.ownsRow base 3 1 v' (A.length + 1) (ic A ++ [.int .i64 x])) (g : w.grownBy w' v1.ownBlock) (hat : v'.ownBlock = v1.ownBlock ∨ v'.ownBlock = some w.heap.size) : R3 w' base v' v2 v3 (A ++ [x]) B C := by
  have k : ∀ (u : Value) (l : List Int), w.ownsRow base 3 1 u l.length (ic l) → (∀ g, v1.ownBlock = some g → u.ownBlock ≠ some g) → w'.ownsRow base 3 1 u l.length (ic l) ∧ ∀ g, v'.ownBlock = some g → u.ownBlock ≠ some g := by
    intro u l hu hd
    refine ⟨hu.kept g ?_, fun q e e2 => ?_⟩
    · cases hv : u.ownBlock with
      | none => exact .inl rfl
      | some q => exact .inr fun e => hd q e.symm hv
    · rcases hat with p | p
      · exact hd q (p ▸ e) e2
      · rw [p] at e
        cases e
        exact Nat.lt_irrefl _ (own_blk hu _ e2).2
  have k2 := k v2 B h.r2 h.d12
  have k3 := k v3 C h.r3 h.d13
  exact ⟨by rw [ic_app, List.length_append]; exact r, k2.1, k3.1, k2.2, k3.2, h.d23⟩
theorem R3.bel {wS : World} (h : R3 w base v1 v2 v3 A B C) (b : Below base wS w) (hs : base ≤ w.heap.size) (g : w.grownBy w' v1.ownBlock) : Below base wS w' := b.grown g hs (fun k e => (own_blk h.r1 k e).1)
theorem R3.congr {A' B' C' : List Int} (h : R3 w base v1 v2 v3 A B C) (hA : A' = A) (hB : B' = B) (hC : C' = C) : R3 w base v1 v2 v3 A' B' C' := by subst hA hB hC; exact h
theorem R3.at1 (h : R3 w base v1 v2 v3 A B C) : ∃ oa c, v1 = .slice oa A.length c ∧ Ba.At w oa A := Ba.owns_at h.r1
end
end Mx
end Go.Proofs.Ytdfjcmlafhannaa
