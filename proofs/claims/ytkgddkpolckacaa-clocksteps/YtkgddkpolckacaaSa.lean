/- The law ClockSteps: its beginning, over this seat's program. -/
import Derived.Test.YtkgddkpolckacaaCx
import Derived.Deep.RegionHeld
namespace Go.Proofs.Ytkgddkpolckacaa
open Go.ChangeShapes Go.WideShapes Go.ChangeAt Go.RowKit
namespace Ck

/-- 768 noughts -/
def z3 : Array Value := ((List.range 768).map fun _ => Value.int .i64 0).toArray
theorem z3_at (k : Nat) (h : k < 768) : z3[k]? = some (.int .i64 0) := by simp [z3, h]
theorem info_three : (Try.prog.info? 30).map (fun i => (i.zero, i.size)) = some (some (.agg z3), 768) := by kernel_rfl
theorem zero_three : ∀ w, (zeroValue 30).run Try.prog w = .ok (.agg z3) w := (zero_of_info info_three).1

/-- len steps of five numbers each from oa on -/
def StepsAt (w : World) (oa : Option Addr) (len : Nat) (V : Nat → Nat → Int) : Prop :=
  ∀ i, i < len → ∃ b off, oa = some ⟨b, off, none⟩ ∧ ∀ j, j < 5 → w.cell? ⟨b, off + i * 5 + j, none⟩ = some (.int .i64 (V i j))
theorem StepsAt.below {w w' : World} {oa : Option Addr} {len : Nat} {V : Nat → Nat → Int} (h : StepsAt w oa len V) (hb : Below w.heap.size w w') : StepsAt w' oa len V := by
  intro i hi
  obtain ⟨b, off, e, hc⟩ := h i hi
  exact ⟨b, off, e, fun j hj => (hb.cell (World.block_lt_of_cell? w _ (hc j hj))).trans (hc j hj)⟩


def W0 (w : World) : World := ((((w.alloc (.cells #[.slice none 0 0, .bool false] 69)).alloc (.cells #[.slice none 0 0, .bool false] 69)).alloc (.cells #[.slice none 0 0, .bool false] 69)).alloc
  (.cells #[.pointer (some ⟨w.heap.size, 0, none⟩), .pointer (some ⟨w.heap.size + 1, 0, none⟩), .pointer (some ⟨w.heap.size + 1 + 1, 0, none⟩)] 23)).alloc (.cells z3 30)

theorem heap_W0 (w : World) : (W0 w).heap = ((((w.heap.push (.cells #[.slice none 0 0, .bool false] 69)).push (.cells #[.slice none 0 0, .bool false] 69)).push (.cells #[.slice none 0 0, .bool false] 69)).push
  (.cells #[.pointer (some ⟨w.heap.size, 0, none⟩), .pointer (some ⟨w.heap.size + 1, 0, none⟩), .pointer (some ⟨w.heap.size + 1 + 1, 0, none⟩)] 23)).push (.cells z3 30) := rfl

theorem hs_start (w : World) : HS w (w.heap.size + 1 + 1 + 1) (w.heap.size + 1 + 1 + 1 + 1) (fun i => w.heap.size + i) (fun _ => []) (fun _ => nf) (W0 w) := by
  have hz : (W0 w).heap.size = w.heap.size + 5 := by rw [heap_W0]; simp
  have nw : ∀ (v : World) (o : Obj) (k : Nat), k = v.heap.size → (v.alloc o).heap[k]? = some o := fun v o k e => by subst e; exact heap_new v o
  have od : ∀ (v : World) (o : Obj) (k : Nat), k < v.heap.size → (v.alloc o).heap[k]? = v.heap[k]? := fun v o k h => Below.heap_alloc v o k h
  have h3 : ∀ i, i < 3 → (W0 w).heap[w.heap.size + i]? = some (.cells #[.slice none 0 0, .bool false] 69 (0, 0)) := by
    intro i hi
    unfold W0
    match i, hi with
    | 0, _ => rw [od _ _ _ (by simp; omega), od _ _ _ (by simp; omega), od _ _ _ (by simp; omega), od _ _ _ (by simp), nw _ _ _ (by simp)]
    | 1, _ => rw [od _ _ _ (by simp), od _ _ _ (by simp), od _ _ _ (by simp), nw _ _ _ (by simp)]
    | 2, _ => rw [od _ _ _ (by simp), od _ _ _ (by simp), nw _ _ _ (by simp)]
  have hS : (W0 w).heap[w.heap.size + 1 + 1 + 1]? = some (.cells (ptrs fun i => w.heap.size + i) 23 (0, 0)) := by
    unfold W0
    rw [od _ _ _ (by simp), nw _ _ _ (by simp)]
    rfl
  have hR : (W0 w).heap[w.heap.size + 1 + 1 + 1 + 1]? = some (.cells z3 30 (0, 0)) := by
    unfold W0
    rw [nw _ _ _ (by simp)]
  refine ⟨⟨fun i => if i < 3 then some ⟨w.heap.size + i, [], false, none⟩ else none, ⟨fun i c hc => ?_, fun i c hc => ?_, fun i j c d hij hc hd => ?_, fun k hk => ?_⟩, fun i => ?_⟩, hS, fun i hi k hk => ?_, ?_, by omega, by omega, by omega⟩
  · by_cases hi : i < 3
    · simp [hi] at hc; subst hc
      exact ⟨0, h3 i hi, by simp, Nat.le_refl _, Nat.zero_le _, fun q => by simp at q, fun _ => rfl, fun x hx => by simp at hx⟩
    · simp [hi] at hc
  · by_cases hi : i < 3
    · simp [hi] at hc; subst hc
      refine ⟨rfl, fun k hk => absurd hk (Nat.not_lt_zero _), ?_, fun x hx => by simp at hx⟩
      rintro (q | q | q)
      · have : w.heap.size + i < w.heap.size := q; omega
      · have : w.heap.size + i = w.heap.size + 1 + 1 + 1 := q; omega
      · have : w.heap.size + i = w.heap.size + 1 + 1 + 1 + 1 := q; omega
    · simp [hi] at hc
  · by_cases hi : i < 3
    · by_cases hj : j < 3
      · simp [hi] at hc; simp [hj] at hd; subst hc hd
        exact ⟨by show w.heap.size + j ≠ w.heap.size + i; omega, by simp, fun _ x hx => by simp at hx⟩
      · simp [hj] at hd
    · simp [hi] at hc
  · rw [hz]
    rcases hk with q | q | q <;> omega
  · by_cases hi : i < 3 <;> simp [hh, hi]
  · exact ⟨(cell_of hR _).trans (z3_at _ (by omega)), frozen_of hR _⟩
  · unfold W0
    exact btr (btr (btr (btr (below_alloc _ _) (below_alloc _ _)) (below_alloc _ _)) (below_alloc _ _)) (below_alloc _ _)

def in3 (n : Int) : Bool := decide (0 ≤ n) && decide (n < 3)
set_option maxHeartbeats 800000 in
theorem three_any (i k : Int) (w : World) :
    Calls Try.prog 11 #[.int .i64 i, .int .i64 k] w fun r w' => r = .returned (.bool (decide (0 ≤ i) && decide (i < 3) && decide (0 ≤ k) && decide (k < 3))) ∧ w' = w := by
  by_cases h1 : 0 ≤ i <;> by_cases h2 : i < 3 <;> by_cases h3 : 0 ≤ k <;> by_cases h4 : k < 3
  all_goals
    go_enter Try.func11, Try.ntmps11
    go_wp2
    go_ret
    simp [h1, h2, h3, h4]
theorem three_is (i k : Int) (x : Bool) (h : (decide (0 ≤ i) && decide (i < 3) && decide (0 ≤ k) && decide (k < 3)) = x) (w : World) :
    Calls Try.prog 11 #[.int .i64 i, .int .i64 k] w fun r w' => r = .returned (.bool x) ∧ w' = w := by
  subst h
  exact three_any i k w
end Ck
end Go.Proofs.Ytkgddkpolckacaa
