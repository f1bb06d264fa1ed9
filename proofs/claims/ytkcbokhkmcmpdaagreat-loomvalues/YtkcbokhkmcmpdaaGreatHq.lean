/- The laws' own exits(), over this seat's program. -/
import Derived.Test.YtkcbokhkmcmpdaaGreatZjLoom10
import Derived.Test.YtkcbokhkmcmpdaaGreatHp
namespace Go.Proofs.YtkcbokhkmcmpdaaGreat
open Go.ChangeShapes Go.WideShapes Go.ChangeAt Go.RowKit
namespace Sh
open De Ba Re

def o9 : OpD := ⟨9, 0, 0, [], false⟩
def s9 : Sc := ⟨2, 9, [[o9]], [0, -1], []⟩
theorem s9_chk : schk s9 = 0 := by decide
theorem s9_sen : sen s9 = [2, 9, 1, 1, 9, 2, 1, 0, 0] := by decide
theorem s9_dec : sdec (bs (sen s9)) = some s9 := sdec_enc s9_chk _ (nbs_bs _ (by rw [s9_sen]; decide))
/-- the memory in which exits' script lies -/
def W9 (w : World) : World := (((w.alloc (.cells #[.int .i64 9, .int .i64 0, .int .i64 0, .slice none 0 0, .bool false] 44)).alloc (.cells #[.slice (some ⟨w.heap.size, 0, none⟩) 1 1] 72)).alloc (.cells #[.int .i64 0, .int .i64 (-1)] 3)).alloc (.cells #[.int .i64 2, .int .i64 9, .slice (some ⟨w.heap.size + 1, 0, none⟩) 1 1, .slice (some ⟨w.heap.size + 1 + 1, 0, none⟩) 2 2, .slice none 0 0] 25)
theorem w9_at (w : World) : SAt (W9 w) s9 (some ⟨w.heap.size + 1, 0, none⟩) (some ⟨w.heap.size + 1 + 1, 0, none⟩) none ∧ Below w.heap.size w (W9 w) ∧ (W9 w).heap[w.heap.size + 1 + 1 + 1]? = some (.cells #[.int .i64 2, .int .i64 9, .slice (some ⟨w.heap.size + 1, 0, none⟩) 1 1, .slice (some ⟨w.heap.size + 1 + 1, 0, none⟩) 2 2, .slice none 0 0] 25 (0, 0)) := by
  unfold W9
  have b1 := below_alloc w (.cells #[.int .i64 9, .int .i64 0, .int .i64 0, .slice none 0 0, .bool false] 44)
  have h1 := heap_new w (.cells #[.int .i64 9, .int .i64 0, .int .i64 0, .slice none 0 0, .bool false] 44)
  have z1 : (w.alloc (.cells #[.int .i64 9, .int .i64 0, .int .i64 0, .slice none 0 0, .bool false] 44)).heap.size = w.heap.size + 1 := World.size_alloc ..
  generalize w.alloc (.cells #[.int .i64 9, .int .i64 0, .int .i64 0, .slice none 0 0, .bool false] 44) = w1 at *
  have b2 := below_alloc w1 (.cells #[.slice (some ⟨w.heap.size, 0, none⟩) 1 1] 72)
  have h2 := heap_new w1 (.cells #[.slice (some ⟨w.heap.size, 0, none⟩) 1 1] 72)
  have z2 : (w1.alloc (.cells #[.slice (some ⟨w.heap.size, 0, none⟩) 1 1] 72)).heap.size = w1.heap.size + 1 := World.size_alloc ..
  generalize w1.alloc (.cells #[.slice (some ⟨w.heap.size, 0, none⟩) 1 1] 72) = w2 at *
  have b3 := below_alloc w2 (.cells #[.int .i64 0, .int .i64 (-1)] 3)
  have h3 := heap_new w2 (.cells #[.int .i64 0, .int .i64 (-1)] 3)
  have z3 : (w2.alloc (.cells #[.int .i64 0, .int .i64 (-1)] 3)).heap.size = w2.heap.size + 1 := World.size_alloc ..
  generalize w2.alloc (.cells #[.int .i64 0, .int .i64 (-1)] 3) = w3 at *
  have b4 := below_alloc w3 (.cells #[.int .i64 2, .int .i64 9, .slice (some ⟨w.heap.size + 1, 0, none⟩) 1 1, .slice (some ⟨w.heap.size + 1 + 1, 0, none⟩) 2 2, .slice none 0 0] 25)
  have h4 := heap_new w3 (.cells #[.int .i64 2, .int .i64 9, .slice (some ⟨w.heap.size + 1, 0, none⟩) 1 1, .slice (some ⟨w.heap.size + 1 + 1, 0, none⟩) 2 2, .slice none 0 0] 25)
  generalize w3.alloc (.cells #[.int .i64 2, .int .i64 9, .slice (some ⟨w.heap.size + 1, 0, none⟩) 1 1, .slice (some ⟨w.heap.size + 1 + 1, 0, none⟩) 2 2, .slice none 0 0] 25) = w4 at *
  rw [z3, z2, z1] at h4
  rw [z2, z1] at h3
  rw [z1] at h2
  have g1 := heap_below (heap_below (heap_below h1 b2) b3) b4
  have g2 := heap_below (heap_below h2 b3) b4
  have g3 := heap_below h3 b4
  refine ⟨⟨?_, ?_, fun k hk => absurd hk (Nat.not_lt_zero _), by decide, by decide, by decide⟩, btr (btr (btr b1 b2) b3) b4, h4⟩
  · intro k q hq
    have e : k = 0 ∧ q = [o9] := by
      match k, hq with
      | 0, hq => exact ⟨rfl, by simpa [s9] using hq.symm⟩
      | k + 1, hq => simp [s9] at hq
    obtain ⟨rfl, rfl⟩ := e
    refine ⟨_, _, _, 1, rfl, cell_of g2 0, ?_, by decide⟩
    intro j o ho
    have e : j = 0 ∧ o = o9 := by
      match j, ho with
      | 0, ho => exact ⟨rfl, by simpa using ho.symm⟩
      | j + 1, ho => simp at ho
    obtain ⟨rfl, rfl⟩ := e
    exact ⟨_, _, none, 0, rfl, ⟨cell_of g1 0, cell_of g1 1, cell_of g1 2, cell_of g1 3, cell_of g1 4⟩, CAt.nil _ _, by decide⟩
  · intro k hk
    have hk' : k < 2 := hk
    match k, hk' with
    | 0, _ => exact ⟨_, _, rfl, cell_of g3 0⟩
    | 1, _ => exact ⟨_, _, rfl, cell_of g3 1⟩

end Sh
end Go.Proofs.YtkcbokhkmcmpdaaGreat
