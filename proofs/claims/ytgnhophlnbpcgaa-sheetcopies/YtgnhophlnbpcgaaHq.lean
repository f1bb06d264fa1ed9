/- The laws' own exits(), over this seat's program. -/
import Derived.Test.YtgnhophlnbpcgaaHp
namespace Go.Proofs.Ytgnhophlnbpcgaa
open Go.ChangeShapes Go.WideShapes Go.ChangeAt Go.RowKit
namespace Sh
open De Ba Re

def o9 : OpD := ⟨9, 0, 0, [], false⟩
def s9 : Sc := ⟨2, 9, [[o9]], [0, -1], []⟩
theorem s9_chk : schk s9 = 0 := by decide
theorem s9_sen : sen s9 = [2, 9, 1, 1, 9, 2, 1, 0, 0] := by decide
theorem s9_dec : sdec (bs (sen s9)) = some s9 := sdec_enc s9_chk _ (nbs_bs _ (by rw [s9_sen]; decide))
/-- the memory in which exits' script lies -/
def W9 (w : World) : World := (((w.alloc (.cells #[.int .i64 9, .int .i64 0, .int .i64 0, .slice none 0 0, .bool false] 24)).alloc (.cells #[.slice (some ⟨w.heap.size, 0, none⟩) 1 1] 56)).alloc (.cells #[.int .i64 0, .int .i64 (-1)] 3)).alloc (.cells #[.int .i64 2, .int .i64 9, .slice (some ⟨w.heap.size + 1, 0, none⟩) 1 1, .slice (some ⟨w.heap.size + 1 + 1, 0, none⟩) 2 2, .slice none 0 0] 38)
theorem w9_at (w : World) : SAt (W9 w) s9 (some ⟨w.heap.size + 1, 0, none⟩) (some ⟨w.heap.size + 1 + 1, 0, none⟩) none ∧ Below w.heap.size w (W9 w) ∧ (W9 w).heap[w.heap.size + 1 + 1 + 1]? = some (.cells #[.int .i64 2, .int .i64 9, .slice (some ⟨w.heap.size + 1, 0, none⟩) 1 1, .slice (some ⟨w.heap.size + 1 + 1, 0, none⟩) 2 2, .slice none 0 0] 38 (0, 0)) := by
  unfold W9
  have b1 := below_alloc w (.cells #[.int .i64 9, .int .i64 0, .int .i64 0, .slice none 0 0, .bool false] 24)
  have h1 := heap_new w (.cells #[.int .i64 9, .int .i64 0, .int .i64 0, .slice none 0 0, .bool false] 24)
  have z1 : (w.alloc (.cells #[.int .i64 9, .int .i64 0, .int .i64 0, .slice none 0 0, .bool false] 24)).heap.size = w.heap.size + 1 := World.size_alloc ..
  generalize w.alloc (.cells #[.int .i64 9, .int .i64 0, .int .i64 0, .slice none 0 0, .bool false] 24) = w1 at *
  have b2 := below_alloc w1 (.cells #[.slice (some ⟨w.heap.size, 0, none⟩) 1 1] 56)
  have h2 := heap_new w1 (.cells #[.slice (some ⟨w.heap.size, 0, none⟩) 1 1] 56)
  have z2 : (w1.alloc (.cells #[.slice (some ⟨w.heap.size, 0, none⟩) 1 1] 56)).heap.size = w1.heap.size + 1 := World.size_alloc ..
  generalize w1.alloc (.cells #[.slice (some ⟨w.heap.size, 0, none⟩) 1 1] 56) = w2 at *
  have b3 := below_alloc w2 (.cells #[.int .i64 0, .int .i64 (-1)] 3)
  have h3 := heap_new w2 (.cells #[.int .i64 0, .int .i64 (-1)] 3)
  have z3 : (w2.alloc (.cells #[.int .i64 0, .int .i64 (-1)] 3)).heap.size = w2.heap.size + 1 := World.size_alloc ..
  generalize w2.alloc (.cells #[.int .i64 0, .int .i64 (-1)] 3) = w3 at *
  have b4 := below_alloc w3 (.cells #[.int .i64 2, .int .i64 9, .slice (some ⟨w.heap.size + 1, 0, none⟩) 1 1, .slice (some ⟨w.heap.size + 1 + 1, 0, none⟩) 2 2, .slice none 0 0] 38)
  have h4 := heap_new w3 (.cells #[.int .i64 2, .int .i64 9, .slice (some ⟨w.heap.size + 1, 0, none⟩) 1 1, .slice (some ⟨w.heap.size + 1 + 1, 0, none⟩) 2 2, .slice none 0 0] 38)
  generalize w3.alloc (.cells #[.int .i64 2, .int .i64 9, .slice (some ⟨w.heap.size + 1, 0, none⟩) 1 1, .slice (some ⟨w.heap.size + 1 + 1, 0, none⟩) 2 2, .slice none 0 0] 38) = w4 at *
  rw [z3, z2, z1] at h4
  rw [z2, z1] at h3
  rw [z1] at h2
  have g1 := heap_below (heap_below (heap_below h1 b2) b3) b4
  have g2 := heap_below (heap_below h2 b3) b4
  have g3 := heap_below h3 b4
  refine ⟨⟨?_, ?_, fun k hk => absurd hk (Nat.not_lt_zero _), by decide, by decide, by decide⟩, btr (btr (btr b1 b2) b3) b4, h4⟩
  · intro k q hq
    have e : k = 0 ∧ q = [o9] := by
      match k, hq with
      | 0, hq => exact ⟨rfl, by simpa [s9] using hq.symm⟩
      | k + 1, hq => simp [s9] at hq
    obtain ⟨rfl, rfl⟩ := e
    refine ⟨_, _, _, 1, rfl, cell_of g2 0, ?_, by decide⟩
    intro j o ho
    have e : j = 0 ∧ o = o9 := by
      match j, ho with
      | 0, ho => exact ⟨rfl, by simpa using ho.symm⟩
      | j + 1, ho => simp at ho
    obtain ⟨rfl, rfl⟩ := e
    exact ⟨_, _, none, 0, rfl, ⟨cell_of g1 0, cell_of g1 1, cell_of g1 2, cell_of g1 3, cell_of g1 4⟩, CAt.nil _ _, by decide⟩
  · intro k hk
    have hk' : k < 2 := hk
    match k, hk' with
    | 0, _ => exact ⟨_, _, rfl, cell_of g3 0⟩
    | 1, _ => exact ⟨_, _, rfl, cell_of g3 1⟩

set_option maxRecDepth 100000 in
set_option maxHeartbeats 1600000 in
theorem exits_any (w : World) :
    Calls Try.prog 14 #[] w fun r w' => r = .returned (.bool true) ∧ Below w.heap.size w w' := by
  obtain ⟨S0, B0, X0⟩ := w9_at w
  have S0 := hide S0
  have B0 := hide B0
  have X0 := hide X0
  have e1 : (bs (sen s9)).toList = [2, 9, 1, 1, 9, 2, 1, 0, 0] := by rw [toList_is, s9_sen]; decide
  have e2 : (bs (sen s9)).size ≤ 5000000 := by rw [s9_sen]; decide
  have SM : Hid (Small [[o9]] [0, -1] []) := by
    show Small _ _ _
    refine ⟨by decide, by decide, by decide, by decide, by decide⟩
  have HD := hide s9_dec
  go_enter Try.func14, Try.ntmps14
  go_wp2_with fail
  show Calls Try.prog 15 _ (W9 w) _
  generalize W9 w = W at S0 B0 X0 ⊢
  have henc : Calls Try.prog 15 #[.agg #[.int .i64 2, .int .i64 9, .slice (some ⟨w.heap.size + 1, 0, none⟩) 1 1, .slice (some ⟨w.heap.size + 1 + 1, 0, none⟩) 2 2, .slice none 0 0]] W fun r w' => r = .returned (.tuple #[.string (bs (sen s9)), .int .i64 0]) ∧ Below W.heap.size W w' := sencode_ok 2 9 [[o9]] [0, -1] [] _ _ _ 1 2 0 _ S0.out s9_chk
  have E2 := hide e2
  clear e2
  generalize bs (sen s9) = E at e1 E2 HD henc ⊢
  refine henc.mono ?_
  clear henc
  rintro r w1 ⟨rfl, b1⟩
  have S1 := hide (S0.out.below b1)
  have B1 := hide (btr B0.out b1)
  have X1 := hide (heap_below X0.out b1)
  clear b1
  go_wp2_with fail
  refine (sdecode_any E _ E2.out).mono ?_
  rintro r w2 ⟨hD, b2⟩
  obtain ⟨pa, la, da, pc, lc, dc, rfl, hA⟩ : ∃ pa la da pc lc dc, r = .returned (.tuple #[.agg #[.int .i64 2, .int .i64 9, .slice pa 1 pc, .slice la 2 lc, .slice da 0 dc], .int .i64 0]) ∧ SAt w2 ⟨2, 9, [[o9]], [0, -1], []⟩ pa la da := by
    rcases hD with ⟨hn, _⟩ | ⟨T, M, ps, pl, dr, pa, la, da, pc, lc, dc, hs, rfl, hA⟩
    · rw [HD.out] at hn
      cases hn
    · rw [HD.out] at hs
      cases hs
      exact ⟨pa, la, da, pc, lc, dc, rfl, hA⟩
  have S2 := hide (S1.out.below b2)
  have B2 := hide (btr B1.out b2)
  have X2 := hide (heap_below X1.out b2)
  have A2 := hide hA
  clear b2 hA hD S0 B0 X0 S1 B1 X1
  have S3 := hide (S2.out.below (below_alloc w2 (.cells #[.int .i64 2, .int .i64 9, .slice pa 1 pc, .slice la 2 lc, .slice da 0 dc] 38)))
  have A3 := hide (A2.out.below (below_alloc w2 (.cells #[.int .i64 2, .int .i64 9, .slice pa 1 pc, .slice la 2 lc, .slice da 0 dc] 38)))
  have B3 := hide (btr B2.out (below_alloc w2 (.cells #[.int .i64 2, .int .i64 9, .slice pa 1 pc, .slice la 2 lc, .slice da 0 dc] 38)))
  have X3 := hide (heap_below X2.out (below_alloc w2 (.cells #[.int .i64 2, .int .i64 9, .slice pa 1 pc, .slice la 2 lc, .slice da 0 dc] 38)))
  obtain ⟨x0, x1, x2, x3, x4⟩ := sc_cells X3.out
  go_wp2_with fail
  refine (script_any 2 9 [[o9]] [0, -1] [] 2 9 [[o9]] [0, -1] [] _ _ _ _ _ _ pc lc dc 1 2 0 _ A3.out S3.out SM.out SM.out).mono ?_
  rintro r w4 ⟨⟨b, rfl, hb⟩, b4⟩
  obtain rfl : b = true := hb.2 rfl
  have S4 := hide (S3.out.below b4)
  have B4 := hide (btr B3.out b4)
  have X4 := hide (heap_below X3.out b4)
  obtain ⟨y0, y1, y2, y3, y4⟩ := sc_cells X4.out
  clear b4 hb
  go_wp2_with fail
  refine (bare_any 2 9 [[o9]] [0, -1] [] _ _ _ 1 2 0 _ S4.out SM.out).mono ?_
  rintro r w5 ⟨⟨G, L, D, arr, rfl, _⟩, b5⟩
  have B5 := hide (btr B4.out b5)
  clear b5
  rw [show (bar [0, -1]).length = 1 from rfl]
  have hfd : ∀ w : World, (Instr.field 38 (.agg #[.int .i64 2, .int .i64 9, .slice (some ⟨G, 0, none⟩) 1 1, .slice (some ⟨L, 0, none⟩) 1 2, .slice (some ⟨D, 0, none⟩) 0 0]) 3).run Try.prog w = .ok (.slice (some ⟨L, 0, none⟩) 1 2) w := fun _ => by kernel_rfl
  go_wp2_with fail
  go_ret
  exact ⟨rfl, B5.out⟩
end Sh
end Go.Proofs.Ytgnhophlnbpcgaa
