/- Layer 27's reference, over this seat's program: Turned. -/
import Derived.Test.YtgmkknaagbjcmaaFw4
namespace Go.Proofs.Ytgmkknaagbjcmaa
open Go.ChangeShapes Go.WideShapes Go.ChangeAt Go.RowKit
namespace Fw
open Ba Fl

theorem size_plc : (Try.prog.info? 33).map (·.size) = some 2 := by kernel_rfl
theorem loadVar_plc {w : World} {b : Nat} {c : Array Value} {t : TypeId} (h : w.heap[b]? = some (.cells c t (0, 0))) (hc : c.size = 2) : (loadVar 33 ⟨b, 0, none⟩).run Try.prog w = .ok (.agg c) w :=
  run_loadVar_row w b t _ _ _ _ h Try.underlying33 rfl (by rw [size_plc, hc])
theorem results_row1 {fn : Func} {p : Tmp} {ty : TypeId} (h : fn.results = #[.cell p ty]) (tmps : Array Value) (w : World) (g : Nat) (cs : Array Value)
    (hp : tmps.getD p undef = .pointer (some ⟨g, 0, none⟩)) (hl : (loadVar ty ⟨g, 0, none⟩).run Try.prog w = .ok (.agg cs) w) :
    (results fn tmps).run Try.prog w = .ok (.agg cs) w := by
  have hp' : tmps[p]?.getD undef = .pointer (some ⟨g, 0, none⟩) := by simpa using hp
  simp [results, h, hp', asAddr, hl]
/-- turned by quarters, one behind the other -/
def rt (x y : Int) : Nat → Int × Int
  | 0 => (x, y)
  | n + 1 => (-(rt x y n).2, (rt x y n).1)
theorem rt_bd {x y B : Int} (hx : -B ≤ x ∧ x ≤ B) (hy : -B ≤ y ∧ y ≤ B) : ∀ n, (-B ≤ (rt x y n).1 ∧ (rt x y n).1 ≤ B) ∧ (-B ≤ (rt x y n).2 ∧ (rt x y n).2 ≤ B)
  | 0 => ⟨hx, hy⟩
  | n + 1 => by have := rt_bd hx hy n; simp only [rt]; omega
theorem rt_dir (t j : Int) (ht : 0 ≤ t ∧ t < 4) (hj : 0 ≤ j ∧ j < 4) : rt (dx t) (dy t) j.toNat = (dx ((t + j) % 4), dy ((t + j) % 4)) := by
  rcases (by omega : t = 0 ∨ t = 1 ∨ t = 2 ∨ t = 3) with rfl | rfl | rfl | rfl <;> rcases (by omega : j = 0 ∨ j = 1 ∨ j = 2 ∨ j = 3) with rfl | rfl | rfl | rfl <;> decide +kernel
set_option maxRecDepth 100000 in
set_option maxHeartbeats 1600000 in
theorem turned_any (x y k : Int) (w : World) (hx : -1000000 ≤ x ∧ x ≤ 1000000) (hy : -1000000 ≤ y ∧ y ≤ 1000000) :
    Calls Try.prog 14 #[.agg #[.int .i64 x, .int .i64 y], .int .i64 k] w fun r w' => r = .returned (.agg #[.int .i64 (rt x y (k % 4).toNat).1, .int .i64 (rt x y (k % 4).toNat).2]) ∧ Below w.heap.size w w' := by
  have h := tm4 k
  have hb := tm_bd k
  obtain ⟨m, hm⟩ : ∃ m, k.tmod 4 = m := ⟨_, rfl⟩
  rw [hm] at h hb
  obtain ⟨n, hn⟩ : ∃ n : Nat, k % 4 = (n : Int) := ⟨(k % 4).toNat, by omega⟩
  have hn4 : n < 4 := by omega
  rw [hn] at h ⊢
  rw [Int.toNat_natCast]
  have w1 : IntKind.i64.wrap m = m := wrap_id (by omega) (by omega)
  have w2 : IntKind.i64.wrap (m + 4) = m + 4 := wrap_id (by omega) (by omega)
  have w3 : IntKind.i64.wrap (n : Int) = (n : Int) := wrap_id (by omega) (by omega)
  have RB := hide (rt_bd hx hy)
  clear hn
  have B0 := hide (btr (btr (below_alloc w (.cells #[.int .i64 x, .int .i64 y] 33)) (below_alloc _ (.cells #[.int .i64 0, .int .i64 0] 33))) (below_alloc _ (.cells #[.int .i64 x, .int .i64 y] 33)))
  have Q0 : Hid ((((w.alloc (.cells #[.int .i64 x, .int .i64 y] 33)).alloc (.cells #[.int .i64 0, .int .i64 0] 33)).alloc (.cells #[.int .i64 x, .int .i64 y] 33)).heap[w.heap.size + 1 + 1]? = some (.cells #[.int .i64 x, .int .i64 y] 33 (0, 0))) := by
    have := heap_new ((w.alloc (.cells #[.int .i64 x, .int .i64 y] 33)).alloc (.cells #[.int .i64 0, .int .i64 0] 33)) (.cells #[.int .i64 x, .int .i64 y] 33)
    rw [World.size_alloc, World.size_alloc] at this
    exact this
  have R0 : Hid ((((w.alloc (.cells #[.int .i64 x, .int .i64 y] 33)).alloc (.cells #[.int .i64 0, .int .i64 0] 33)).alloc (.cells #[.int .i64 x, .int .i64 y] 33)).heap[w.heap.size + 1]? = some (.cells #[.int .i64 0, .int .i64 0] 33 (0, 0))) := by
    have := heap_new (w.alloc (.cells #[.int .i64 x, .int .i64 y] 33)) (.cells #[.int .i64 0, .int .i64 0] 33)
    rw [World.size_alloc] at this
    exact heap_below this (below_alloc _ _)
  go_enter Try.func14, Try.ntmps14
  go_wp2_with fail
  go_loopw [6] (fun i wr => ∃ j : Nat, j ≤ n ∧ i = .int .i64 (j : Int) ∧ wr.heap[w.heap.size + 1 + 1]? = some (.cells #[.int .i64 (rt x y j).1, .int .i64 (rt x y j).2] 33 (0, 0)) ∧ wr.heap[w.heap.size + 1]? = some (.cells #[.int .i64 0, .int .i64 0] 33 (0, 0)) ∧ Below w.heap.size w wr) (fun i _ => n - (intOf i).toNat)
  case atStart => exact ⟨0, Nat.zero_le _, rfl, Q0.out, R0.out, B0.out⟩
  case round =>
    obtain ⟨j, hj, rfl, q1, r1, bl⟩ := hrel
    clear Q0 R0 B0
    have BD := RB.out j
    obtain ⟨X, hX⟩ : ∃ X, rt x y j = X := ⟨_, rfl⟩
    have hX1 : Hid (rt x y (j + 1) = (-X.2, X.1)) := by show rt x y (j + 1) = _; simp only [rt, hX]
    rw [hX] at q1 BD
    have HX := hide hX
    clear hX
    obtain ⟨X1, X2⟩ := X
    simp only at q1 BD hX1
    have Q1 := hide q1
    have R1 := hide r1
    have BL := hide bl
    have c0 : wr.cell? ⟨w.heap.size + 1 + 1, 0, none⟩ = some (.int .i64 X1) := cell_of q1 0
    have c1 : wr.cell? ⟨w.heap.size + 1 + 1, 1, none⟩ = some (.int .i64 X2) := cell_of q1 1
    have f0 := frozen_of q1 0
    have f1 := frozen_of q1 1
    clear q1 r1 bl
    by_cases hlt : j < n
    · have hlt' : (j : Int) < (n : Int) := by omega
      have w4 : IntKind.i64.wrap (-X2) = -X2 := wrap_id (by omega) (by omega)
      have w5 : IntKind.i64.wrap (0 - X2) = -X2 := by rw [Int.zero_sub]; exact w4
      have E1 : Hid (((wr.setCell ⟨w.heap.size + 1 + 1, 0, none⟩ (.int .i64 (-X2))).setCell ⟨w.heap.size + 1 + 1, 1, none⟩ (.int .i64 X1)).heap[w.heap.size + 1 + 1]? = some (.cells #[.int .i64 (-X2), .int .i64 X1] 33 (0, 0))) := Ba.heap_setCell_same (Ba.heap_setCell_same Q1.out _) _
      have K1 := hide (((KB.refl (w.heap.size + 1 + 1) wr).setCell 0 (.int .i64 (-X2))).setCell 1 (.int .i64 X1))
      go_wp2_with fail
      go_roundw
      case rel => exact ⟨j + 1, by omega, by go_num, by rw [hX1.out]; exact E1.out, K1.out.heap R1.out (by omega), KB.below BL.out K1.out (by omega)⟩
      case measure => simp [intOf]; omega
    · have hlt' : ¬ ((j : Int) < (n : Int)) := by omega
      obtain rfl : j = n := by omega
      have d0 : wr.cell? ⟨w.heap.size + 1, 0, none⟩ = some (.int .i64 0) := cell_of R1.out 0
      have d1 : wr.cell? ⟨w.heap.size + 1, 1, none⟩ = some (.int .i64 0) := cell_of R1.out 1
      have g0 := frozen_of R1.out 0
      have g1 := frozen_of R1.out 1
      have E1 : Hid (((wr.setCell ⟨w.heap.size + 1, 0, none⟩ (.int .i64 X1)).setCell ⟨w.heap.size + 1, 1, none⟩ (.int .i64 X2)).heap[w.heap.size + 1]? = some (.cells #[.int .i64 X1, .int .i64 X2] 33 (0, 0))) := Ba.heap_setCell_same (Ba.heap_setCell_same R1.out _) _
      have K1 := hide (((KB.refl (w.heap.size + 1) wr).setCell 0 (.int .i64 X1)).setCell 1 (.int .i64 X2))
      go_wp2_with fail
      exact bodyPost_ret (results_row1 Try.results14 _ _ _ _ rfl (loadVar_plc E1.out rfl)) rfl ⟨by rw [HX.out], KB.below BL.out K1.out (by omega)⟩
end Fw
end Go.Proofs.Ytgmkknaagbjcmaa
