/- The reference's row and within, over this seat's program. -/
import Derived.Test.YtkcbokhkmcmpdaaGreatZjLoom10
namespace Go.Proofs.YtkcbokhkmcmpdaaGreat
open Go.ChangeShapes Go.WideShapes Go.ChangeAt Go.RowKit
namespace De
open Ba Re

theorem row_1 (w : World) :
    Calls Tryz.prog 105 #[.int .i64 1] w fun r w' => r = .returned (.string (bs [112, 46])) ∧ Below w.heap.size w w' := by
  show Calls Tryz.prog 105 #[.int .i64 1] w fun r w' => r = .returned (.string ⟨#[112, 46]⟩) ∧ Below w.heap.size w w'
  go_enter Tryz.func105, Tryz.ntmps105
  go_wp2
  go_ret
  exact ⟨rfl, below_alloc _ _⟩
theorem row_2 (w : World) :
    Calls Tryz.prog 105 #[.int .i64 2] w fun r w' => r = .returned (.string (bs [99, 109])) ∧ Below w.heap.size w w' := by
  show Calls Tryz.prog 105 #[.int .i64 2] w fun r w' => r = .returned (.string ⟨#[99, 109]⟩) ∧ Below w.heap.size w w'
  go_enter Tryz.func105, Tryz.ntmps105
  go_wp2
  go_ret
  exact ⟨rfl, below_alloc _ _⟩
theorem row_3 (w : World) :
    Calls Tryz.prog 105 #[.int .i64 3] w fun r w' => r = .returned (.string (bs [99, 118])) ∧ Below w.heap.size w w' := by
  show Calls Tryz.prog 105 #[.int .i64 3] w fun r w' => r = .returned (.string ⟨#[99, 118]⟩) ∧ Below w.heap.size w w'
  go_enter Tryz.func105, Tryz.ntmps105
  go_wp2
  go_ret
  exact ⟨rfl, below_alloc _ _⟩
theorem row_4 (w : World) :
    Calls Tryz.prog 105 #[.int .i64 4] w fun r w' => r = .returned (.string (bs [99, 46])) ∧ Below w.heap.size w w' := by
  show Calls Tryz.prog 105 #[.int .i64 4] w fun r w' => r = .returned (.string ⟨#[99, 46]⟩) ∧ Below w.heap.size w w'
  go_enter Tryz.func105, Tryz.ntmps105
  go_wp2
  go_ret
  exact ⟨rfl, below_alloc _ _⟩
theorem row_5 (w : World) :
    Calls Tryz.prog 105 #[.int .i64 5] w fun r w' => r = .returned (.string (bs [99, 46])) ∧ Below w.heap.size w w' := by
  show Calls Tryz.prog 105 #[.int .i64 5] w fun r w' => r = .returned (.string ⟨#[99, 46]⟩) ∧ Below w.heap.size w w'
  go_enter Tryz.func105, Tryz.ntmps105
  go_wp2
  go_ret
  exact ⟨rfl, below_alloc _ _⟩
theorem row_6 (w : World) :
    Calls Tryz.prog 105 #[.int .i64 6] w fun r w' => r = .returned (.string (bs [46, 46])) ∧ Below w.heap.size w w' := by
  show Calls Tryz.prog 105 #[.int .i64 6] w fun r w' => r = .returned (.string ⟨#[46, 46]⟩) ∧ Below w.heap.size w w'
  go_enter Tryz.func105, Tryz.ntmps105
  go_wp2
  go_ret
  exact ⟨rfl, below_alloc _ _⟩
theorem row_7 (w : World) :
    Calls Tryz.prog 105 #[.int .i64 7] w fun r w' => r = .returned (.string (bs [120, 46])) ∧ Below w.heap.size w w' := by
  show Calls Tryz.prog 105 #[.int .i64 7] w fun r w' => r = .returned (.string ⟨#[120, 46]⟩) ∧ Below w.heap.size w w'
  go_enter Tryz.func105, Tryz.ntmps105
  go_wp2
  go_ret
  exact ⟨rfl, below_alloc _ _⟩
theorem row_8 (w : World) :
    Calls Tryz.prog 105 #[.int .i64 8] w fun r w' => r = .returned (.string (bs [120, 46])) ∧ Below w.heap.size w w' := by
  show Calls Tryz.prog 105 #[.int .i64 8] w fun r w' => r = .returned (.string ⟨#[120, 46]⟩) ∧ Below w.heap.size w w'
  go_enter Tryz.func105, Tryz.ntmps105
  go_wp2
  go_ret
  exact ⟨rfl, below_alloc _ _⟩
theorem row_9 (w : World) :
    Calls Tryz.prog 105 #[.int .i64 9] w fun r w' => r = .returned (.string (bs [46, 46])) ∧ Below w.heap.size w w' := by
  show Calls Tryz.prog 105 #[.int .i64 9] w fun r w' => r = .returned (.string ⟨#[46, 46]⟩) ∧ Below w.heap.size w w'
  go_enter Tryz.func105, Tryz.ntmps105
  go_wp2
  go_ret
  exact ⟨rfl, below_alloc _ _⟩
theorem within_p (n p : Int) (w : World) :
    Calls Tryz.prog 106 #[.int .i64 n, .int .u8 112, .int .i64 p] w fun r w' => r = .returned (.bool (decide (0 ≤ n) && decide (n < p))) ∧ w' = w := by
  by_cases h1 : 0 ≤ n
  · have e : (decide (0 ≤ n) && decide (n < p)) = decide (n < p) := by simp [h1]
    rw [e]
    clear e
    go_enter Tryz.func106, Tryz.ntmps106
    go_wp2
    go_ret
    exact ⟨rfl, rfl⟩
  · have e : (decide (0 ≤ n) && decide (n < p)) = false := by simp [h1]
    rw [e]
    clear e
    go_enter Tryz.func106, Tryz.ntmps106
    go_wp2
    go_ret
    exact ⟨rfl, rfl⟩
theorem within_c (n p : Int) (w : World) :
    Calls Tryz.prog 106 #[.int .i64 n, .int .u8 99, .int .i64 p] w fun r w' => r = .returned (.bool (decide (0 ≤ n) && decide (n < 8))) ∧ w' = w := by
  by_cases h1 : 0 ≤ n
  · have e : (decide (0 ≤ n) && decide (n < 8)) = decide (n < 8) := by simp [h1]
    rw [e]
    clear e
    go_enter Tryz.func106, Tryz.ntmps106
    go_wp2
    go_ret
    exact ⟨rfl, rfl⟩
  · have e : (decide (0 ≤ n) && decide (n < 8)) = false := by simp [h1]
    rw [e]
    clear e
    go_enter Tryz.func106, Tryz.ntmps106
    go_wp2
    go_ret
    exact ⟨rfl, rfl⟩
theorem within_x (n p : Int) (w : World) :
    Calls Tryz.prog 106 #[.int .i64 n, .int .u8 120, .int .i64 p] w fun r w' => r = .returned (.bool (decide (0 ≤ n) && decide (n < 8))) ∧ w' = w := by
  by_cases h1 : 0 ≤ n
  · have e : (decide (0 ≤ n) && decide (n < 8)) = decide (n < 8) := by simp [h1]
    rw [e]
    clear e
    go_enter Tryz.func106, Tryz.ntmps106
    go_wp2
    go_ret
    exact ⟨rfl, rfl⟩
  · have e : (decide (0 ≤ n) && decide (n < 8)) = false := by simp [h1]
    rw [e]
    clear e
    go_enter Tryz.func106, Tryz.ntmps106
    go_wp2
    go_ret
    exact ⟨rfl, rfl⟩
theorem within_m (n p : Int) (w : World) :
    Calls Tryz.prog 106 #[.int .i64 n, .int .u8 109, .int .i64 p] w fun r w' => r = .returned (.bool (decide (0 ≤ n) && decide (n ≤ 4))) ∧ w' = w := by
  by_cases h1 : 0 ≤ n
  · have e : (decide (0 ≤ n) && decide (n ≤ 4)) = decide (n ≤ 4) := by simp [h1]
    rw [e]
    clear e
    go_enter Tryz.func106, Tryz.ntmps106
    go_wp2
    go_ret
    exact ⟨rfl, rfl⟩
  · have e : (decide (0 ≤ n) && decide (n ≤ 4)) = false := by simp [h1]
    rw [e]
    clear e
    go_enter Tryz.func106, Tryz.ntmps106
    go_wp2
    go_ret
    exact ⟨rfl, rfl⟩
theorem within_v (n p : Int) (w : World) :
    Calls Tryz.prog 106 #[.int .i64 n, .int .u8 118, .int .i64 p] w fun r w' => r = .returned (.bool (decide (0 ≤ n) && decide (n ≤ 99))) ∧ w' = w := by
  by_cases h1 : 0 ≤ n
  · have e : (decide (0 ≤ n) && decide (n ≤ 99)) = decide (n ≤ 99) := by simp [h1]
    rw [e]
    clear e
    go_enter Tryz.func106, Tryz.ntmps106
    go_wp2
    go_ret
    exact ⟨rfl, rfl⟩
  · have e : (decide (0 ≤ n) && decide (n ≤ 99)) = false := by simp [h1]
    rw [e]
    clear e
    go_enter Tryz.func106, Tryz.ntmps106
    go_wp2
    go_ret
    exact ⟨rfl, rfl⟩
theorem within_d (n p : Int) (w : World) :
    Calls Tryz.prog 106 #[.int .i64 n, .int .u8 46, .int .i64 p] w fun r w' => r = .returned (.bool (n == 0)) ∧ w' = w := by
  go_enter Tryz.func106, Tryz.ntmps106
  go_wp2
  go_ret
  exact ⟨rfl, rfl⟩
/-- a kind's two signs -/
def sA (k : Int) : Nat := if k = 1 then 112 else if k = 2 ∨ k = 3 ∨ k = 4 ∨ k = 5 then 99 else if k = 7 ∨ k = 8 then 120 else 46
def sB (k : Int) : Nat := if k = 2 then 109 else if k = 3 then 118 else 46
theorem row_any (k : Int) (h1 : 1 ≤ k) (h2 : k ≤ 9) (w : World) :
    Calls Tryz.prog 105 #[.int .i64 k] w fun r w' => r = .returned (.string (bs [sA k, sB k])) ∧ Below w.heap.size w w' := by
  rcases kind_cases h1 h2 with rfl | rfl | rfl | rfl | rfl | rfl | rfl | rfl | rfl
  · exact row_1 w
  · exact row_2 w
  · exact row_3 w
  · exact row_4 w
  · exact row_5 w
  · exact row_6 w
  · exact row_7 w
  · exact row_8 w
  · exact row_9 w
theorem withinA (k n p : Int) (h1 : 1 ≤ k) (h2 : k ≤ 9) (w : World) :
    Calls Tryz.prog 106 #[.int .i64 n, .int .u8 (sA k : Int), .int .i64 p] w fun r w' => r = .returned (.bool (upB n (mA k p))) ∧ w' = w := by
  rcases kind_cases h1 h2 with rfl | rfl | rfl | rfl | rfl | rfl | rfl | rfl | rfl
  · have e : upB n (mA 1 p) = (decide (0 ≤ n) && decide (n < p)) := by
      simp only [upB, mA, if_true]
      congr 1
      exact decide_eq_decide.2 (by omega)
    rw [e]
    exact within_p n p w
  · have e : upB n (mA 2 p) = (decide (0 ≤ n) && decide (n < 8)) := by
      have : mA 2 p = 7 := rfl
      simp only [upB, this]
      congr 1
      exact decide_eq_decide.2 (by omega)
    rw [e]
    exact within_c n p w
  · have e : upB n (mA 3 p) = (decide (0 ≤ n) && decide (n < 8)) := by
      have : mA 3 p = 7 := rfl
      simp only [upB, this]
      congr 1
      exact decide_eq_decide.2 (by omega)
    rw [e]
    exact within_c n p w
  · have e : upB n (mA 4 p) = (decide (0 ≤ n) && decide (n < 8)) := by
      have : mA 4 p = 7 := rfl
      simp only [upB, this]
      congr 1
      exact decide_eq_decide.2 (by omega)
    rw [e]
    exact within_c n p w
  · have e : upB n (mA 5 p) = (decide (0 ≤ n) && decide (n < 8)) := by
      have : mA 5 p = 7 := rfl
      simp only [upB, this]
      congr 1
      exact decide_eq_decide.2 (by omega)
    rw [e]
    exact within_c n p w
  · have e : upB n (mA 6 p) = (n == 0) := by
      have : mA 6 p = 0 := rfl
      rw [Bool.eq_iff_iff, upB_iff, this]
      simp
      omega
    rw [e]
    exact within_d n p w
  · have e : upB n (mA 7 p) = (decide (0 ≤ n) && decide (n < 8)) := by
      have : mA 7 p = 7 := rfl
      simp only [upB, this]
      congr 1
      exact decide_eq_decide.2 (by omega)
    rw [e]
    exact within_x n p w
  · have e : upB n (mA 8 p) = (decide (0 ≤ n) && decide (n < 8)) := by
      have : mA 8 p = 7 := rfl
      simp only [upB, this]
      congr 1
      exact decide_eq_decide.2 (by omega)
    rw [e]
    exact within_x n p w
  · have e : upB n (mA 9 p) = (n == 0) := by
      have : mA 9 p = 0 := rfl
      rw [Bool.eq_iff_iff, upB_iff, this]
      simp
      omega
    rw [e]
    exact within_d n p w
theorem withinB (k n p : Int) (h1 : 1 ≤ k) (h2 : k ≤ 9) (w : World) :
    Calls Tryz.prog 106 #[.int .i64 n, .int .u8 (sB k : Int), .int .i64 p] w fun r w' => r = .returned (.bool (upB n (mB k))) ∧ w' = w := by
  rcases kind_cases h1 h2 with rfl | rfl | rfl | rfl | rfl | rfl | rfl | rfl | rfl
  · have e : upB n (mB 1) = (n == 0) := by
      have : mB 1 = 0 := rfl
      rw [Bool.eq_iff_iff, upB_iff, this]
      simp
      omega
    rw [e]
    exact within_d n p w
  · exact within_m n p w
  · exact within_v n p w
  · have e : upB n (mB 4) = (n == 0) := by
      have : mB 4 = 0 := rfl
      rw [Bool.eq_iff_iff, upB_iff, this]
      simp
      omega
    rw [e]
    exact within_d n p w
  · have e : upB n (mB 5) = (n == 0) := by
      have : mB 5 = 0 := rfl
      rw [Bool.eq_iff_iff, upB_iff, this]
      simp
      omega
    rw [e]
    exact within_d n p w
  · have e : upB n (mB 6) = (n == 0) := by
      have : mB 6 = 0 := rfl
      rw [Bool.eq_iff_iff, upB_iff, this]
      simp
      omega
    rw [e]
    exact within_d n p w
  · have e : upB n (mB 7) = (n == 0) := by
      have : mB 7 = 0 := rfl
      rw [Bool.eq_iff_iff, upB_iff, this]
      simp
      omega
    rw [e]
    exact within_d n p w
  · have e : upB n (mB 8) = (n == 0) := by
      have : mB 8 = 0 := rfl
      rw [Bool.eq_iff_iff, upB_iff, this]
      simp
      omega
    rw [e]
    exact within_d n p w
  · have e : upB n (mB 9) = (n == 0) := by
      have : mB 9 = 0 := rfl
      rw [Bool.eq_iff_iff, upB_iff, this]
      simp
      omega
    rw [e]
    exact within_d n p w
end De
end Go.Proofs.YtkcbokhkmcmpdaaGreat
