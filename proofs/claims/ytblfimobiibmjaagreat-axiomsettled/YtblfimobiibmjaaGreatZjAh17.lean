import Derived.Test.YtblfimobiibmjaaGreatZjAh16
import Derived.SizedLaws
import Derived.Deep.LoopGhost
namespace Go.Proofs.YtblfimobiibmjaaGreat
open Go.ChangeShapes Go.WideShapes Go.ChangeAt Go.RowKit
namespace Sh
open De Ba Re
section
variable {H : Type} {enc : TypeId × Value → H} {w : World}
end
end Sh
end Go.Proofs.YtblfimobiibmjaaGreat
namespace Go.Proofs.YtblfimobiibmjaaGreat
open Go.ChangeShapes Go.WideShapes Go.ChangeAt Go.RowKit
namespace Sh
open De Ba Re
end Sh
end Go.Proofs.YtblfimobiibmjaaGreat
namespace Go.Proofs.YtblfimobiibmjaaGreat
open Go.ChangeShapes Go.WideShapes Go.ChangeAt Go.RowKit
namespace Sh
open De Ba Re
end Sh
end Go.Proofs.YtblfimobiibmjaaGreat
namespace Go.Proofs.YtblfimobiibmjaaGreat
open Go.ChangeShapes Go.WideShapes Go.ChangeAt Go.RowKit
namespace De
open Ba Re
theorem row_1 (w : World) :
 Calls Tryz.prog 167 #[.int .i64 1] w fun r w' => r = .returned (.string (bs [112, 46])) ∧ Below w.heap.size w w' := by
 show Calls Tryz.prog 167 #[.int .i64 1] w fun r w' => r = .returned (.string ⟨#[112, 46]⟩) ∧ Below w.heap.size w w'
 go_enter Tryz.func167, Tryz.ntmps167
 go_wp2
 go_ret
 exact ⟨rfl, below_alloc _ _⟩
theorem row_2 (w : World) :
 Calls Tryz.prog 167 #[.int .i64 2] w fun r w' => r = .returned (.string (bs [99, 109])) ∧ Below w.heap.size w w' := by
 show Calls Tryz.prog 167 #[.int .i64 2] w fun r w' => r = .returned (.string ⟨#[99, 109]⟩) ∧ Below w.heap.size w w'
 go_enter Tryz.func167, Tryz.ntmps167
 go_wp2
 go_ret
 exact ⟨rfl, below_alloc _ _⟩
theorem row_3 (w : World) :
 Calls Tryz.prog 167 #[.int .i64 3] w fun r w' => r = .returned (.string (bs [99, 118])) ∧ Below w.heap.size w w' := by
 show Calls Tryz.prog 167 #[.int .i64 3] w fun r w' => r = .returned (.string ⟨#[99, 118]⟩) ∧ Below w.heap.size w w'
 go_enter Tryz.func167, Tryz.ntmps167
 go_wp2
 go_ret
 exact ⟨rfl, below_alloc _ _⟩
theorem row_4 (w : World) :
 Calls Tryz.prog 167 #[.int .i64 4] w fun r w' => r = .returned (.string (bs [99, 46])) ∧ Below w.heap.size w w' := by
 show Calls Tryz.prog 167 #[.int .i64 4] w fun r w' => r = .returned (.string ⟨#[99, 46]⟩) ∧ Below w.heap.size w w'
 go_enter Tryz.func167, Tryz.ntmps167
 go_wp2
 go_ret
 exact ⟨rfl, below_alloc _ _⟩
theorem row_5 (w : World) :
 Calls Tryz.prog 167 #[.int .i64 5] w fun r w' => r = .returned (.string (bs [99, 46])) ∧ Below w.heap.size w w' := by
 show Calls Tryz.prog 167 #[.int .i64 5] w fun r w' => r = .returned (.string ⟨#[99, 46]⟩) ∧ Below w.heap.size w w'
 go_enter Tryz.func167, Tryz.ntmps167
 go_wp2
 go_ret
 exact ⟨rfl, below_alloc _ _⟩
theorem row_6 (w : World) :
 Calls Tryz.prog 167 #[.int .i64 6] w fun r w' => r = .returned (.string (bs [46, 46])) ∧ Below w.heap.size w w' := by
 show Calls Tryz.prog 167 #[.int .i64 6] w fun r w' => r = .returned (.string ⟨#[46, 46]⟩) ∧ Below w.heap.size w w'
 go_enter Tryz.func167, Tryz.ntmps167
 go_wp2
 go_ret
 exact ⟨rfl, below_alloc _ _⟩
theorem row_7 (w : World) :
 Calls Tryz.prog 167 #[.int .i64 7] w fun r w' => r = .returned (.string (bs [120, 46])) ∧ Below w.heap.size w w' := by
 show Calls Tryz.prog 167 #[.int .i64 7] w fun r w' => r = .returned (.string ⟨#[120, 46]⟩) ∧ Below w.heap.size w w'
 go_enter Tryz.func167, Tryz.ntmps167
 go_wp2
 go_ret
 exact ⟨rfl, below_alloc _ _⟩
theorem row_8 (w : World) :
 Calls Tryz.prog 167 #[.int .i64 8] w fun r w' => r = .returned (.string (bs [120, 46])) ∧ Below w.heap.size w w' := by
 show Calls Tryz.prog 167 #[.int .i64 8] w fun r w' => r = .returned (.string ⟨#[120, 46]⟩) ∧ Below w.heap.size w w'
 go_enter Tryz.func167, Tryz.ntmps167
 go_wp2
 go_ret
 exact ⟨rfl, below_alloc _ _⟩
theorem row_9 (w : World) :
 Calls Tryz.prog 167 #[.int .i64 9] w fun r w' => r = .returned (.string (bs [46, 46])) ∧ Below w.heap.size w w' := by
 show Calls Tryz.prog 167 #[.int .i64 9] w fun r w' => r = .returned (.string ⟨#[46, 46]⟩) ∧ Below w.heap.size w w'
 go_enter Tryz.func167, Tryz.ntmps167
 go_wp2
 go_ret
 exact ⟨rfl, below_alloc _ _⟩
theorem within_p (n p : Int) (w : World) :
 Calls Tryz.prog 168 #[.int .i64 n, .int .u8 112, .int .i64 p] w fun r w' => r = .returned (.bool (decide (0 ≤ n) && decide (n < p))) ∧ w' = w := by
 by_cases h1 : 0 ≤ n
 ·have e : (decide (0 ≤ n) && decide (n < p)) = decide (n < p) := by simp [h1]
  rw [e]
  clear e
  go_enter Tryz.func168, Tryz.ntmps168
  go_wp2
  go_ret
  exact ⟨rfl, rfl⟩
 ·have e : (decide (0 ≤ n) && decide (n < p)) = false := by simp [h1]
  rw [e]
  clear e
  go_enter Tryz.func168, Tryz.ntmps168
  go_wp2
  go_ret
  exact ⟨rfl, rfl⟩
theorem within_c (n p : Int) (w : World) :
 Calls Tryz.prog 168 #[.int .i64 n, .int .u8 99, .int .i64 p] w fun r w' => r = .returned (.bool (decide (0 ≤ n) && decide (n < 8))) ∧ w' = w := by
 by_cases h1 : 0 ≤ n
 ·have e : (decide (0 ≤ n) && decide (n < 8)) = decide (n < 8) := by simp [h1]
  rw [e]
  clear e
  go_enter Tryz.func168, Tryz.ntmps168
  go_wp2
  go_ret
  exact ⟨rfl, rfl⟩
 ·have e : (decide (0 ≤ n) && decide (n < 8)) = false := by simp [h1]
  rw [e]
  clear e
  go_enter Tryz.func168, Tryz.ntmps168
  go_wp2
  go_ret
  exact ⟨rfl, rfl⟩
theorem within_x (n p : Int) (w : World) :
 Calls Tryz.prog 168 #[.int .i64 n, .int .u8 120, .int .i64 p] w fun r w' => r = .returned (.bool (decide (0 ≤ n) && decide (n < 8))) ∧ w' = w := by
 by_cases h1 : 0 ≤ n
 ·have e : (decide (0 ≤ n) && decide (n < 8)) = decide (n < 8) := by simp [h1]
  rw [e]
  clear e
  go_enter Tryz.func168, Tryz.ntmps168
  go_wp2
  go_ret
  exact ⟨rfl, rfl⟩
 ·have e : (decide (0 ≤ n) && decide (n < 8)) = false := by simp [h1]
  rw [e]
  clear e
  go_enter Tryz.func168, Tryz.ntmps168
  go_wp2
  go_ret
  exact ⟨rfl, rfl⟩
theorem within_m (n p : Int) (w : World) :
 Calls Tryz.prog 168 #[.int .i64 n, .int .u8 109, .int .i64 p] w fun r w' => r = .returned (.bool (decide (0 ≤ n) && decide (n ≤ 4))) ∧ w' = w := by
 by_cases h1 : 0 ≤ n
 ·have e : (decide (0 ≤ n) && decide (n ≤ 4)) = decide (n ≤ 4) := by simp [h1]
  rw [e]
  clear e
  go_enter Tryz.func168, Tryz.ntmps168
  go_wp2
  go_ret
  exact ⟨rfl, rfl⟩
 ·have e : (decide (0 ≤ n) && decide (n ≤ 4)) = false := by simp [h1]
  rw [e]
  clear e
  go_enter Tryz.func168, Tryz.ntmps168
  go_wp2
  go_ret
  exact ⟨rfl, rfl⟩
theorem within_v (n p : Int) (w : World) :
 Calls Tryz.prog 168 #[.int .i64 n, .int .u8 118, .int .i64 p] w fun r w' => r = .returned (.bool (decide (0 ≤ n) && decide (n ≤ 99))) ∧ w' = w := by
 by_cases h1 : 0 ≤ n
 ·have e : (decide (0 ≤ n) && decide (n ≤ 99)) = decide (n ≤ 99) := by simp [h1]
  rw [e]
  clear e
  go_enter Tryz.func168, Tryz.ntmps168
  go_wp2
  go_ret
  exact ⟨rfl, rfl⟩
 ·have e : (decide (0 ≤ n) && decide (n ≤ 99)) = false := by simp [h1]
  rw [e]
  clear e
  go_enter Tryz.func168, Tryz.ntmps168
  go_wp2
  go_ret
  exact ⟨rfl, rfl⟩
theorem within_d (n p : Int) (w : World) :
 Calls Tryz.prog 168 #[.int .i64 n, .int .u8 46, .int .i64 p] w fun r w' => r = .returned (.bool (n == 0)) ∧ w' = w := by
 go_enter Tryz.func168, Tryz.ntmps168
 go_wp2
 go_ret
 exact ⟨rfl, rfl⟩
def sA (k : Int) : Nat := if k = 1 then 112 else if k = 2 ∨ k = 3 ∨ k = 4 ∨ k = 5 then 99 else if k = 7 ∨ k = 8 then 120 else 46
def sB (k : Int) : Nat := if k = 2 then 109 else if k = 3 then 118 else 46
theorem row_any (k : Int) (h1 : 1 ≤ k) (h2 : k ≤ 9) (w : World) :
 Calls Tryz.prog 167 #[.int .i64 k] w fun r w' => r = .returned (.string (bs [sA k, sB k])) ∧ Below w.heap.size w w' := by
 rcases kind_cases h1 h2 with rfl | rfl | rfl | rfl | rfl | rfl | rfl | rfl | rfl
 ·exact row_1 w
 ·exact row_2 w
 ·exact row_3 w
 ·exact row_4 w
 ·exact row_5 w
 ·exact row_6 w
 ·exact row_7 w
 ·exact row_8 w
 ·exact row_9 w
theorem withinA (k n p : Int) (h1 : 1 ≤ k) (h2 : k ≤ 9) (w : World) :
 Calls Tryz.prog 168 #[.int .i64 n, .int .u8 (sA k : Int), .int .i64 p] w fun r w' => r = .returned (.bool (upB n (mA k p))) ∧ w' = w := by
 rcases kind_cases h1 h2 with rfl | rfl | rfl | rfl | rfl | rfl | rfl | rfl | rfl
 ·have e : upB n (mA 1 p) = (decide (0 ≤ n) && decide (n < p)) := by
   simp only [upB, mA, if_true]
   congr 1
   exact decide_eq_decide.2 (by omega)
  rw [e]
  exact within_p n p w
 ·have e : upB n (mA 2 p) = (decide (0 ≤ n) && decide (n < 8)) := by
   have : mA 2 p = 7 := rfl
   simp only [upB, this]
   congr 1
   exact decide_eq_decide.2 (by omega)
  rw [e]
  exact within_c n p w
 ·have e : upB n (mA 3 p) = (decide (0 ≤ n) && decide (n < 8)) := by
   have : mA 3 p = 7 := rfl
   simp only [upB, this]
   congr 1
   exact decide_eq_decide.2 (by omega)
  rw [e]
  exact within_c n p w
 ·have e : upB n (mA 4 p) = (decide (0 ≤ n) && decide (n < 8)) := by
   have : mA 4 p = 7 := rfl
   simp only [upB, this]
   congr 1
   exact decide_eq_decide.2 (by omega)
  rw [e]
  exact within_c n p w
 ·have e : upB n (mA 5 p) = (decide (0 ≤ n) && decide (n < 8)) := by
   have : mA 5 p = 7 := rfl
   simp only [upB, this]
   congr 1
   exact decide_eq_decide.2 (by omega)
  rw [e]
  exact within_c n p w
 ·have e : upB n (mA 6 p) = (n == 0) := by
   have : mA 6 p = 0 := rfl
   rw [Bool.eq_iff_iff, upB_iff, this]
   simp
   omega
  rw [e]
  exact within_d n p w
 ·have e : upB n (mA 7 p) = (decide (0 ≤ n) && decide (n < 8)) := by
   have : mA 7 p = 7 := rfl
   simp only [upB, this]
   congr 1
   exact decide_eq_decide.2 (by omega)
  rw [e]
  exact within_x n p w
 ·have e : upB n (mA 8 p) = (decide (0 ≤ n) && decide (n < 8)) := by
   have : mA 8 p = 7 := rfl
   simp only [upB, this]
   congr 1
   exact decide_eq_decide.2 (by omega)
  rw [e]
  exact within_x n p w
 ·have e : upB n (mA 9 p) = (n == 0) := by
   have : mA 9 p = 0 := rfl
   rw [Bool.eq_iff_iff, upB_iff, this]
   simp
   omega
  rw [e]
  exact within_d n p w
theorem withinB (k n p : Int) (h1 : 1 ≤ k) (h2 : k ≤ 9) (w : World) :
 Calls Tryz.prog 168 #[.int .i64 n, .int .u8 (sB k : Int), .int .i64 p] w fun r w' => r = .returned (.bool (upB n (mB k))) ∧ w' = w := by
 rcases kind_cases h1 h2 with rfl | rfl | rfl | rfl | rfl | rfl | rfl | rfl | rfl
 ·have e : upB n (mB 1) = (n == 0) := by
   have : mB 1 = 0 := rfl
   rw [Bool.eq_iff_iff, upB_iff, this]
   simp
   omega
  rw [e]
  exact within_d n p w
 ·exact within_m n p w
 ·exact within_v n p w
 ·have e : upB n (mB 4) = (n == 0) := by
   have : mB 4 = 0 := rfl
   rw [Bool.eq_iff_iff, upB_iff, this]
   simp
   omega
  rw [e]
  exact within_d n p w
 ·have e : upB n (mB 5) = (n == 0) := by
   have : mB 5 = 0 := rfl
   rw [Bool.eq_iff_iff, upB_iff, this]
   simp
   omega
  rw [e]
  exact within_d n p w
 ·have e : upB n (mB 6) = (n == 0) := by
   have : mB 6 = 0 := rfl
   rw [Bool.eq_iff_iff, upB_iff, this]
   simp
   omega
  rw [e]
  exact within_d n p w
 ·have e : upB n (mB 7) = (n == 0) := by
   have : mB 7 = 0 := rfl
   rw [Bool.eq_iff_iff, upB_iff, this]
   simp
   omega
  rw [e]
  exact within_d n p w
 ·have e : upB n (mB 8) = (n == 0) := by
   have : mB 8 = 0 := rfl
   rw [Bool.eq_iff_iff, upB_iff, this]
   simp
   omega
  rw [e]
  exact within_d n p w
 ·have e : upB n (mB 9) = (n == 0) := by
   have : mB 9 = 0 := rfl
   rw [Bool.eq_iff_iff, upB_iff, this]
   simp
   omega
  rw [e]
  exact within_d n p w
end De
end Go.Proofs.YtblfimobiibmjaaGreat
namespace Go.Proofs.YtblfimobiibmjaaGreat
open Go.ChangeShapes Go.WideShapes Go.ChangeAt Go.RowKit
namespace De
open Ba Re
theorem up7 (n : Int) : upB n 7 = (decide (0 ≤ n) && decide (n < 8)) := by
 unfold upB
 congr 1
 exact decide_eq_decide.2 (by omega)
theorem rchan (n : Int) (x : Bool) (h : upB n 7 = x) (w : World) :
 Calls Tryz.prog 168 #[.int .i64 n, .int .u8 99, .int .i64 0] w fun r w' => r = .returned (.bool x) ∧ w' = w := by
 rw [← h, up7]
 exact within_c n 0 w
theorem rval (n : Int) (x : Bool) (h : upB n 99 = x) (w : World) :
 Calls Tryz.prog 168 #[.int .i64 n, .int .u8 118, .int .i64 0] w fun r w' => r = .returned (.bool x) ∧ w' = w := by
 rw [← h]
 exact within_v n 0 w
theorem withinA_is (k n p : Int) (x : Bool) (h1 : 1 ≤ k) (h2 : k ≤ 9) (hx : upB n (mA k p) = x) (w : World) :
 Calls Tryz.prog 168 #[.int .i64 n, .int .u8 (sA k : Int), .int .i64 p] w fun r w' => r = .returned (.bool x) ∧ w' = w := by
 rw [← hx]
 exact withinA k n p h1 h2 w
theorem withinB_is (k n p : Int) (x : Bool) (h1 : 1 ≤ k) (h2 : k ≤ 9) (hx : upB n (mB k) = x) (w : World) :
 Calls Tryz.prog 168 #[.int .i64 n, .int .u8 (sB k : Int), .int .i64 p] w fun r w' => r = .returned (.bool x) ∧ w' = w := by
 rw [← hx]
 exact withinB k n p h1 h2 w
theorem sgA (k : Int) (h1 : 1 ≤ k) (h2 : k ≤ 9) : sA k < 256 ∧ sB k < 256 := by
 rcases kind_cases h1 h2 with rfl | rfl | rfl | rfl | rfl | rfl | rfl | rfl | rfl <;> decide
theorem ixA (k : Int) (h1 : 1 ≤ k) (h2 : k ≤ 9) (w : World) : (Instr.index 9 (.string (bs [sA k, sB k])) (.int .i64 0)).run Tryz.prog w = .ok (.int .u8 (sA k : Int)) w := by
 have h := sgA k h1 h2
 have := ix_str (bs [sA k, sB k]) 0 (sA k) (by rw [nbs_bs _ (by simp; omega)]; rfl) w
 exact this
theorem ixB (k : Int) (h1 : 1 ≤ k) (h2 : k ≤ 9) (w : World) : (Instr.index 9 (.string (bs [sA k, sB k])) (.int .i64 1)).run Tryz.prog w = .ok (.int .u8 (sB k : Int)) w := by
 have h := sgA k h1 h2
 have := ix_str (bs [sA k, sB k]) 1 (sB k) (by rw [nbs_bs _ (by simp; omega)]; rfl) w
 exact this
set_option maxHeartbeats 800000 in
theorem rcheck_arg (o : OpD) (oa : Option Addr) (c : Nat) (p : Int) (w : World) (h : (okP p && (decide (1 ≤ o.kind) && decide (o.kind ≤ 9))) = false) :
 Calls Tryz.prog 142 #[.agg #[.int .i64 o.kind, .int .i64 o.a, .int .i64 o.b, .slice oa o.cases.length c, .bool o.def_], .int .i64 p] w fun r w' => r = .returned (.int .i64 1) ∧ Below w.heap.size w w' := by
 obtain ⟨k, a, b, cs, d⟩ := o
 have hk : p < 1 ∨ 8 < p ∨ k < 1 ∨ 9 < k := by
  simp [okP] at h
  by_cases q1 : 1 ≤ p
  ·by_cases q2 : p ≤ 8
   ·by_cases q3 : 1 ≤ k
    ·have := h q1 q2 q3; omega
    ·omega
   ·omega
  ·omega
 clear h
 by_cases h1 : p < 1
 ·have d1 : decide (p < 1) = true := by simpa using h1
  clear hk
  go_enter Tryz.func142, Tryz.ntmps142
  go_wp2_with fail
  go_ret
  exact ⟨rfl, below_alloc _ _⟩
 have d1 : decide (p < 1) = false := by simpa using h1
 by_cases h2 : 8 < p
 ·have d2 : decide (8 < p) = true := by simpa using h2
  clear hk
  go_enter Tryz.func142, Tryz.ntmps142
  go_wp2_with fail
  go_ret
  exact ⟨rfl, below_alloc _ _⟩
 have d2 : decide (8 < p) = false := by simpa using h2
 by_cases h3 : k < 1
 ·have d3 : decide (k < 1) = true := by simpa using h3
  clear hk
  go_enter Tryz.func142, Tryz.ntmps142
  go_wp2_with fail
  go_ret
  exact ⟨rfl, below_alloc _ _⟩
 have d3 : decide (k < 1) = false := by simpa using h3
 have d4 : decide (9 < k) = true := by simp; omega
 clear hk
 go_enter Tryz.func142, Tryz.ntmps142
 go_wp2_with fail
 go_ret
 exact ⟨rfl, below_alloc _ _⟩
set_option maxHeartbeats 800000 in
theorem rcheck_long (o : OpD) (oa : Option Addr) (c : Nat) (p : Int) (w : World) (hp : okP p = true) (h1 : 1 ≤ o.kind) (h2 : o.kind ≤ 9) (hl : 4 < o.cases.length) (hm : o.cases.length ≤ maxLen) :
 Calls Tryz.prog 142 #[.agg #[.int .i64 o.kind, .int .i64 o.a, .int .i64 o.b, .slice oa o.cases.length c, .bool o.def_], .int .i64 p] w fun r w' => r = .returned (.int .i64 2) ∧ Below w.heap.size w w' := by
 obtain ⟨k, a, b, cs, d⟩ := o
 unfold maxLen at hm
 obtain ⟨p1, p2⟩ := (okP_iff p).1 hp
 simp only at h1 h2 hl hm ⊢
 have e1 : decide (p < 1) = false := by simp; omega
 have e2 : decide (8 < p) = false := by simp; omega
 have d1 : decide (k < 1) = false := by simp; omega
 have d2 : decide (9 < k) = false := by simp; omega
 have d3 : decide ((4 : Int) < (cs.length : Int)) = true := by simp; omega
 clear hp
 go_enter Tryz.func142, Tryz.ntmps142
 go_wp2_with fail
 go_ret
 exact ⟨rfl, below_alloc _ _⟩
theorem op_cells {w : World} {b : Nat} {x0 x1 x2 x3 x4 : Value} {t : TypeId} {fr : Nat × Nat} (h : w.heap[b]? = some (.cells #[x0, x1, x2, x3, x4] t fr)) : w.cell? ⟨b, 0, none⟩ = some x0 ∧ w.cell? ⟨b, 1, none⟩ = some x1 ∧ w.cell? ⟨b, 2, none⟩ = some x2 ∧ w.cell? ⟨b, 3, none⟩ = some x3 ∧ w.cell? ⟨b, 4, none⟩ = some x4 := ⟨cell_of h 0, cell_of h 1, cell_of h 2, cell_of h 3, cell_of h 4⟩
set_option maxHeartbeats 1600000 in
theorem rcheck_main (o : OpD) (oa : Option Addr) (c : Nat) (p : Int) (w : World) (hp : okP p = true) (h1 : 1 ≤ o.kind) (h2 : o.kind ≤ 9) (hl : o.cases.length ≤ 4) (hA : CAt w oa o.cases) (x1 x2 x3 x4 : Bool) (hx1 : upB o.a (mA o.kind p) = x1) (hx2 : upB o.b (mB o.kind) = x2) (hx3 : (o.kind == 6) = x3) (hx4 : (o.def_ || decide (0 < o.cases.length)) = x4) :
 Calls Tryz.prog 142 #[.agg #[.int .i64 o.kind, .int .i64 o.a, .int .i64 o.b, .slice oa o.cases.length c, .bool o.def_], .int .i64 p] w fun r w' => r = .returned (.int .i64 (bif x1 && x2 && (x3 || !x4) && o.cases.all okC then 0 else 4)) ∧ Below w.heap.size w w' := by
 obtain ⟨k, a, b, cs, d⟩ := o
 simp only at h1 h2 hl hA hx1 hx2 hx3 hx4 ⊢
 obtain ⟨p1, p2⟩ := (okP_iff p).1 hp
 have HA := hide hA
 have X1 := hide hx1
 have X2 := hide hx2
 have e1 : decide (p < 1) = false := by simp; omega
 have e2 : decide (8 < p) = false := by simp; omega
 have d1 : decide (k < 1) = false := by simp; omega
 have d2 : decide (9 < k) = false := by simp; omega
 have d3 : decide ((4 : Int) < (cs.length : Int)) = false := by simp; omega
 have d4 : (k != 6) = !x3 := by rw [← hx3]; rfl
 have i0 := ixA k h1 h2
 have i1 := ixB k h1 h2
 have WA := hide (fun w => withinA_is k a p x1 h1 h2 hx1 w)
 have WB := hide (fun w => withinB_is k b p x2 h1 h2 hx2 w)
 have RW := hide (fun w => row_any k h1 h2 w)
 generalize sA k = u at WA RW i0 i1
 generalize sB k = v at WB RW i0 i1
 clear hp hA hx1 hx2 X1 X2
 cases x1
 ·clear hx3 hx4 d4
  go_enter Tryz.func142, Tryz.ntmps142
  go_wp2_with fail
  refine (RW.out _).mono ?_
  rintro r w1 ⟨rfl, br⟩
  have P1 := hide (heap_below (heap_new w (.cells #[.int .i64 k, .int .i64 a, .int .i64 b, .slice oa cs.length c, .bool d] 64)) br)
  have B1 := hide (btr (below_alloc _ _) br)
  obtain ⟨y0, y1, y2, y3, y4⟩ := op_cells P1.out
  have HA1 := hide (HA.out.below B1.out)
  clear br
  go_wp2_with fail
  go_quiet ((first | (go_at_call_of 168 (Value.int IntKind.i64 a); exact Calls.quiet_of_same (WA.out _)) | (go_at_call_of 168 (Value.int IntKind.i64 b); exact Calls.quiet_of_same (WB.out _))))
  all_goals
   go_wp2_with fail
   go_ret
   exact ⟨rfl, btr B1.out (bdrew _ _)⟩
 cases x2
 ·clear hx3 hx4 d4
  go_enter Tryz.func142, Tryz.ntmps142
  go_wp2_with fail
  refine (RW.out _).mono ?_
  rintro r w1 ⟨rfl, br⟩
  have P1 := hide (heap_below (heap_new w (.cells #[.int .i64 k, .int .i64 a, .int .i64 b, .slice oa cs.length c, .bool d] 64)) br)
  have B1 := hide (btr (below_alloc _ _) br)
  obtain ⟨y0, y1, y2, y3, y4⟩ := op_cells P1.out
  have HA1 := hide (HA.out.below B1.out)
  clear br
  go_wp2_with fail
  go_quiet ((first | (go_at_call_of 168 (Value.int IntKind.i64 a); exact Calls.quiet_of_same (WA.out _)) | (go_at_call_of 168 (Value.int IntKind.i64 b); exact Calls.quiet_of_same (WB.out _))))
  all_goals
   go_wp2_with fail
   go_ret
   exact ⟨rfl, btr B1.out (bdrew _ _)⟩
 go_enter Tryz.func142, Tryz.ntmps142
 go_wp2_with fail
 refine (RW.out _).mono ?_
 rintro r w1 ⟨rfl, br⟩
 have P1 := hide (heap_below (heap_new w (.cells #[.int .i64 k, .int .i64 a, .int .i64 b, .slice oa cs.length c, .bool d] 64)) br)
 have B1 := hide (btr (below_alloc _ _) br)
 obtain ⟨y0, y1, y2, y3, y4⟩ := op_cells P1.out
 have HA1 := hide (HA.out.below B1.out)
 clear br
 go_wp2_with fail
 go_quiet ((first | (go_at_call_of 168 (Value.int IntKind.i64 a); exact Calls.quiet_of_same (WA.out _)) | (go_at_call_of 168 (Value.int IntKind.i64 b); exact Calls.quiet_of_same (WB.out _))))
 cases x3
 ·cases x4
  ·have hd : d = false := by
    cases d
    ·rfl
    ·simp at hx4
   have hc0 : cs = [] := by
    rw [hd] at hx4
    simpa using hx4
   subst hd hc0
   clear hx4 hx3
   go_wp2_with fail
   refine wp_loop_rounds 1 ?_
   rw [rounds_succ]
   go_wp2
   go_ret
   exact ⟨rfl, by first | exact btr B1.out (bdrew _ _) | exact btr B1.out (by rw [World.drewN_drewN]; exact bdrew _ _) | exact B1.out⟩
  ·clear hx3
   cases cs with
   | nil =>
     have hd : d = true := by simpa using hx4
     subst hd
     clear hx4
     go_wp2_with fail
     go_ret
     exact ⟨rfl, by first | exact btr B1.out (bdrew _ _) | exact btr B1.out (by rw [World.drewN_drewN]; exact bdrew _ _) | exact B1.out⟩
   | cons x t =>
     clear hx4
     go_wp2_with fail
     go_ret
     exact ⟨rfl, by first | exact btr B1.out (bdrew _ _) | exact btr B1.out (by rw [World.drewN_drewN]; exact bdrew _ _) | exact B1.out⟩
 ·clear hx4 hx3
  go_wp2_with fail
  go_loopw [63] (fun i wr => ∃ j : Nat, j ≤ cs.length ∧ i = .int .i64 (j : Int) ∧ (∀ q x, q < j → cs[q]? = some x → okC x = true) ∧ Below w.heap.size w wr) (fun i _ => cs.length - (intOf i).toNat)
  case atStart => exact ⟨0, Nat.zero_le _, rfl, fun q x hq => absurd hq (Nat.not_lt_zero _), btr B1.out (bdrew _ _)⟩
  case round =>
   obtain ⟨j, hj, rfl, hall, hb⟩ := hrel
   have HK := hide hall
   have HB := hide hb
   clear hall hb
   by_cases hlt : j < cs.length
   ·have hlt' : decide ((j : Int) < (cs.length : Int)) = true := by simp; omega
    obtain ⟨x, hx⟩ : ∃ x, cs[j]? = some x := ⟨cs[j], by simp [hlt]⟩
    obtain ⟨b', off, rfl, q1, q2, q3⟩ := (HA.out.below HB.out) j x hx
    have HX := hide hx
    clear hx
    obtain ⟨sd, ch, vl⟩ := x
    simp only at q1 q2 q3
    obtain ⟨u7, hu7⟩ : ∃ u, upB ch 7 = u := ⟨_, rfl⟩
    obtain ⟨u99, hu99⟩ : ∃ u, upB vl 99 = u := ⟨_, rfl⟩
    have C1 : Hid (∀ w, Calls Tryz.prog 168 #[.int .i64 ch, .int .u8 99, .int .i64 0] w fun r w' => r = .returned (.bool u7) ∧ w' = w) := fun w => rchan ch _ hu7 w
    have C2 : Hid (∀ w, Calls Tryz.prog 168 #[.int .i64 vl, .int .u8 118, .int .i64 0] w fun r w' => r = .returned (.bool u99) ∧ w' = w) := fun w => rval vl _ hu99 w
    have H7 := hide hu7
    have H99 := hide hu99
    clear hu7 hu99
    cases u7
    ·have HO : Hid (okC ⟨sd, ch, vl⟩ = false) := by show _ = _; simp only [okC]; rw [H7.out]; rfl
     go_wp2_with (first | (go_at_call_of 168 (Value.int IntKind.u8 99); refine (C1.out _).mono ?_; rintro r w' ⟨rfl, rfl⟩) | (go_at_call_of 168 (Value.int IntKind.u8 118); refine (C2.out _).mono ?_; rintro r w' ⟨rfl, rfl⟩))
     all_goals
      go_ret
      exact ⟨by rw [all_no HX.out HO.out]; simp, btr HB.out (below_alloc _ _)⟩
    ·cases sd
     ·cases hz : vl == 0
      ·have hz' : (vl != 0) = true := by simp [bne, hz]
       have HO : Hid (okC ⟨false, ch, vl⟩ = false) := by show _ = _; simp only [okC]; rw [H7.out]; simp only [cond_false, Bool.true_and]; simp at hz; simp [upB]; omega
       go_wp2_with (first | (go_at_call_of 168 (Value.int IntKind.u8 99); refine (C1.out _).mono ?_; rintro r w' ⟨rfl, rfl⟩) | (go_at_call_of 168 (Value.int IntKind.u8 118); refine (C2.out _).mono ?_; rintro r w' ⟨rfl, rfl⟩))
       all_goals
        go_ret
        exact ⟨by rw [all_no HX.out HO.out]; simp, btr HB.out (below_alloc _ _)⟩
      ·have hz' : (vl != 0) = false := by simp [bne, hz]
       have HO : Hid (okC ⟨false, ch, vl⟩ = true) := by show _ = _; simp only [okC]; rw [H7.out]; simp only [cond_false, Bool.true_and]; simp at hz; simp [upB]; omega
       go_wp2_with (first | (go_at_call_of 168 (Value.int IntKind.u8 99); refine (C1.out _).mono ?_; rintro r w' ⟨rfl, rfl⟩) | (go_at_call_of 168 (Value.int IntKind.u8 118); refine (C2.out _).mono ?_; rintro r w' ⟨rfl, rfl⟩))
       all_goals
        go_roundw
        case rel => exact ⟨j + 1, by omega, by go_num, fun q y hq hy => by
         by_cases e : q = j
         ·subst e
          have := HX.out
          rw [hy] at this
          simp at this
          subst this
          exact HO.out
         ·exact HK.out q y (by omega) hy, btr HB.out (below_alloc _ _)⟩
        case measure => simp [intOf]; omega
     ·cases u99
      ·have HO : Hid (okC ⟨true, ch, vl⟩ = false) := by show _ = _; simp only [okC]; rw [H7.out]; simp only [cond_true, Bool.true_and]; exact H99.out
       go_wp2_with (first | (go_at_call_of 168 (Value.int IntKind.u8 99); refine (C1.out _).mono ?_; rintro r w' ⟨rfl, rfl⟩) | (go_at_call_of 168 (Value.int IntKind.u8 118); refine (C2.out _).mono ?_; rintro r w' ⟨rfl, rfl⟩))
       all_goals
        go_ret
        exact ⟨by rw [all_no HX.out HO.out]; simp, btr HB.out (below_alloc _ _)⟩
      ·have HO : Hid (okC ⟨true, ch, vl⟩ = true) := by show _ = _; simp only [okC]; rw [H7.out]; simp only [cond_true, Bool.true_and]; exact H99.out
       go_wp2_with (first | (go_at_call_of 168 (Value.int IntKind.u8 99); refine (C1.out _).mono ?_; rintro r w' ⟨rfl, rfl⟩) | (go_at_call_of 168 (Value.int IntKind.u8 118); refine (C2.out _).mono ?_; rintro r w' ⟨rfl, rfl⟩))
       all_goals
        go_roundw
        case rel => exact ⟨j + 1, by omega, by go_num, fun q y hq hy => by
         by_cases e : q = j
         ·subst e
          have := HX.out
          rw [hy] at this
          simp at this
          subst this
          exact HO.out
         ·exact HK.out q y (by omega) hy, btr HB.out (below_alloc _ _)⟩
        case measure => simp [intOf]; omega
   ·have hlt' : decide ((j : Int) < (cs.length : Int)) = false := by simp; omega
    go_wp2_with fail
    go_ret
    exact ⟨by rw [all_yes (fun q x hq => HK.out q x (by have := (List.getElem?_eq_some_iff.1 hq).1; omega) hq)]; rfl, HB.out⟩
theorem rcheck_any (o : OpD) (oa : Option Addr) (c : Nat) (p : Int) (w : World) (hA : CAt w oa o.cases) (hm : o.cases.length ≤ maxLen) :
 Calls Tryz.prog 142 #[.agg #[.int .i64 o.kind, .int .i64 o.a, .int .i64 o.b, .slice oa o.cases.length c, .bool o.def_], .int .i64 p] w fun r w' => r = .returned (.int .i64 (chk o p)) ∧ Below w.heap.size w w' := by
 unfold chk
 by_cases h1 : (okP p && (decide (1 ≤ o.kind) && decide (o.kind ≤ 9))) = false
 ·rw [if_pos h1]
  exact rcheck_arg o oa c p w h1
 ·rw [if_neg h1]
  have h1' : okP p = true ∧ 1 ≤ o.kind ∧ o.kind ≤ 9 := by simpa using h1
  obtain ⟨hp, hk1, hk2⟩ := h1'
  by_cases h2 : 4 < o.cases.length
  ·rw [if_pos h2]
   exact rcheck_long o oa c p w hp hk1 hk2 h2 hm
  ·rw [if_neg h2]
   refine (rcheck_main o oa c p w hp hk1 hk2 (by omega) hA _ _ _ _ rfl rfl rfl rfl).mono ?_
   rintro r w' ⟨rfl, hb⟩
   refine ⟨?_, hb⟩
   cases x1 : upB o.a (mA o.kind p) && upB o.b (mB o.kind)
   ·simp
   ·rw [if_neg (by simp)]
    by_cases h6 : o.kind = 6
    ·rw [if_neg (fun q => q.1 h6)]
     have : (o.kind == 6) = true := by simpa using h6
     rw [this]
     cases o.cases.all okC <;> simp
    ·have : (o.kind == 6) = false := by simpa using h6
     rw [this]
     cases h4 : (o.def_ || decide (0 < o.cases.length))
     ·rw [if_neg (fun q => by simp at q)]
      cases o.cases.all okC <;> simp
     ·rw [if_pos ⟨h6, rfl⟩]
      simp
end De
end Go.Proofs.YtblfimobiibmjaaGreat
namespace Go.Proofs.YtblfimobiibmjaaGreat
open Go.ChangeShapes Go.WideShapes Go.ChangeAt Go.RowKit
namespace Sh
open De Ba Re
section
variable {T M : Int} {ps : List (List OpD)} {pl dr : List Int}
theorem schk_1 (h : T < 1 ∨ 256 < T ∨ M < 1 ∨ 1048576 < M) : schk ⟨T, M, ps, pl, dr⟩ = 1 := by
 have : ((decide (1 ≤ T) && decide (T ≤ 256)) && (decide (1 ≤ M) && decide (M ≤ 1048576))) = false := by
  simp
  omega
 simp only [schk, this]
 rfl
theorem good_tm (h : (1 ≤ T ∧ T ≤ 256) ∧ 1 ≤ M ∧ M ≤ 1048576) : ((decide (1 ≤ T) && decide (T ≤ 256)) && (decide (1 ≤ M) && decide (M ≤ 1048576))) = true := by
 simp
 omega
theorem schk_2 (h : (1 ≤ T ∧ T ≤ 256) ∧ 1 ≤ M ∧ M ≤ 1048576) (h2 : isl ps pl.length dr.length = true) : schk ⟨T, M, ps, pl, dr⟩ = 2 := by
 simp only [schk, good_tm h, h2]
 rfl
theorem schk_4a (h : (1 ≤ T ∧ T ≤ 256) ∧ 1 ≤ M ∧ M ≤ 1048576) (h2 : isl ps pl.length dr.length = false) (h3 : ps.length = 0) : schk ⟨T, M, ps, pl, dr⟩ = 4 := by
 simp only [schk, good_tm h, h2]
 simp [h3]
theorem schk_4c (h : (1 ≤ T ∧ T ≤ 256) ∧ 1 ≤ M ∧ M ≤ 1048576) (h2 : isl ps pl.length dr.length = false) (h3 : ari ps.length ps = false) : schk ⟨T, M, ps, pl, dr⟩ = 4 := by
 simp only [schk, good_tm h, h2, h3]
 simp
theorem schk_4b (h : (1 ≤ T ∧ T ≤ 256) ∧ 1 ≤ M ∧ M ≤ 1048576) (h2 : isl ps pl.length dr.length = false) (h3 : ab (-1) 1000 pl = false ∨ ab 0 1000 dr = false) : schk ⟨T, M, ps, pl, dr⟩ = 4 := by
 have : (ab (-1) 1000 pl && ab 0 1000 dr) = false := by
  rcases h3 with h3 | h3 <;> simp [h3]
 simp only [schk, good_tm h, h2, this]
 cases (!(!decide (ps.length = 0) && ari ps.length ps)) <;> rfl
theorem ab_no {lo hi : Int} {l : List Int} {k : Nat} (hk : k < l.length) (h : nth l k < lo ∨ hi < nth l k) : ab lo hi l = false := by
 rw [← Bool.not_eq_true]
 intro e
 have := ab_nth.1 e k hk
 omega
theorem ret_int {a b : Int} (h : a = b) : Ending.returned (.int .i64 b) = Ending.returned (.int .i64 a) := by rw [h]
end
set_option maxRecDepth 100000 in
set_option maxHeartbeats 6400000 in
theorem rscheck_any (T M : Int) (ps : List (List OpD)) (pl dr : List Int) (pa la da : Option Addr) (pc lc dc : Nat) (w : World) (hS : SAt w ⟨T, M, ps, pl, dr⟩ pa la da) :
 Calls Tryz.prog 99 #[.agg #[.int .i64 T, .int .i64 M, .slice pa ps.length pc, .slice la pl.length lc, .slice da dr.length dc]] w fun r w' => r = .returned (.int .i64 (schk ⟨T, M, ps, pl, dr⟩)) ∧ Below w.heap.size w w' := by
 have S0 := hide (hS.below (below_alloc w (.cells #[.int .i64 T, .int .i64 M, .slice pa ps.length pc, .slice la pl.length lc, .slice da dr.length dc] 69)))
 have B0 := hide (below_alloc w (.cells #[.int .i64 T, .int .i64 M, .slice pa ps.length pc, .slice la pl.length lc, .slice da dr.length dc] 69))
 have X0 := hide (heap_new w (.cells #[.int .i64 T, .int .i64 M, .slice pa ps.length pc, .slice la pl.length lc, .slice da dr.length dc] 69))
 have h1 := hS.h1
 have h2 := hS.h2
 have h3 := hS.h3
 unfold maxLen at h1 h2 h3
 simp only at h1 h2 h3
 clear hS
 by_cases a1 : T < 1
 ·have g1 : decide (T < 1) = true := by simpa using a1
  go_enter Tryz.func99, Tryz.ntmps99
  go_wp2_with fail
  go_ret
  exact ⟨ret_int (schk_1 (Or.inl a1)), B0.out⟩
 have g1 : decide (T < 1) = false := by simpa using a1
 by_cases a2 : 256 < T
 ·have g2 : decide (256 < T) = true := by simpa using a2
  go_enter Tryz.func99, Tryz.ntmps99
  go_wp2_with fail
  go_ret
  exact ⟨ret_int (schk_1 (Or.inr (Or.inl a2))), B0.out⟩
 have g2 : decide (256 < T) = false := by simpa using a2
 by_cases a3 : M < 1
 ·have g3 : decide (M < 1) = true := by simpa using a3
  go_enter Tryz.func99, Tryz.ntmps99
  go_wp2_with fail
  go_ret
  exact ⟨ret_int (schk_1 (Or.inr (Or.inr (Or.inl a3)))), B0.out⟩
 have g3 : decide (M < 1) = false := by simpa using a3
 by_cases a4 : 1048576 < M
 ·have g4 : decide (1048576 < M) = true := by simpa using a4
  go_enter Tryz.func99, Tryz.ntmps99
  go_wp2_with fail
  go_ret
  exact ⟨ret_int (schk_1 (Or.inr (Or.inr (Or.inr a4)))), B0.out⟩
 have g4 : decide (1048576 < M) = false := by simpa using a4
 have TM : Hid ((1 ≤ T ∧ T ≤ 256) ∧ 1 ≤ M ∧ M ≤ 1048576) := by
  show _ ∧ _
  omega
 clear a1 a2 a3 a4
 by_cases n1 : 8 < ps.length
 ·have q1 : decide (8 < (ps.length : Int)) = true := by simp; omega
  go_enter Tryz.func99, Tryz.ntmps99
  go_wp2_with fail
  go_ret
  exact ⟨ret_int (schk_2 TM.out (by simp [isl, n1])), B0.out⟩
 have q1 : decide (8 < (ps.length : Int)) = false := by simp; omega
 by_cases n2 : 200 < pl.length
 ·have q2 : decide (200 < (pl.length : Int)) = true := by simp; omega
  go_enter Tryz.func99, Tryz.ntmps99
  go_wp2_with fail
  go_ret
  exact ⟨ret_int (schk_2 TM.out (by simp [isl, n2])), B0.out⟩
 have q2 : decide (200 < (pl.length : Int)) = false := by simp; omega
 by_cases n3 : 64 < dr.length
 ·have q3 : decide (64 < (dr.length : Int)) = true := by simp; omega
  go_enter Tryz.func99, Tryz.ntmps99
  go_wp2_with fail
  go_ret
  exact ⟨ret_int (schk_2 TM.out (by simp [isl, n3])), B0.out⟩
 have q3 : decide (64 < (dr.length : Int)) = false := by simp; omega
 go_enter Tryz.func99, Tryz.ntmps99
 go_wp2_with fail
 generalize w.alloc (.cells #[.int .i64 T, .int .i64 M, .slice pa ps.length pc, .slice la pl.length lc, .slice da dr.length dc] 69) = W at S0 B0 X0 ⊢
 obtain ⟨x0, x1, x2, x3, x4⟩ := sc_cells X0.out
 go_loop [50] (fun i => ∃ k : Nat, k ≤ ps.length ∧ i = .int .i64 k ∧ ∀ (j : Nat) (q : List OpD), j < k → ps[j]? = some q → q.length ≤ 32) (fun i => ps.length - (intOf i).toNat)
 case atStart => exact ⟨0, Nat.zero_le _, rfl, fun j q hj => absurd hj (Nat.not_lt_zero _)⟩
 case round =>
  obtain ⟨k, hk, rfl, hall⟩ := hrel
  have HE := hide hall
  clear hall
  by_cases hlt : k < ps.length
  ·have hlt' : (k : Int) < (ps.length : Int) := by omega
   obtain ⟨q, hq⟩ : ∃ q, ps[k]? = some q := ⟨ps[k], by simp [hlt]⟩
   obtain ⟨b, off, qa, qc, e1, c1, hO, m1⟩ := S0.out.ps k q hq
   subst e1
   have HQ := hide hq
   unfold maxLen at m1
   clear hq hO
   by_cases hl : 32 < q.length
   ·have hl' : decide (32 < (q.length : Int)) = true := by simp; omega
    go_wp2_with fail
    go_ret
    exact ⟨ret_int (schk_2 TM.out (isl_long HQ.out hl)), B0.out⟩
   ·have hl' : decide (32 < (q.length : Int)) = false := by simp; omega
    go_wp2_with fail
    go_round
    case rel => exact ⟨k + 1, by omega, by go_num, fun j x hj hx => by
     by_cases e : j = k
     ·subst e; rw [HQ.out] at hx; cases hx; omega
     ·exact HE.out j x (by omega) hx⟩
    case measure => simp [intOf]; omega
  ·have hlt' : ¬ ((k : Int) < (ps.length : Int)) := by omega
   have IS : Hid (isl ps pl.length dr.length = false) := by
    show _ = _
    rw [isl_short fun j q hq => HE.out j q (by have := (List.getElem?_eq_some_iff.1 hq).1; omega) hq]
    simp
    omega
   clear hlt
   by_cases z : ps.length = 0
   ·have Z := hide z
    have z' : ((ps.length : Int) == 0) = true := by simpa using z
    clear z
    go_wp2_with fail
    go_ret
    exact ⟨ret_int (schk_4a TM.out IS.out Z.out), B0.out⟩
   have z' : ((ps.length : Int) == 0) = false := by simpa using z
   clear HE
   go_wp2_with fail
   clear hlt' hk
   go_loopw [65] (fun i wr => ∃ k : Nat, k ≤ ps.length ∧ i = .int .i64 k ∧ (∀ (j : Nat) (q : List OpD), j < k → ps[j]? = some q → ∀ (i : Nat) (o : OpD), q[i]? = some o → chk o ps.length = 0) ∧ Below W.heap.size W wr) (fun i _ => ps.length - (intOf i).toNat)
   case atStart => exact ⟨0, Nat.zero_le _, rfl, fun j q hj => absurd hj (Nat.not_lt_zero _), Below.refl _ _⟩
   case round =>
    rename World => w0
    obtain ⟨k, hk, rfl, hall, bw⟩ := hrel
    have HE := hide hall
    have BW := hide bw
    clear hall bw
    by_cases hlt : k < ps.length
    ·have hlt' : (k : Int) < (ps.length : Int) := by omega
     obtain ⟨q, hq⟩ : ∃ q, ps[k]? = some q := ⟨ps[k], by simp [hlt]⟩
     obtain ⟨b, off, qa, qc, e1, hc, hO, hm⟩ := (S0.out.ps.below BW.out) k q hq
     subst e1
     have HQ := hide hq
     have HO := hide hO
     unfold maxLen at hm
     clear hq hO
     go_wp2_with fail
     go_loopw [71] (fun i wr => ∃ j : Nat, j ≤ q.length ∧ i = .int .i64 j ∧ (∀ (t : Nat) (o : OpD), t < j → q[t]? = some o → chk o ps.length = 0) ∧ Below w0.heap.size w0 wr) (fun i _ => q.length - (intOf i).toNat)
     case atStart => exact ⟨0, Nat.zero_le _, rfl, fun j q hj => absurd hj (Nat.not_lt_zero _), Below.refl _ _⟩
     case round =>
      obtain ⟨j, hj, rfl, hall, bw2⟩ := hrel
      have HF := hide hall
      have B2 := hide bw2
      clear hall bw2
      by_cases hjl : j < q.length
      ·have hjl' : (j : Int) < (q.length : Int) := by omega
       obtain ⟨o, ho⟩ : ∃ o, q[j]? = some o := ⟨q[j], by simp [hjl]⟩
       obtain ⟨b', off', ca, cc, e2, ⟨y0, y1, y2, y3, y4⟩, hC, hM⟩ := (HO.out.below B2.out) j o ho
       subst e2
       have HX := hide ho
       have HC := hide hC
       have HM := hide hM
       clear ho hC hM
       have B3 := hide (btr B2.out (below_alloc wr (.cells #[.int .i64 o.kind, .int .i64 o.a, .int .i64 o.b, .slice ca o.cases.length cc, .bool o.def_] 64)))
       have C3 := hide (HC.out.below (below_alloc wr (.cells #[.int .i64 o.kind, .int .i64 o.a, .int .i64 o.b, .slice ca o.cases.length cc, .bool o.def_] 64)))
       have X3 := hide (heap_below (heap_below X0.out BW.out) B3.out)
       obtain ⟨v0, v1, v2, v3, v4⟩ := sc_cells X3.out
       cases hz : chk o ps.length == 0
       ·have hz' : (chk o ps.length != 0) = true := by simp [bne, hz]
        have HZ := hide hz
        clear hz
        go_wp2_with fail
        refine (rcheck_any o ca cc _ _ C3.out HM.out).mono ?_
        rintro r w4 ⟨rfl, b4⟩
        have B4 := hide (btr B3.out b4)
        clear b4
        go_wp2_with fail
        go_ret
        exact ⟨ret_int (schk_4c TM.out IS.out (ari_no HQ.out HX.out HZ.out)), btr B0.out (btr BW.out B4.out)⟩
       ·have hz' : (chk o ps.length != 0) = false := by simp [bne, hz]
        have HZ : Hid (chk o ps.length = 0) := by show _ = _; simpa using hz
        clear hz
        go_wp2_with fail
        refine (rcheck_any o ca cc _ _ C3.out HM.out).mono ?_
        rintro r w4 ⟨rfl, b4⟩
        have B4 := hide (btr B3.out b4)
        clear b4
        go_wp2_with fail
        go_roundw
        case rel => exact ⟨j + 1, by omega, by go_num, fun t x ht hx => by
         by_cases e : t = j
         ·subst e; rw [HX.out] at hx; cases hx; exact HZ.out
         ·exact HF.out t x (by omega) hx, B4.out⟩
        case measure => simp [intOf]; omega
      ·have hjl' : ¬ ((j : Int) < (q.length : Int)) := by omega
       go_wp2_with fail
       go_roundw
       case rel =>
        exact ⟨k + 1, by omega, by go_num, fun t r ht hr i o ho => by
         by_cases e : t = k
         ·subst e; rw [HQ.out] at hr; cases hr
          exact HF.out i o (by have := (List.getElem?_eq_some_iff.1 ho).1; omega) ho
         ·exact HE.out t r (by omega) hr i o ho, btr BW.out B2.out⟩
       case measure => simp [intOf]; omega
    ·have hlt' : ¬ ((k : Int) < (ps.length : Int)) := by omega
     have AR : Hid (ari ps.length ps = true) := ari_yes fun t q hq j o ho => HE.out t q (by have := (List.getElem?_eq_some_iff.1 hq).1; omega) hq j o ho
     have X5 := hide (heap_below X0.out BW.out)
     have L5 := hide (S0.out.below BW.out).pl
     have D5 := hide (S0.out.below BW.out).dr
     have B5 := hide (btr B0.out BW.out)
     clear HE S0 B0 X0 BW x0 x1 x2 x3 x4
     obtain ⟨x0, x1, x2, x3, x4⟩ := sc_cells X5.out
     go_wp2_with fail
     go_loop [86] (fun i => ∃ k : Nat, k ≤ pl.length ∧ i = .int .i64 k ∧ ∀ j, j < k → -1 ≤ nth pl j ∧ nth pl j ≤ 1000) (fun i => pl.length - (intOf i).toNat)
     case atStart => exact ⟨0, Nat.zero_le _, rfl, fun j hj => absurd hj (Nat.not_lt_zero _)⟩
     case round =>
      obtain ⟨k, hk, rfl, hall⟩ := hrel
      have HE := hide hall
      clear hall
      by_cases hlt : k < pl.length
      ·have hlt' : (k : Int) < (pl.length : Int) := by omega
       obtain ⟨b1, o1, e, hc1⟩ := L5.out k hlt
       subst e
       by_cases u1 : nth pl k < -1
       ·have u1' : decide (nth pl k < -1) = true := by simpa using u1
        go_wp2_with fail
        go_ret
        exact ⟨ret_int (schk_4b TM.out IS.out (Or.inl (ab_no hlt (Or.inl u1)))), B5.out⟩
       have u1' : decide (nth pl k < -1) = false := by simpa using u1
       by_cases u2 : 1000 < nth pl k
       ·have u2' : decide (1000 < nth pl k) = true := by simpa using u2
        go_wp2_with fail
        go_ret
        exact ⟨ret_int (schk_4b TM.out IS.out (Or.inl (ab_no hlt (Or.inr u2)))), B5.out⟩
       have u2' : decide (1000 < nth pl k) = false := by simpa using u2
       go_wp2_with fail
       go_round
       case rel => exact ⟨k + 1, by omega, by go_num, fun j hj => by
        by_cases e : j = k
        ·subst e; omega
        ·exact HE.out j (by omega)⟩
       case measure => simp [intOf]; omega
      ·have hlt' : ¬ ((k : Int) < (pl.length : Int)) := by omega
       have AP : Hid (ab (-1) 1000 pl = true) := ab_nth.2 fun j hj => HE.out j (by omega)
       clear HE
       go_wp2_with fail
       go_loop [100] (fun i => ∃ k : Nat, k ≤ dr.length ∧ i = .int .i64 k ∧ ∀ j, j < k → 0 ≤ nth dr j ∧ nth dr j ≤ 1000) (fun i => dr.length - (intOf i).toNat)
       case atStart => exact ⟨0, Nat.zero_le _, rfl, fun j hj => absurd hj (Nat.not_lt_zero _)⟩
       case round =>
        obtain ⟨k, hk, rfl, hall⟩ := hrel
        have HE := hide hall
        clear hall
        by_cases hlt : k < dr.length
        ·have hlt' : (k : Int) < (dr.length : Int) := by omega
         obtain ⟨b1, o1, e, hc1⟩ := D5.out k hlt
         subst e
         by_cases u1 : nth dr k < 0
         ·have u1' : decide (nth dr k < 0) = true := by simpa using u1
          go_wp2_with fail
          go_ret
          exact ⟨ret_int (schk_4b TM.out IS.out (Or.inr (ab_no hlt (Or.inl u1)))), B5.out⟩
         have u1' : decide (nth dr k < 0) = false := by simpa using u1
         by_cases u2 : 1000 < nth dr k
         ·have u2' : decide (1000 < nth dr k) = true := by simpa using u2
          go_wp2_with fail
          go_ret
          exact ⟨ret_int (schk_4b TM.out IS.out (Or.inr (ab_no hlt (Or.inr u2)))), B5.out⟩
         have u2' : decide (1000 < nth dr k) = false := by simpa using u2
         go_wp2_with fail
         go_round
         case rel => exact ⟨k + 1, by omega, by go_num, fun j hj => by
          by_cases e : j = k
          ·subst e; omega
          ·exact HE.out j (by omega)⟩
         case measure => simp [intOf]; omega
        ·have hlt' : ¬ ((k : Int) < (dr.length : Int)) := by omega
         have AD : Hid (ab 0 1000 dr = true) := ab_nth.2 fun j hj => HE.out j (by omega)
         have F : Hid (schk ⟨T, M, ps, pl, dr⟩ = 0) := by
          show _ = _
          have e3 : decide (ps.length = 0) = false := by simpa using z
          unfold schk
          simp only [good_tm TM.out, IS.out, AR.out, AP.out, AD.out, e3]
          rfl
         go_wp2_with fail
         go_ret
         exact ⟨ret_int F.out, B5.out⟩
end Sh
end Go.Proofs.YtblfimobiibmjaaGreat
namespace Go.Proofs.YtblfimobiibmjaaGreat
open Go.ChangeShapes Go.WideShapes Go.ChangeAt Go.RowKit
namespace Lo
open Ba
section
variable {w w1 uC uK : World} {G : Nat} {arr : Array Value} {ps : List (List OpD)}
end
def nmI (i : Nat) : List Int := List.replicate i (-1) ++ List.replicate (8 - i) 0
theorem nmI_len {i : Nat} (h : i ≤ 8) : (nmI i).length = 8 := by simp [nmI]; omega
theorem nmI_step {i : Nat} (h : i < 8) : (nmI i).set i (-1) = nmI (i + 1) := by
 rcases (show i = 0 ∨ i = 1 ∨ i = 2 ∨ i = 3 ∨ i = 4 ∨ i = 5 ∨ i = 6 ∨ i = 7 by omega) with rfl | rfl | rfl | rfl | rfl | rfl | rfl | rfl <;> rfl
end Lo
end Go.Proofs.YtblfimobiibmjaaGreat
namespace Go.Proofs.YtblfimobiibmjaaGreat
open Go.ChangeShapes Go.WideShapes Go.ChangeAt Go.RowKit
namespace Lo
open Ba
def runF (sc : Sh.Sc) : Lm := stepsF sc.pl.length (newS sc)
theorem steps_succ : ∀ (n : Nat) (s : Lm), stepsF (n + 1) s = stepF (stepsF n s)
 | 0, _ => rfl
 | n + 1, s => steps_succ n (stepF s)
theorem step_end {s : Lm} (h : verd s ≠ 0) : stepF s = s := by
 unfold stepF
 rw [if_pos h]
theorem steps_end {s : Lm} (h : verd s ≠ 0) : ∀ n, stepsF n s = s
 | 0 => rfl
 | n + 1 => by rw [steps_succ, steps_end h n, step_end h]
theorem Inv.end_ {sc : Sh.Sc} {n : Nat} {s : Lm} (i : Inv sc n s) (h : verd s = 0) : n < sc.pl.length := by
 have hpl : s.p.length ≠ 0 := fun z => by
  unfold verd at h
  rw [if_pos z] at h
  split at h
  ·omega
  ·split at h <;> omega
 rw [i.p, List.length_drop] at hpl
 omega
theorem Inv.steps {sc : Sh.Sc} (hs : Sh.schk sc = 0) : ∀ n, ∃ k, k ≤ n ∧ Inv sc k (stepsF n (newS sc)) ∧ (verd (stepsF n (newS sc)) = 0 → k = n)
 | 0 => ⟨0, Nat.le_refl _, Inv.new hs, fun _ => rfl⟩
 | n + 1 => by
   obtain ⟨k, hk, i, he⟩ := Inv.steps hs n
   rw [steps_succ]
   by_cases hv : verd (stepsF n (newS sc)) = 0
   ·obtain rfl := he hv
    exact ⟨k + 1, Nat.le_refl _, i.step hs hv, fun _ => rfl⟩
   ·rw [step_end hv]
    exact ⟨k, by omega, i, fun h => absurd h hv⟩
theorem run_over {sc : Sh.Sc} (hs : Sh.schk sc = 0) : verd (runF sc) ≠ 0 := by
 intro h
 obtain ⟨k, -, i, he⟩ := Inv.steps hs sc.pl.length
 have := he h
 have := i.end_ h
 omega
end Lo
end Go.Proofs.YtblfimobiibmjaaGreat
namespace Go.Proofs.YtblfimobiibmjaaGreat
open Go.ChangeShapes Go.WideShapes Go.ChangeAt Go.RowKit
namespace Rlo
open Ba Lo
theorem rcs_at (q : Hd) (pa : Option Addr) (n pc C B : Nat) (oa : Option Addr) (cn oc : Nat) (nm : List Int) (ta : Option Addr) (tn tc : Nat) (pk : Bool) {k : Nat} (hk : k < 8) : (rcs q pa n pc C B oa cn oc nm ta tn tc pk)[8 + k]? = some (.int .i64 (nth nm k)) := by
 rcases (show k = 0 ∨ k = 1 ∨ k = 2 ∨ k = 3 ∨ k = 4 ∨ k = 5 ∨ k = 6 ∨ k = 7 by omega) with rfl | rfl | rfl | rfl | rfl | rfl | rfl | rfl <;> rfl
theorem at_lt {w : World} {oa : Option Addr} {l : List Int} (h : At w oa l) (h0 : 0 < l.length) : ∀ a, oa = some a → a.block < w.heap.size := by
 intro a e
 obtain ⟨b, off, e2, hc⟩ := h 0 h0
 rw [e] at e2
 cases e2
 exact World.block_lt_of_cell? w _ hc
theorem ni0 : NI (List.replicate 8 (-1)) 0 := by
 refine ⟨rfl, ?_, ?_, ?_⟩
 ·intro i hi
  rcases (show i = 0 ∨ i = 1 ∨ i = 2 ∨ i = 3 ∨ i = 4 ∨ i = 5 ∨ i = 6 ∨ i = 7 by omega) with rfl | rfl | rfl | rfl | rfl | rfl | rfl | rfl <;> decide
 ·intro i hi
  rcases (show i = 0 ∨ i = 1 ∨ i = 2 ∨ i = 3 ∨ i = 4 ∨ i = 5 ∨ i = 6 ∨ i = 7 by omega) with rfl | rfl | rfl | rfl | rfl | rfl | rfl | rfl <;> decide
 ·intro i j hi hj h0 _
  exfalso
  rcases (show i = 0 ∨ i = 1 ∨ i = 2 ∨ i = 3 ∨ i = 4 ∨ i = 5 ∨ i = 6 ∨ i = 7 by omega) with rfl | rfl | rfl | rfl | rfl | rfl | rfl | rfl <;> revert h0 <;> decide
theorem rl_rx {w0 wr : World} {T M : Int} {ps : List (List OpD)} {pl dr : List Int} {pa la da : Option Addr} {pc lc dc N C B L : Nat}
 (hL : wr.heap[L]? = some (.cells (rcs ⟨T, M, la, pl.length, lc, da, dr.length, dc⟩ pa ps.length pc C B none 0 0 (nmI 8) none 0 0 false) 114 (0, 0))) (hB : wr.heap[B]? = some (.cells #[.slice none 0 0] 158 (0, 0))) (cu : Pk.RCur wr C N pl dr) (o1 : N ≤ C) (o2 : C < B) (o3 : B < L)
 (b0 : Below w0.heap.size w0 wr) (hN : w0.heap.size ≤ N) (hp : Sh.PAt w0 pa ps) :
 ∃ col, RX wr col L N C B (fun k => k = B) ⟨T, M, la, pl.length, lc, da, dr.length, dc⟩ pa pc none 0 [] (fun _ _ => False) [] none 0 ⟨ps, pl, dr, [], List.replicate 8 none, List.replicate 8 (-1), 0, [], false⟩ ∧ ∀ x, N ≤ x → x < C → col x = 7 := by
 refine ⟨fun x => if x = L then 0 else if x = C then 1 else if x = B then 2 else if x < N then 6 else 7, ⟨hL, ⟨w0, hN, b0, hp⟩, cu, o1, ⟨none, 0, hB, World.ownsRow_nil _ _ _ _, rfl, fun g e => by simp [Value.ownBlock] at e, fun k (e : k = B) => by rw [e]; exact heap_lt hB, by simp⟩, World.ownsRow_nil _ _ _ _, ?_, ?_, rfl, ?_, World.ownsRow_nil _ _ _ _, ?_, ?_, ?_, ?_, ?_, ?_, ?_⟩, ?_⟩
 ·exact ⟨fun i o hi => by simp at hi, rfl, fun i B1 hi => by simp at hi, fun i hi => by simp at hi, fun _ _ _ _ hf => hf.elim, fun _ _ _ hf => hf, fun _ _ hf => hf.elim⟩
 ·exact ni0
 ·rfl
 ·simp
 ·show (if C = L then 0 else if C = C then 1 else if C = B then 2 else if C < N then 6 else 7) = 1
  rw [if_neg (by omega), if_pos rfl]
 ·intro x (e : x = B)
  show (if x = L then 0 else if x = C then 1 else if x = B then 2 else if x < N then 6 else 7) = 2
  rw [if_neg (by omega), if_neg (by omega), if_pos e]
 ·intro g e
  simp [Value.ownBlock] at e
 ·intro _ _ hf
  exact hf.elim
 ·intro g e
  simp [Value.ownBlock] at e
 ·intro x hx
  show (if x = L then 0 else if x = C then 1 else if x = B then 2 else if x < N then 6 else 7) = 6
  rw [if_neg (by omega), if_neg (by omega), if_neg (by omega), if_pos hx]
 ·intro x h1 h2
  show (if x = L then 0 else if x = C then 1 else if x = B then 2 else if x < N then 6 else 7) = 7
  rw [if_neg (by omega), if_neg (by omega), if_neg (by omega), if_neg (by omega)]
set_option maxRecDepth 100000 in
set_option maxHeartbeats 1600000 in
theorem rlnew_yes (T M : Int) (ps : List (List OpD)) (pl dr : List Int) (pa la da : Option Addr) (pc lc dc N : Nat) (w0 w : World) (hS0 : Sh.SAt w0 ⟨T, M, ps, pl, dr⟩ pa la da) (b0 : Below w0.heap.size w0 w) (hN : w0.heap.size ≤ N) (hN2 : N ≤ w.heap.size) (hx : Sh.schk ⟨T, M, ps, pl, dr⟩ = 0) :
 Calls Tryz.prog 59 #[.agg #[.int .i64 T, .int .i64 M, .slice pa ps.length pc, .slice la pl.length lc, .slice da dr.length dc]] w fun r w' => ∃ L col, r = .returned (.tuple #[.pointer (some ⟨L, 0, none⟩), .int .i64 0]) ∧ RW w' col L N (newS ⟨T, M, ps, pl, dr⟩) ∧ (∀ x, N ≤ x → x < w.heap.size → col x = 7) ∧ w.heap.size ≤ L ∧ Below w.heap.size w w' := by
 obtain ⟨q1, q2, q3, q4, q5, q6, q7⟩ := schk_ok hx
 simp only at q1 q2 q3 q4 q5 q6 q7
 have hS := hS0.below b0
 have CK := hide (Sh.rscheck_any T M ps pl dr pa la da pc lc dc (w.alloc (.cells #[.int .i64 T, .int .i64 M, .slice pa ps.length pc, .slice la pl.length lc, .slice da dr.length dc] 69)) (hS.below (below_alloc _ _)))
 rw [hx] at CK
 have NE : Pk.ne pl dr = 0 := Pk.ne_0 (by omega) (by omega) ((Pk.ab_iff _ _ _).2 q6) ((Pk.ab_iff _ _ _).2 q7)
 have PN := hide (fun u (hb : Below w.heap.size w u) => Pk.rnew_any la da pl dr lc dc N u (fun h0 a e => Nat.lt_of_lt_of_le (at_lt hS0.pl h0 a e) hN) (fun h0 a e => Nat.lt_of_lt_of_le (at_lt hS0.dr h0 a e) hN) (hS.pl.below hb) (hS.dr.below hb) hS0.h2 hS0.h3)
 have HS0 := hide hS0
 have B0 := hide b0
 have HNE := hide NE
 clear hS hS0 b0 NE
 go_enter Tryz.func59, Tryz.ntmps59
 go_wp2_with fail
 refine CK.out.mono ?_
 rintro r w1 ⟨rfl, b1⟩
 have E1 := hide (heap_below (heap_new w (.cells #[.int .i64 T, .int .i64 M, .slice pa ps.length pc, .slice la pl.length lc, .slice da dr.length dc] 69)) b1)
 have B1 := hide (btr (below_alloc w (.cells #[.int .i64 T, .int .i64 M, .slice pa ps.length pc, .slice la pl.length lc, .slice da dr.length dc] 69)) b1)
 have c3 : w1.cell? ⟨w.heap.size, 3, none⟩ = some (.slice la pl.length lc) := cell_of E1.out 3
 have c4 : w1.cell? ⟨w.heap.size, 4, none⟩ = some (.slice da dr.length dc) := cell_of E1.out 4
 have PN1 := hide (PN.out w1 B1.out)
 clear b1 CK PN
 go_wp2_with fail
 refine PN1.out.mono ?_
 rintro r w2 (⟨e, -, -⟩ | ⟨-, rfl, cu2, b2⟩)
 ·exact absurd HNE.out e
 have E2 := hide (heap_below E1.out b2)
 have B2 := hide (btr B1.out b2)
 have CU2 := hide cu2
 have d0 : w2.cell? ⟨w.heap.size, 0, none⟩ = some (.int .i64 T) := cell_of E2.out 0
 have d1 : w2.cell? ⟨w.heap.size, 1, none⟩ = some (.int .i64 M) := cell_of E2.out 1
 have d2 : w2.cell? ⟨w.heap.size, 2, none⟩ = some (.slice pa ps.length pc) := cell_of E2.out 2
 have d3 : w2.cell? ⟨w.heap.size, 3, none⟩ = some (.slice la pl.length lc) := cell_of E2.out 3
 have d4 : w2.cell? ⟨w.heap.size, 4, none⟩ = some (.slice da dr.length dc) := cell_of E2.out 4
 have s1 := B1.out.size
 have s2 : w1.heap.size < w2.heap.size := rcur_lt cu2
 clear b2 cu2 PN1 c3 c4
 have VL := hide (En.heap_new2 w2 (.cells #[.slice none 0 0] 158) (.cells #[.int .i64 T, .int .i64 M, .slice pa ps.length pc, .slice la pl.length lc, .slice da dr.length dc, .pointer (some ⟨w1.heap.size, 0, none⟩), .pointer (some ⟨w2.heap.size, 0, none⟩), .slice none 0 0, .int .i64 0, .int .i64 0, .int .i64 0, .int .i64 0, .int .i64 0, .int .i64 0, .int .i64 0, .int .i64 0, .slice none 0 0, .bool false] 114))
 have VB := hide (heap_below (heap_new w2 (.cells #[.slice none 0 0] 158)) (below_alloc _ (.cells #[.int .i64 T, .int .i64 M, .slice pa ps.length pc, .slice la pl.length lc, .slice da dr.length dc, .pointer (some ⟨w1.heap.size, 0, none⟩), .pointer (some ⟨w2.heap.size, 0, none⟩), .slice none 0 0, .int .i64 0, .int .i64 0, .int .i64 0, .int .i64 0, .int .i64 0, .int .i64 0, .int .i64 0, .int .i64 0, .slice none 0 0, .bool false] 114)))
 have BF := hide (btr (below_alloc w2 (.cells #[.slice none 0 0] 158)) (below_alloc _ (.cells #[.int .i64 T, .int .i64 M, .slice pa ps.length pc, .slice la pl.length lc, .slice da dr.length dc, .pointer (some ⟨w1.heap.size, 0, none⟩), .pointer (some ⟨w2.heap.size, 0, none⟩), .slice none 0 0, .int .i64 0, .int .i64 0, .int .i64 0, .int .i64 0, .int .i64 0, .int .i64 0, .int .i64 0, .int .i64 0, .slice none 0 0, .bool false] 114)))
 go_wp2_with fail
 have o3 : w2.heap.size < w2.heap.size + 1 := by omega
 have o4 := heap_lt VL.out
 clear d0 d1 d2 d3 d4
 generalize (w2.alloc (.cells #[.slice none 0 0] 158)).alloc (.cells #[.int .i64 T, .int .i64 M, .slice pa ps.length pc, .slice la pl.length lc, .slice da dr.length dc, .pointer (some ⟨w1.heap.size, 0, none⟩), .pointer (some ⟨w2.heap.size, 0, none⟩), .slice none 0 0, .int .i64 0, .int .i64 0, .int .i64 0, .int .i64 0, .int .i64 0, .int .i64 0, .int .i64 0, .int .i64 0, .slice none 0 0, .bool false] 114) = w3 at *
 generalize w2.heap.size + 1 = L at *
 have hwL : w.heap.size ≤ L := by omega
 go_loopw [8] (fun iv wr => ∃ i : Nat, i ≤ 8 ∧ iv = .int .i64 i ∧ wr.heap[L]? = some (.cells (rcs ⟨T, M, la, pl.length, lc, da, dr.length, dc⟩ pa ps.length pc w1.heap.size w2.heap.size none 0 0 (nmI i) none 0 0 false) 114 (0, 0)) ∧ KB L w3 wr) (fun iv _ => 8 - (intOf iv).toNat)
 case atStart => exact ⟨0, by omega, rfl, VL.out.trans rfl, KB.refl _ _⟩
 case round =>
  obtain ⟨i, hi, rfl, hlr, hkr⟩ := hrel
  have HLR := hide hlr
  have HKR := hide hkr
  clear hlr hkr
  by_cases hlt : i < 8
  ·have hlt' : (i : Int) < 8 := by omega
   have hi0 : (0 : Int) ≤ (i : Int) := by omega
   have x0 : wr.cell? ⟨L, 8 + i, none⟩ = some (.int .i64 (nth (nmI i) i)) := (cell_of HLR.out (8 + i)).trans (rcs_at _ _ _ _ _ _ _ _ _ _ _ _ _ _ hlt)
   have xf : wr.frozen? ⟨L, 8 + i, none⟩ = false := frozen_of HLR.out (8 + i)
   have NX : Hid ((wr.setCell ⟨L, 8 + i, none⟩ (.int .i64 (-1))).heap[L]? = some (.cells (rcs ⟨T, M, la, pl.length, lc, da, dr.length, dc⟩ pa ps.length pc w1.heap.size w2.heap.size none 0 0 (nmI (i + 1)) none 0 0 false) 114 (0, 0))) := by
    show _ = _
    rw [Ba.heap_setCell_same HLR.out, rcs_num _ _ _ _ _ _ _ _ _ _ _ _ _ _ _ _ (nmI_len hi) hlt, nmI_step hlt]
   have KX := hide (HKR.out.setCell (8 + i) (.int .i64 (-1)))
   generalize nth (nmI i) i = z at x0
   go_wp2_with fail
   go_roundw
   case rel => exact ⟨i + 1, by omega, by go_num, NX.out, KX.out⟩
   case measure => simp [intOf]; omega
  ·have hlt' : decide ((i : Int) < 8) = false := decide_eq_false (by omega)
   have HL8 : Hid (wr.heap[L]? = some (.cells (rcs ⟨T, M, la, pl.length, lc, da, dr.length, dc⟩ pa ps.length pc w1.heap.size w2.heap.size none 0 0 (nmI 8) none 0 0 false) 114 (0, 0))) := by
    have := HLR.out
    have e : i = 8 := by omega
    rw [e] at this
    exact this
   have BW : Hid (Below w.heap.size w wr) := below_kb (btr B2.out BF.out) HKR.out hwL (btr B2.out BF.out).size
   have hB := HKR.out.heap VB.out (by omega)
   have hcu := (CU2.out.below BF.out).kb HKR.out (by omega) (by omega)
   have b00 : Below w0.heap.size w0 wr := ⟨BW.out.os.trans B0.out.os, BW.out.tape.trans B0.out.tape, BW.out.output.trans B0.out.output, Nat.le_trans B0.out.size BW.out.size, fun x hx => (BW.out.block x (Nat.lt_of_lt_of_le hx B0.out.size)).trans (B0.out.block x hx)⟩
   obtain ⟨col, hrx, h7⟩ := rl_rx HL8.out hB hcu (by omega) s2 o3 b00 hN HS0.out.ps
   have HRX := hide hrx
   have H7 := hide h7
   have SP := hide (Cr.rspawn_any w2.heap.size _ [] 0 wr hrx.cr)
   have y6 := cell_of hrx.hp 6
   simp [rcs] at y6
   clear hrx h7 hB hcu b00 HLR HKR HL8 VL VB
   go_wp2_with fail
   refine SP.out.mono ?_
   rintro r w5 ⟨rfl, p5⟩
   obtain ⟨FB5, col5, h5, t5⟩ := HRX.out.crew p5
   have H5 := hide h5
   have T5 := hide t5
   clear h5 t5 p5 SP y6
   go_wp2_with fail
   go_ret2
   have c7 : ∀ x, x < w.heap.size → 6 ≤ col x := fun x hx => by
    rcases Nat.lt_or_ge x N with q | q
    ·rw [HRX.out.c6 x q]
     omega
    ·rw [H7.out x q (by omega)]
     omega
   refine ⟨L, col5, rfl, H5.out.lw, fun x h1 h2 => ?_, hwL, ⟨T5.out.os.trans BW.out.os, T5.out.tape.trans BW.out.tape, T5.out.output.trans BW.out.output, Nat.le_trans BW.out.size T5.out.size, fun x hx => (T5.out.block x (Nat.lt_of_lt_of_le hx BW.out.size) (c7 x hx)).trans (BW.out.block x hx)⟩⟩
   exact (T5.out.old x (Nat.lt_of_lt_of_le h2 BW.out.size) (c7 x h2)).trans (H7.out x h1 (by omega))
theorem size_ran : (Tryz.prog.info? 60).map (·.size) = some 2 := by kernel_rfl
theorem loadVar_ran {w : World} {b : Nat} {c : Array Value} {t : TypeId} (h : w.heap[b]? = some (.cells c t (0, 0))) (hc : c.size = 2) : (loadVar 60 ⟨b, 0, none⟩).run Tryz.prog w = .ok (.agg c) w :=
 run_loadVar_row w b t _ _ _ _ h Tryz.underlying60 rfl (by rw [size_ran, hc])
end Rlo
end Go.Proofs.YtblfimobiibmjaaGreat
namespace Go.Proofs.YtblfimobiibmjaaGreat
open Go.ChangeShapes Go.WideShapes Go.ChangeAt Go.RowKit
namespace Rlo
open Ba Lo
set_option maxRecDepth 100000 in
set_option maxHeartbeats 6400000 in
theorem rstep_opw (L N : Nat) (col : Nat → Nat) (s : Lm) (K k p q : Nat) (xs n : Int) (w : World) (h : RW w col L N s) (ok : Ok K s) (hK : K ≤ 90000) (hv : verd s = 0) (hl : 0 < s.p.length) (ht : 0 ≤ nth s.p 0) (hA : 0 < (Cr.abl s.cr).length) (hm : (Cr.abl s.cr).length ≤ 1000)
 (hw : whoN s = (k : Int)) (hx : s.cr[k]? = some ⟨p, q, xs⟩) (hpl : p < s.ps.length) (ho : De.chk (opOf s (k : Int)) n = 0) (hk9 : (opOf s (k : Int)).kind = 1 ∨ (opOf s (k : Int)).kind = 8) (R : Lm) (hR : R = doF { s with p := s.p.tail } (k : Int) (opOf s (k : Int))) :
 Calls Tryz.prog 60 #[.pointer (some ⟨L, 0, none⟩)] w fun r w' => r = .returned (.bool true) ∧ ∃ col', RW w' col' L N R ∧ Tq col col' w w' := by
 have VD := hide (rverdict_any L N col s w h)
 rw [hv] at VD
 have H := hide h
 have OK : Hid (Ok K { s with p := s.p.tail }) := ⟨ok.cb, ok.tn, ok.sm, ok.wl, ok.md, ok.dd⟩
 have HK9 := hide hk9
 have HR := hide hR
 have HO := hide ho
 have HL := hide (And.intro hl (And.intro ht (And.intro hA hm)))
 have HW := hide hw
 have HX := hide hx
 have k0 : ¬ ((k : Int) < 0) := by omega
 have hoe : opOf { s with p := s.p.tail } (k : Int) = opOf s (k : Int) := rfl
 have RO := hide (fun (c : Nat → Nat) (u : World) (z : RW u c L N { s with p := s.p.tail }) => rop_any L N c { s with p := s.p.tail } k p q xs u z hx hpl)
 rw [hoe] at RO
 generalize opOf s (k : Int) = o at *
 clear h ok hR ho hl ht hA hm hw hx hk9 hoe
 unfold opV at RO
 go_enter Tryz.func60, Tryz.ntmps60
 go_wp2_with fail
 refine VD.out.mono ?_
 rintro r w1 ⟨rfl, b1⟩
 obtain ⟨col1, h1, t1, -⟩ := H.out.below b1
 have T1 := hide t1
 have WH := hide (rwho_go L N col1 s w1 h1 HL.out.1 HL.out.2.1 HL.out.2.2.1 HL.out.2.2.2)
 rw [HW.out] at WH
 have H1 := hide h1
 clear b1 h1 t1 VD
 go_wp2_with fail
 refine WH.out.mono ?_
 rintro r w2 ⟨rfl, b2⟩
 obtain ⟨col2, h2, t2, -⟩ := H1.out.below b2
 obtain ⟨C, B, FB, hd, pa, pc, oa, oc0, bs, Fs, cs0, ta, tc, h2⟩ := h2
 have T2 := hide (T1.out.trans t2)
 have y5 := cell_of h2.hp 5
 simp [rcs] at y5
 have NX := hide (Pk.rnext_any C N s.p s.d w2 h2.cu h2.nc)
 have H2 := hide h2
 clear b2 h2 t2 WH
 go_wp2_with fail
 refine NX.out.mono ?_
 rintro r w3 ⟨rfl, cu3, kb3⟩
 obtain ⟨col3, h3, t3⟩ := H2.out.cursor cu3 kb3
 have T3 := hide (T2.out.trans t3)
 have RO3 := hide (RO.out col3 w3 h3.lw)
 have H3 := hide h3
 clear cu3 kb3 h3 t3 NX y5 RO H1 H2 T1 T2
 go_wp2_with fail
 refine RO3.out.mono ?_
 rintro r w4 ⟨oc, cc, rfl, ca4, nb4, b4⟩
 obtain ⟨kind, a, b, cs, df⟩ := o
 simp only at ca4 nb4 ⊢
 obtain ⟨col5, h5, t5, -⟩ := H3.out.below (btr b4 (below_alloc w4 (.cells #[.int .i64 kind, .int .i64 a, .int .i64 b, .slice oc cs.length cc, .bool df] 64)))
 have T5 := hide (T3.out.trans t5)
 have CA := hide (ca4.below (below_alloc w4 (.cells #[.int .i64 kind, .int .i64 a, .int .i64 b, .slice oc cs.length cc, .bool df] 64)))
 have NB := hide nb4
 have H5 := hide h5.lw
 clear ca4 nb4 b4 h5 t5 RO3 H3 T3 HL HW HX HO
 have hk9 := HK9.out
 simp only at hk9
 clear HK9
 rcases hk9 with rfl | rfl
 ·have CL := hide (other_spawn L N col5 { s with p := s.p.tail } K (k : Int) a b oc cs.length cc df _ H5.out OK.out (by omega))
  have RE : Hid (R = goS { s with p := s.p.tail, cr := Cr.spL s.cr a } ⟨1, (k : Int), -1, -1, a, Cr.spV s.cr a, false, false⟩) := by
   show _ = _
   rw [HR.out]
   rfl
  rw [← RE.out] at CL
  clear HR RE
  go_wp2_with fail
  refine CL.out.mono ?_
  rintro r w6 ⟨rfl, col6, h6, t6⟩
  have H6 := hide h6
  have T6 := hide (T5.out.trans t6)
  clear h6 t6 CL
  go_wp2_with fail
  go_ret
  exact ⟨rfl, col6, H6.out, T6.out⟩
 ·have CL := hide (other_write L N col5 { s with p := s.p.tail } K (k : Int) a b oc cs.length cc df _ H5.out OK.out (by omega))
  have RE : Hid (R = goS { s with p := s.p.tail } ⟨10, (k : Int), -1, -1, a, -1, false, false⟩) := by
   show _ = _
   rw [HR.out]
   rfl
  rw [← RE.out] at CL
  clear HR RE
  go_wp2_with fail
  refine CL.out.mono ?_
  rintro r w6 ⟨rfl, col6, h6, t6⟩
  have H6 := hide h6
  have T6 := hide (T5.out.trans t6)
  clear h6 t6 CL
  go_wp2_with fail
  go_ret
  exact ⟨rfl, col6, H6.out, T6.out⟩
theorem rstep_w (L N : Nat) (col : Nat → Nat) (sc : Sh.Sc) (n : Nat) (s : Lm) (w : World) (h : RW w col L N s) (hs : Sh.schk sc = 0) (i : Inv sc n s) (hv : verd s = 0) (ht : nth s.p 0 ≠ -1) (hk9 : (opOf s (whoN s)).kind = 1 ∨ (opOf s (whoN s)).kind = 8) :
 Calls Tryz.prog 60 #[.pointer (some ⟨L, 0, none⟩)] w fun r w' => r = .returned (.bool true) ∧ ∃ col', RW w' col' L N (stepF s) ∧ Tq col col' w w' := by
 have hn := i.n200 hs
 have hk := kn_le hn
 have ok := i.ok hs
 obtain ⟨h1, h2, h3, h4, h5, h6, h7⟩ := schk_ok hs
 have hpl : 0 < s.p.length := by
  rcases Nat.eq_zero_or_pos s.p.length with z | z
  ·exfalso
   unfold verd at hv
   rw [if_pos z] at hv
   split at hv
   ·omega
   ·split at hv <;> omega
  ·exact z
 have e : stepF s = doF { s with p := s.p.tail } (whoN s) (opOf s (whoN s)) := by
  unfold stepF
  rw [if_neg (by omega), if_neg ht]
 have ht0 : 0 ≤ nth s.p 0 := by
  have hm : nth s.p 0 ∈ sc.pl := by
   rw [nth_lt _ _ hpl]
   have hsub : ∀ x ∈ s.p, x ∈ sc.pl := fun x hx => by
    rw [i.p] at hx
    exact List.mem_of_mem_drop hx
   exact hsub _ (List.getElem_mem hpl)
  have := h6 _ hm
  omega
 obtain ⟨k, y, hwk, hky, hy0⟩ := who_ok hv ht0
 have hym := List.mem_of_getElem? hky
 have hyp := i.b.cp y hym
 have hyq := i.b.bw.cb y hym
 have hA : 0 < (Cr.abl s.cr).length := by
  apply abl_pos
  unfold Cr.hasS
  rw [List.any_eq_true]
  exact ⟨y, hym, by simp [hy0]⟩
 have hm : (Cr.abl s.cr).length ≤ 1000 := by
  have e1 : (Cr.abl s.cr).length ≤ s.cr.length := abl_len s.cr 0
  have e2 := i.b.cl
  omega
 rw [hwk] at e hk9
 obtain ⟨yp, yq, ys⟩ := y
 simp only at hyp hyq
 obtain ⟨p, rfl⟩ : ∃ p : Nat, yp = (p : Int) := ⟨yp.toNat, by omega⟩
 obtain ⟨q, rfl⟩ : ∃ q : Nat, yq = (q : Int) := ⟨yq.toNat, by omega⟩
 exact rstep_opw L N col s _ k p q ys sc.ps.length w h ok (by omega) hv hpl ht0 hA hm hwk hky (by rw [i.ps]; omega) (op_chk hs i _) hk9 _ e
set_option maxRecDepth 100000 in
set_option maxHeartbeats 1600000 in
theorem rlrun_w (T M : Int) (ps : List (List OpD)) (pl dr : List Int) (pa la da : Option Addr) (pc lc dc : Nat) (w : World) (hS : Sh.SAt w ⟨T, M, ps, pl, dr⟩ pa la da) (hx : Sh.schk ⟨T, M, ps, pl, dr⟩ = 0) (ST0 : ∀ (L N : Nat) (col : Nat → Nat) (n : Nat) (u : World), n ≤ pl.length → RW u col L N (stepsF n (newS ⟨T, M, ps, pl, dr⟩)) → Calls Tryz.prog 60 #[.pointer (some ⟨L, 0, none⟩)] u fun r w' => (∃ b, r = .returned (.bool b)) ∧ ∃ col', RW w' col' L N (stepsF (n + 1) (newS ⟨T, M, ps, pl, dr⟩)) ∧ Tq col col' u w') (R : Lm) (hR : runF ⟨T, M, ps, pl, dr⟩ = R) :
 Calls Tryz.prog 32 #[.agg #[.int .i64 T, .int .i64 M, .slice pa ps.length pc, .slice la pl.length lc, .slice da dr.length dc]] w fun r w' => ∃ ob d, r = .returned (.agg #[.slice ob R.tr.length d, .int .i64 (verd R)]) ∧ EsAt w' ob R.tr ∧ (R.tr.length ≤ d ∧ ∀ a, ob = some a → w.heap.size ≤ a.block) ∧ Below w.heap.size w w' := by
 have BB := btr (below_alloc w (.cells #[.int .i64 T, .int .i64 M, .slice pa ps.length pc, .slice la pl.length lc, .slice da dr.length dc] 69)) (below_alloc _ (.cells #[.slice none 0 0, .int .i64 0] 60))
 have NE := hide (rlnew_yes T M ps pl dr pa la da pc lc dc w.heap.size w _ hS BB (Nat.le_refl _) BB.size hx)
 have B0 := hide BB
 have R0 := hide (En.heap_new2 w (.cells #[.int .i64 T, .int .i64 M, .slice pa ps.length pc, .slice la pl.length lc, .slice da dr.length dc] 69) (.cells #[.slice none 0 0, .int .i64 0] 60))
 have S0 := hide (heap_below (heap_new w (.cells #[.int .i64 T, .int .i64 M, .slice pa ps.length pc, .slice la pl.length lc, .slice da dr.length dc] 69)) (below_alloc _ (.cells #[.slice none 0 0, .int .i64 0] 60)))
 have HR := hide hR
 have ST0 := hide ST0
 have hpl2 : pl.length ≤ 200 := (schk_ok hx).2.2.1
 have RO := hide (run_over hx)
 generalize hsc : (⟨T, M, ps, pl, dr⟩ : Sh.Sc) = sc at *
 have HPL : Hid (sc.pl.length = pl.length) := by show _ = _; rw [← hsc]
 clear hS hR BB hsc
 go_enter Tryz.func32, Tryz.ntmps32
 go_wp2_with fail
 refine NE.out.mono ?_
 rintro r w1 ⟨L, col, rfl, h1, h7, hLw, b1⟩
 have H1 := hide h1
 have B1 := hide (btr B0.out b1)
 have R1 := hide (heap_below R0.out b1)
 have S1 := hide (heap_below S0.out b1)
 have hs0 := heap_lt R0.out
 have C0 : Hid (col w.heap.size = 7) := h7 _ (Nat.le_refl _) (by omega)
 have C1 : Hid (col (w.heap.size + 1) = 7) := h7 _ (by omega) hs0
 have C6 : Hid (∀ x, x < w.heap.size → 6 ≤ col x) := fun x hx => by
  obtain ⟨C, B, FB, q, pa, pc, oa, oc, bs, Fs, cs, ta, tc, h⟩ := h1
  rw [h.c6 x hx]
  omega
 have hLne : L ≠ w.heap.size + 1 := by omega
 clear h1 h7 b1 NE hs0 hLw
 go_wp2_with fail
 go_loopw [5] (fun iv wr => ∃ (n : Nat) (cj : Nat → Nat), n ≤ pl.length + 1 ∧ iv = .int .i64 n ∧ RW wr cj L w.heap.size (stepsF n (newS sc)) ∧ Tq col cj w1 wr) (fun iv _ => pl.length + 1 - (intOf iv).toNat)
 case atStart => exact ⟨0, col, Nat.zero_le _, rfl, H1.out, Tq.refl _ _⟩
 case round =>
  obtain ⟨n, cj, hn, rfl, hlw, htr⟩ := hrel
  have HL := hide hlw
  have HT := hide htr
  have S2 := hide (htr.heap S1.out C0.out)
  have R2 := hide (htr.heap R1.out C1.out)
  have CJ : Hid (cj (w.heap.size + 1) = 7) := (htr.old _ (heap_lt R1.out) (by rw [C1.out]; omega)).trans C1.out
  have p3 : wr.cell? ⟨w.heap.size, 3, none⟩ = some (.slice la pl.length lc) := cell_of S2.out 3
  clear hlw htr H1
  by_cases hlt : n ≤ pl.length
  ·have hlt' : (n : Int) ≤ (pl.length : Int) := by omega
   have ST := hide (ST0.out L w.heap.size cj n wr hlt HL.out)
   go_wp2_with fail
   refine ST.out.mono ?_
   rintro r w3 ⟨⟨b, rfl⟩, c3, h3, t3⟩
   have H3 := hide h3
   have T3 := hide (HT.out.trans t3)
   clear h3 t3 ST
   go_wp2_with fail
   go_roundw
   case rel => exact ⟨n + 1, c3, by omega, by go_num, H3.out, T3.out⟩
   case measure => simp [intOf]; omega
  ·have hlt' : ¬ ((n : Int) ≤ (pl.length : Int)) := by omega
   have hRs : stepsF n (newS sc) = R := by
    have e : n = sc.pl.length + 1 := by rw [HPL.out]; omega
    rw [e, steps_succ]
    show stepF (runF sc) = R
    rw [Lo.step_end RO.out, HR.out]
   rw [hRs] at HL
   have VE := hide (fun u c (q : RW u c L w.heap.size R) => rverdict_any L w.heap.size c R u q)
   obtain ⟨C, B, FB, q, pa2, pc2, oa, oc, bs, Fs, cs, ta, tc, h2⟩ := HL.out
   have H2 := hide h2
   have BW : Hid (Below w.heap.size w wr) := ⟨HT.out.os.trans B1.out.os, HT.out.tape.trans B1.out.tape, HT.out.output.trans B1.out.output, Nat.le_trans B1.out.size HT.out.size, fun x hx => (HT.out.block x (Nat.lt_of_lt_of_le hx B1.out.size) (C6.out x hx)).trans (B1.out.block x hx)⟩
   have VE2 := hide (VE.out wr.drew cj h2.drew.lw)
   have y16 : wr.cell? ⟨L, 16, none⟩ = some (.slice ta R.tr.length tc) := cell_of h2.hp 16
   have L2 := hide h2.hp
   have OT := hide h2.tr
   generalize hV : verd R = V at VE2
   clear h2 VE HT hRs
   go_wp2_with fail
   go_region_held3 (fun w' => w'.cell? ⟨L, 16, none⟩ = some (.slice ta R.tr.length tc))
    (first | (go_keep; done) | (exact y16b) | (exact kset1 (kset1 y16b hLne) hLne))
    (first | (go_at_call 61; refine VE2.out.mono ?_; rintro r w6 ⟨rfl, b6⟩; have y16b : w6.cell? ⟨L, 16, none⟩ = some (.slice ta R.tr.length tc) := cell_of (heap_below L2.out (btr (bdrew1 wr) b6)) 16; have R6 := hide (heap_below R2.out (btr (bdrew1 wr) b6)); have r0 := cell_of R6.out 0; have r1 := cell_of R6.out 1; have f0 := frozen_of R6.out 0; have f1 := frozen_of R6.out 1; simp at r0 r1))
   have B6 := hide (btr BW.out (btr (bdrew1 wr) b6))
   obtain ⟨ob, d, eo, hE, hd, ho⟩ := own_es OT.out
   cases eo
   have K2 := ((KB.refl (w.heap.size + 1) w6).setCell 0 (.slice ta R.tr.length tc)).setCell 1 (.int .i64 V)
   go_wp2_with fail
   refine bodyPost_ret (En.results_row1 Tryz.results32 _ _ _ _ rfl (loadVar_ran ((Ba.heap_setCell_same (Ba.heap_setCell_same R6.out (i := 0) (.slice ta R.tr.length tc)) (i := 1) (.int .i64 V)).trans rfl) rfl)) rfl ⟨ta, tc, by (rw [hV]) <;> rfl, ?_, ⟨hd, ?_⟩, below_kb B6.out K2 (by omega) B6.out.size⟩
   ·have own2 := Cr.own_keep (w' := (w6.setCell ⟨w.heap.size + 1, 0, none⟩ (.slice ta R.tr.length tc)).setCell ⟨w.heap.size + 1, 1, none⟩ (.int .i64 V)) OT.out fun x e => by
     have hx := H2.out.blt e
     refine (K2.block x (Nat.lt_of_lt_of_le hx b6.size) (fun e2 => ?_)).trans ((btr (bdrew1 wr) b6).block x hx)
     have h5 := H2.out.c5 x e
     rw [e2, CJ.out] at h5
     omega
    obtain ⟨ob2, d2, eo2, hE2, -⟩ := own_es own2
    cases eo2
    exact hE2
   ·intro a e
    have e5 := H2.out.c5 a.block (Rp.own_addr OT.out a e)
    rcases Nat.lt_or_ge a.block w.heap.size with z | z
    ·rw [H2.out.c6 _ z] at e5
     omega
    ·exact z
end Rlo
end Go.Proofs.YtblfimobiibmjaaGreat
