import Derived.Test.YtblfimobiibmjabGreatZjAx14
import Derived.Deep.DeepCutAuto
import Derived.Deep.RegionWith
import Derived.Lib.Slices
import Derived.Deep.RegionHeld3
import Derived.SizedLaws
namespace Go.Proofs.YtblfimobiibmjabGreat
open Go.ChangeShapes Go.WideShapes Go.ChangeAt Go.RowKit
namespace Sh
open De Ba Re
end Sh
end Go.Proofs.YtblfimobiibmjabGreat
namespace Go.Proofs.YtblfimobiibmjabGreat
open Go.ChangeShapes Go.WideShapes Go.ChangeAt Go.RowKit
namespace Sh
open De Ba Re
end Sh
end Go.Proofs.YtblfimobiibmjabGreat
namespace Go.Proofs.YtblfimobiibmjabGreat
open Go.ChangeShapes Go.WideShapes Go.ChangeAt Go.RowKit
namespace Sh
open De Ba Re
end Sh
end Go.Proofs.YtblfimobiibmjabGreat
namespace Go.Proofs.YtblfimobiibmjabGreat
open Go.ChangeShapes Go.WideShapes Go.ChangeAt Go.RowKit
namespace Sh
open De Ba Re
end Sh
end Go.Proofs.YtblfimobiibmjabGreat
namespace Go.Proofs.YtblfimobiibmjabGreat
open Go.ChangeShapes Go.WideShapes Go.ChangeAt Go.RowKit
namespace Sh
open De Ba Re
end Sh
end Go.Proofs.YtblfimobiibmjabGreat
namespace Go.Proofs.YtblfimobiibmjabGreat
open Go.ChangeShapes Go.WideShapes Go.ChangeAt Go.RowKit
namespace Sh
open De Ba Re
end Sh
end Go.Proofs.YtblfimobiibmjabGreat
namespace Go.Proofs.YtblfimobiibmjabGreat
open Go.ChangeShapes Go.WideShapes Go.ChangeAt Go.RowKit
namespace Sh
open De Ba Re
end Sh
end Go.Proofs.YtblfimobiibmjabGreat
namespace Go.Proofs.YtblfimobiibmjabGreat
open Go.ChangeShapes Go.WideShapes Go.ChangeAt Go.RowKit
namespace Sh
open De Ba Re
end Sh
end Go.Proofs.YtblfimobiibmjabGreat
namespace Go.Proofs.YtblfimobiibmjabGreat
open Go.ChangeShapes Go.WideShapes Go.ChangeAt Go.RowKit
namespace Sh
open De Ba Re
end Sh
end Go.Proofs.YtblfimobiibmjabGreat
namespace Go.Proofs.YtblfimobiibmjabGreat
open Go.ChangeShapes Go.WideShapes Go.ChangeAt Go.RowKit
namespace Sh
open De Ba Re
end Sh
end Go.Proofs.YtblfimobiibmjabGreat
namespace Go.Proofs.YtblfimobiibmjabGreat
open Go.ChangeShapes Go.WideShapes Go.ChangeAt Go.RowKit
namespace Sh
open De Ba Re
end Sh
end Go.Proofs.YtblfimobiibmjabGreat
namespace Go.Proofs.YtblfimobiibmjabGreat
open Go.ChangeShapes Go.WideShapes Go.ChangeAt Go.RowKit
namespace Sh
open De Ba Re
section
variable {H : Type} {enc : TypeId × Value → H} {w : World}
end
end Sh
end Go.Proofs.YtblfimobiibmjabGreat
namespace Go.Proofs.YtblfimobiibmjabGreat
open Go.ChangeShapes Go.WideShapes Go.ChangeAt Go.RowKit
namespace Sh
open De Ba Re
end Sh
end Go.Proofs.YtblfimobiibmjabGreat
namespace Go.Proofs.YtblfimobiibmjabGreat
open Go.ChangeShapes Go.WideShapes Go.ChangeAt Go.RowKit
namespace Sh
open De Ba Re
end Sh
end Go.Proofs.YtblfimobiibmjabGreat
namespace Go.Proofs.YtblfimobiibmjabGreat
open Go.ChangeShapes Go.WideShapes Go.ChangeAt Go.RowKit
namespace De
open Ba Re
theorem row_1 (w : World) :
 Calls Tryz.prog 82 #[.int .i64 1] w fun r w' => r = .returned (.string (bs [112, 46])) ∧ Below w.heap.size w w' := by
 show Calls Tryz.prog 82 #[.int .i64 1] w fun r w' => r = .returned (.string ⟨#[112, 46]⟩) ∧ Below w.heap.size w w'
 go_enter Tryz.func82, Tryz.ntmps82
 go_wp2
 go_ret
 exact ⟨rfl, below_alloc _ _⟩
theorem row_2 (w : World) :
 Calls Tryz.prog 82 #[.int .i64 2] w fun r w' => r = .returned (.string (bs [99, 109])) ∧ Below w.heap.size w w' := by
 show Calls Tryz.prog 82 #[.int .i64 2] w fun r w' => r = .returned (.string ⟨#[99, 109]⟩) ∧ Below w.heap.size w w'
 go_enter Tryz.func82, Tryz.ntmps82
 go_wp2
 go_ret
 exact ⟨rfl, below_alloc _ _⟩
theorem row_3 (w : World) :
 Calls Tryz.prog 82 #[.int .i64 3] w fun r w' => r = .returned (.string (bs [99, 118])) ∧ Below w.heap.size w w' := by
 show Calls Tryz.prog 82 #[.int .i64 3] w fun r w' => r = .returned (.string ⟨#[99, 118]⟩) ∧ Below w.heap.size w w'
 go_enter Tryz.func82, Tryz.ntmps82
 go_wp2
 go_ret
 exact ⟨rfl, below_alloc _ _⟩
theorem row_4 (w : World) :
 Calls Tryz.prog 82 #[.int .i64 4] w fun r w' => r = .returned (.string (bs [99, 46])) ∧ Below w.heap.size w w' := by
 show Calls Tryz.prog 82 #[.int .i64 4] w fun r w' => r = .returned (.string ⟨#[99, 46]⟩) ∧ Below w.heap.size w w'
 go_enter Tryz.func82, Tryz.ntmps82
 go_wp2
 go_ret
 exact ⟨rfl, below_alloc _ _⟩
theorem row_5 (w : World) :
 Calls Tryz.prog 82 #[.int .i64 5] w fun r w' => r = .returned (.string (bs [99, 46])) ∧ Below w.heap.size w w' := by
 show Calls Tryz.prog 82 #[.int .i64 5] w fun r w' => r = .returned (.string ⟨#[99, 46]⟩) ∧ Below w.heap.size w w'
 go_enter Tryz.func82, Tryz.ntmps82
 go_wp2
 go_ret
 exact ⟨rfl, below_alloc _ _⟩
theorem row_6 (w : World) :
 Calls Tryz.prog 82 #[.int .i64 6] w fun r w' => r = .returned (.string (bs [46, 46])) ∧ Below w.heap.size w w' := by
 show Calls Tryz.prog 82 #[.int .i64 6] w fun r w' => r = .returned (.string ⟨#[46, 46]⟩) ∧ Below w.heap.size w w'
 go_enter Tryz.func82, Tryz.ntmps82
 go_wp2
 go_ret
 exact ⟨rfl, below_alloc _ _⟩
theorem row_7 (w : World) :
 Calls Tryz.prog 82 #[.int .i64 7] w fun r w' => r = .returned (.string (bs [120, 46])) ∧ Below w.heap.size w w' := by
 show Calls Tryz.prog 82 #[.int .i64 7] w fun r w' => r = .returned (.string ⟨#[120, 46]⟩) ∧ Below w.heap.size w w'
 go_enter Tryz.func82, Tryz.ntmps82
 go_wp2
 go_ret
 exact ⟨rfl, below_alloc _ _⟩
theorem row_8 (w : World) :
 Calls Tryz.prog 82 #[.int .i64 8] w fun r w' => r = .returned (.string (bs [120, 46])) ∧ Below w.heap.size w w' := by
 show Calls Tryz.prog 82 #[.int .i64 8] w fun r w' => r = .returned (.string ⟨#[120, 46]⟩) ∧ Below w.heap.size w w'
 go_enter Tryz.func82, Tryz.ntmps82
 go_wp2
 go_ret
 exact ⟨rfl, below_alloc _ _⟩
theorem row_9 (w : World) :
 Calls Tryz.prog 82 #[.int .i64 9] w fun r w' => r = .returned (.string (bs [46, 46])) ∧ Below w.heap.size w w' := by
 show Calls Tryz.prog 82 #[.int .i64 9] w fun r w' => r = .returned (.string ⟨#[46, 46]⟩) ∧ Below w.heap.size w w'
 go_enter Tryz.func82, Tryz.ntmps82
 go_wp2
 go_ret
 exact ⟨rfl, below_alloc _ _⟩
theorem within_p (n p : Int) (w : World) :
 Calls Tryz.prog 83 #[.int .i64 n, .int .u8 112, .int .i64 p] w fun r w' => r = .returned (.bool (decide (0 ≤ n) && decide (n < p))) ∧ w' = w := by
 by_cases h1 : 0 ≤ n
 ·have e : (decide (0 ≤ n) && decide (n < p)) = decide (n < p) := by simp [h1]
  rw [e]
  clear e
  go_enter Tryz.func83, Tryz.ntmps83
  go_wp2
  go_ret
  exact ⟨rfl, rfl⟩
 ·have e : (decide (0 ≤ n) && decide (n < p)) = false := by simp [h1]
  rw [e]
  clear e
  go_enter Tryz.func83, Tryz.ntmps83
  go_wp2
  go_ret
  exact ⟨rfl, rfl⟩
theorem within_c (n p : Int) (w : World) :
 Calls Tryz.prog 83 #[.int .i64 n, .int .u8 99, .int .i64 p] w fun r w' => r = .returned (.bool (decide (0 ≤ n) && decide (n < 8))) ∧ w' = w := by
 by_cases h1 : 0 ≤ n
 ·have e : (decide (0 ≤ n) && decide (n < 8)) = decide (n < 8) := by simp [h1]
  rw [e]
  clear e
  go_enter Tryz.func83, Tryz.ntmps83
  go_wp2
  go_ret
  exact ⟨rfl, rfl⟩
 ·have e : (decide (0 ≤ n) && decide (n < 8)) = false := by simp [h1]
  rw [e]
  clear e
  go_enter Tryz.func83, Tryz.ntmps83
  go_wp2
  go_ret
  exact ⟨rfl, rfl⟩
theorem within_x (n p : Int) (w : World) :
 Calls Tryz.prog 83 #[.int .i64 n, .int .u8 120, .int .i64 p] w fun r w' => r = .returned (.bool (decide (0 ≤ n) && decide (n < 8))) ∧ w' = w := by
 by_cases h1 : 0 ≤ n
 ·have e : (decide (0 ≤ n) && decide (n < 8)) = decide (n < 8) := by simp [h1]
  rw [e]
  clear e
  go_enter Tryz.func83, Tryz.ntmps83
  go_wp2
  go_ret
  exact ⟨rfl, rfl⟩
 ·have e : (decide (0 ≤ n) && decide (n < 8)) = false := by simp [h1]
  rw [e]
  clear e
  go_enter Tryz.func83, Tryz.ntmps83
  go_wp2
  go_ret
  exact ⟨rfl, rfl⟩
theorem within_m (n p : Int) (w : World) :
 Calls Tryz.prog 83 #[.int .i64 n, .int .u8 109, .int .i64 p] w fun r w' => r = .returned (.bool (decide (0 ≤ n) && decide (n ≤ 4))) ∧ w' = w := by
 by_cases h1 : 0 ≤ n
 ·have e : (decide (0 ≤ n) && decide (n ≤ 4)) = decide (n ≤ 4) := by simp [h1]
  rw [e]
  clear e
  go_enter Tryz.func83, Tryz.ntmps83
  go_wp2
  go_ret
  exact ⟨rfl, rfl⟩
 ·have e : (decide (0 ≤ n) && decide (n ≤ 4)) = false := by simp [h1]
  rw [e]
  clear e
  go_enter Tryz.func83, Tryz.ntmps83
  go_wp2
  go_ret
  exact ⟨rfl, rfl⟩
theorem within_v (n p : Int) (w : World) :
 Calls Tryz.prog 83 #[.int .i64 n, .int .u8 118, .int .i64 p] w fun r w' => r = .returned (.bool (decide (0 ≤ n) && decide (n ≤ 99))) ∧ w' = w := by
 by_cases h1 : 0 ≤ n
 ·have e : (decide (0 ≤ n) && decide (n ≤ 99)) = decide (n ≤ 99) := by simp [h1]
  rw [e]
  clear e
  go_enter Tryz.func83, Tryz.ntmps83
  go_wp2
  go_ret
  exact ⟨rfl, rfl⟩
 ·have e : (decide (0 ≤ n) && decide (n ≤ 99)) = false := by simp [h1]
  rw [e]
  clear e
  go_enter Tryz.func83, Tryz.ntmps83
  go_wp2
  go_ret
  exact ⟨rfl, rfl⟩
theorem within_d (n p : Int) (w : World) :
 Calls Tryz.prog 83 #[.int .i64 n, .int .u8 46, .int .i64 p] w fun r w' => r = .returned (.bool (n == 0)) ∧ w' = w := by
 go_enter Tryz.func83, Tryz.ntmps83
 go_wp2
 go_ret
 exact ⟨rfl, rfl⟩
def sA (k : Int) : Nat := if k = 1 then 112 else if k = 2 ∨ k = 3 ∨ k = 4 ∨ k = 5 then 99 else if k = 7 ∨ k = 8 then 120 else 46
def sB (k : Int) : Nat := if k = 2 then 109 else if k = 3 then 118 else 46
theorem row_any (k : Int) (h1 : 1 ≤ k) (h2 : k ≤ 9) (w : World) :
 Calls Tryz.prog 82 #[.int .i64 k] w fun r w' => r = .returned (.string (bs [sA k, sB k])) ∧ Below w.heap.size w w' := by
 rcases kind_cases h1 h2 with rfl | rfl | rfl | rfl | rfl | rfl | rfl | rfl | rfl
 ·exact row_1 w
 ·exact row_2 w
 ·exact row_3 w
 ·exact row_4 w
 ·exact row_5 w
 ·exact row_6 w
 ·exact row_7 w
 ·exact row_8 w
 ·exact row_9 w
theorem withinA (k n p : Int) (h1 : 1 ≤ k) (h2 : k ≤ 9) (w : World) :
 Calls Tryz.prog 83 #[.int .i64 n, .int .u8 (sA k : Int), .int .i64 p] w fun r w' => r = .returned (.bool (upB n (mA k p))) ∧ w' = w := by
 rcases kind_cases h1 h2 with rfl | rfl | rfl | rfl | rfl | rfl | rfl | rfl | rfl
 ·have e : upB n (mA 1 p) = (decide (0 ≤ n) && decide (n < p)) := by
   simp only [upB, mA, if_true]
   congr 1
   exact decide_eq_decide.2 (by omega)
  rw [e]
  exact within_p n p w
 ·have e : upB n (mA 2 p) = (decide (0 ≤ n) && decide (n < 8)) := by
   have : mA 2 p = 7 := rfl
   simp only [upB, this]
   congr 1
   exact decide_eq_decide.2 (by omega)
  rw [e]
  exact within_c n p w
 ·have e : upB n (mA 3 p) = (decide (0 ≤ n) && decide (n < 8)) := by
   have : mA 3 p = 7 := rfl
   simp only [upB, this]
   congr 1
   exact decide_eq_decide.2 (by omega)
  rw [e]
  exact within_c n p w
 ·have e : upB n (mA 4 p) = (decide (0 ≤ n) && decide (n < 8)) := by
   have : mA 4 p = 7 := rfl
   simp only [upB, this]
   congr 1
   exact decide_eq_decide.2 (by omega)
  rw [e]
  exact within_c n p w
 ·have e : upB n (mA 5 p) = (decide (0 ≤ n) && decide (n < 8)) := by
   have : mA 5 p = 7 := rfl
   simp only [upB, this]
   congr 1
   exact decide_eq_decide.2 (by omega)
  rw [e]
  exact within_c n p w
 ·have e : upB n (mA 6 p) = (n == 0) := by
   have : mA 6 p = 0 := rfl
   rw [Bool.eq_iff_iff, upB_iff, this]
   simp
   omega
  rw [e]
  exact within_d n p w
 ·have e : upB n (mA 7 p) = (decide (0 ≤ n) && decide (n < 8)) := by
   have : mA 7 p = 7 := rfl
   simp only [upB, this]
   congr 1
   exact decide_eq_decide.2 (by omega)
  rw [e]
  exact within_x n p w
 ·have e : upB n (mA 8 p) = (decide (0 ≤ n) && decide (n < 8)) := by
   have : mA 8 p = 7 := rfl
   simp only [upB, this]
   congr 1
   exact decide_eq_decide.2 (by omega)
  rw [e]
  exact within_x n p w
 ·have e : upB n (mA 9 p) = (n == 0) := by
   have : mA 9 p = 0 := rfl
   rw [Bool.eq_iff_iff, upB_iff, this]
   simp
   omega
  rw [e]
  exact within_d n p w
theorem withinB (k n p : Int) (h1 : 1 ≤ k) (h2 : k ≤ 9) (w : World) :
 Calls Tryz.prog 83 #[.int .i64 n, .int .u8 (sB k : Int), .int .i64 p] w fun r w' => r = .returned (.bool (upB n (mB k))) ∧ w' = w := by
 rcases kind_cases h1 h2 with rfl | rfl | rfl | rfl | rfl | rfl | rfl | rfl | rfl
 ·have e : upB n (mB 1) = (n == 0) := by
   have : mB 1 = 0 := rfl
   rw [Bool.eq_iff_iff, upB_iff, this]
   simp
   omega
  rw [e]
  exact within_d n p w
 ·exact within_m n p w
 ·exact within_v n p w
 ·have e : upB n (mB 4) = (n == 0) := by
   have : mB 4 = 0 := rfl
   rw [Bool.eq_iff_iff, upB_iff, this]
   simp
   omega
  rw [e]
  exact within_d n p w
 ·have e : upB n (mB 5) = (n == 0) := by
   have : mB 5 = 0 := rfl
   rw [Bool.eq_iff_iff, upB_iff, this]
   simp
   omega
  rw [e]
  exact within_d n p w
 ·have e : upB n (mB 6) = (n == 0) := by
   have : mB 6 = 0 := rfl
   rw [Bool.eq_iff_iff, upB_iff, this]
   simp
   omega
  rw [e]
  exact within_d n p w
 ·have e : upB n (mB 7) = (n == 0) := by
   have : mB 7 = 0 := rfl
   rw [Bool.eq_iff_iff, upB_iff, this]
   simp
   omega
  rw [e]
  exact within_d n p w
 ·have e : upB n (mB 8) = (n == 0) := by
   have : mB 8 = 0 := rfl
   rw [Bool.eq_iff_iff, upB_iff, this]
   simp
   omega
  rw [e]
  exact within_d n p w
 ·have e : upB n (mB 9) = (n == 0) := by
   have : mB 9 = 0 := rfl
   rw [Bool.eq_iff_iff, upB_iff, this]
   simp
   omega
  rw [e]
  exact within_d n p w
end De
end Go.Proofs.YtblfimobiibmjabGreat
namespace Go.Proofs.YtblfimobiibmjabGreat
open Go.ChangeShapes Go.WideShapes Go.ChangeAt Go.RowKit
namespace De
open Ba Re
theorem up7 (n : Int) : upB n 7 = (decide (0 ≤ n) && decide (n < 8)) := by
 unfold upB
 congr 1
 exact decide_eq_decide.2 (by omega)
theorem rchan (n : Int) (x : Bool) (h : upB n 7 = x) (w : World) :
 Calls Tryz.prog 83 #[.int .i64 n, .int .u8 99, .int .i64 0] w fun r w' => r = .returned (.bool x) ∧ w' = w := by
 rw [← h, up7]
 exact within_c n 0 w
theorem rval (n : Int) (x : Bool) (h : upB n 99 = x) (w : World) :
 Calls Tryz.prog 83 #[.int .i64 n, .int .u8 118, .int .i64 0] w fun r w' => r = .returned (.bool x) ∧ w' = w := by
 rw [← h]
 exact within_v n 0 w
theorem withinA_is (k n p : Int) (x : Bool) (h1 : 1 ≤ k) (h2 : k ≤ 9) (hx : upB n (mA k p) = x) (w : World) :
 Calls Tryz.prog 83 #[.int .i64 n, .int .u8 (sA k : Int), .int .i64 p] w fun r w' => r = .returned (.bool x) ∧ w' = w := by
 rw [← hx]
 exact withinA k n p h1 h2 w
theorem withinB_is (k n p : Int) (x : Bool) (h1 : 1 ≤ k) (h2 : k ≤ 9) (hx : upB n (mB k) = x) (w : World) :
 Calls Tryz.prog 83 #[.int .i64 n, .int .u8 (sB k : Int), .int .i64 p] w fun r w' => r = .returned (.bool x) ∧ w' = w := by
 rw [← hx]
 exact withinB k n p h1 h2 w
theorem sgA (k : Int) (h1 : 1 ≤ k) (h2 : k ≤ 9) : sA k < 256 ∧ sB k < 256 := by
 rcases kind_cases h1 h2 with rfl | rfl | rfl | rfl | rfl | rfl | rfl | rfl | rfl <;> decide
theorem ixA (k : Int) (h1 : 1 ≤ k) (h2 : k ≤ 9) (w : World) : (Instr.index 9 (.string (bs [sA k, sB k])) (.int .i64 0)).run Tryz.prog w = .ok (.int .u8 (sA k : Int)) w := by
 have h := sgA k h1 h2
 have := ix_str (bs [sA k, sB k]) 0 (sA k) (by rw [nbs_bs _ (by simp; omega)]; rfl) w
 exact this
theorem ixB (k : Int) (h1 : 1 ≤ k) (h2 : k ≤ 9) (w : World) : (Instr.index 9 (.string (bs [sA k, sB k])) (.int .i64 1)).run Tryz.prog w = .ok (.int .u8 (sB k : Int)) w := by
 have h := sgA k h1 h2
 have := ix_str (bs [sA k, sB k]) 1 (sB k) (by rw [nbs_bs _ (by simp; omega)]; rfl) w
 exact this
set_option maxHeartbeats 800000 in
theorem rcheck_arg (o : OpD) (oa : Option Addr) (c : Nat) (p : Int) (w : World) (h : (okP p && (decide (1 ≤ o.kind) && decide (o.kind ≤ 9))) = false) :
 Calls Tryz.prog 57 #[.agg #[.int .i64 o.kind, .int .i64 o.a, .int .i64 o.b, .slice oa o.cases.length c, .bool o.def_], .int .i64 p] w fun r w' => r = .returned (.int .i64 1) ∧ Below w.heap.size w w' := by
 obtain ⟨k, a, b, cs, d⟩ := o
 have hk : p < 1 ∨ 8 < p ∨ k < 1 ∨ 9 < k := by
  simp [okP] at h
  by_cases q1 : 1 ≤ p
  ·by_cases q2 : p ≤ 8
   ·by_cases q3 : 1 ≤ k
    ·have := h q1 q2 q3; omega
    ·omega
   ·omega
  ·omega
 clear h
 by_cases h1 : p < 1
 ·have d1 : decide (p < 1) = true := by simpa using h1
  clear hk
  go_enter Tryz.func57, Tryz.ntmps57
  go_wp2_with fail
  go_ret
  exact ⟨rfl, below_alloc _ _⟩
 have d1 : decide (p < 1) = false := by simpa using h1
 by_cases h2 : 8 < p
 ·have d2 : decide (8 < p) = true := by simpa using h2
  clear hk
  go_enter Tryz.func57, Tryz.ntmps57
  go_wp2_with fail
  go_ret
  exact ⟨rfl, below_alloc _ _⟩
 have d2 : decide (8 < p) = false := by simpa using h2
 by_cases h3 : k < 1
 ·have d3 : decide (k < 1) = true := by simpa using h3
  clear hk
  go_enter Tryz.func57, Tryz.ntmps57
  go_wp2_with fail
  go_ret
  exact ⟨rfl, below_alloc _ _⟩
 have d3 : decide (k < 1) = false := by simpa using h3
 have d4 : decide (9 < k) = true := by simp; omega
 clear hk
 go_enter Tryz.func57, Tryz.ntmps57
 go_wp2_with fail
 go_ret
 exact ⟨rfl, below_alloc _ _⟩
set_option maxHeartbeats 800000 in
theorem rcheck_long (o : OpD) (oa : Option Addr) (c : Nat) (p : Int) (w : World) (hp : okP p = true) (h1 : 1 ≤ o.kind) (h2 : o.kind ≤ 9) (hl : 4 < o.cases.length) (hm : o.cases.length ≤ maxLen) :
 Calls Tryz.prog 57 #[.agg #[.int .i64 o.kind, .int .i64 o.a, .int .i64 o.b, .slice oa o.cases.length c, .bool o.def_], .int .i64 p] w fun r w' => r = .returned (.int .i64 2) ∧ Below w.heap.size w w' := by
 obtain ⟨k, a, b, cs, d⟩ := o
 unfold maxLen at hm
 obtain ⟨p1, p2⟩ := (okP_iff p).1 hp
 simp only at h1 h2 hl hm ⊢
 have e1 : decide (p < 1) = false := by simp; omega
 have e2 : decide (8 < p) = false := by simp; omega
 have d1 : decide (k < 1) = false := by simp; omega
 have d2 : decide (9 < k) = false := by simp; omega
 have d3 : decide ((4 : Int) < (cs.length : Int)) = true := by simp; omega
 clear hp
 go_enter Tryz.func57, Tryz.ntmps57
 go_wp2_with fail
 go_ret
 exact ⟨rfl, below_alloc _ _⟩
theorem op_cells {w : World} {b : Nat} {x0 x1 x2 x3 x4 : Value} {t : TypeId} {fr : Nat × Nat} (h : w.heap[b]? = some (.cells #[x0, x1, x2, x3, x4] t fr)) : w.cell? ⟨b, 0, none⟩ = some x0 ∧ w.cell? ⟨b, 1, none⟩ = some x1 ∧ w.cell? ⟨b, 2, none⟩ = some x2 ∧ w.cell? ⟨b, 3, none⟩ = some x3 ∧ w.cell? ⟨b, 4, none⟩ = some x4 := ⟨cell_of h 0, cell_of h 1, cell_of h 2, cell_of h 3, cell_of h 4⟩
set_option maxHeartbeats 1600000 in
theorem rcheck_main (o : OpD) (oa : Option Addr) (c : Nat) (p : Int) (w : World) (hp : okP p = true) (h1 : 1 ≤ o.kind) (h2 : o.kind ≤ 9) (hl : o.cases.length ≤ 4) (hA : CAt w oa o.cases) (x1 x2 x3 x4 : Bool) (hx1 : upB o.a (mA o.kind p) = x1) (hx2 : upB o.b (mB o.kind) = x2) (hx3 : (o.kind == 6) = x3) (hx4 : (o.def_ || decide (0 < o.cases.length)) = x4) :
 Calls Tryz.prog 57 #[.agg #[.int .i64 o.kind, .int .i64 o.a, .int .i64 o.b, .slice oa o.cases.length c, .bool o.def_], .int .i64 p] w fun r w' => r = .returned (.int .i64 (bif x1 && x2 && (x3 || !x4) && o.cases.all okC then 0 else 4)) ∧ Below w.heap.size w w' := by
 obtain ⟨k, a, b, cs, d⟩ := o
 simp only at h1 h2 hl hA hx1 hx2 hx3 hx4 ⊢
 obtain ⟨p1, p2⟩ := (okP_iff p).1 hp
 have HA := hide hA
 have X1 := hide hx1
 have X2 := hide hx2
 have e1 : decide (p < 1) = false := by simp; omega
 have e2 : decide (8 < p) = false := by simp; omega
 have d1 : decide (k < 1) = false := by simp; omega
 have d2 : decide (9 < k) = false := by simp; omega
 have d3 : decide ((4 : Int) < (cs.length : Int)) = false := by simp; omega
 have d4 : (k != 6) = !x3 := by rw [← hx3]; rfl
 have i0 := ixA k h1 h2
 have i1 := ixB k h1 h2
 have WA := hide (fun w => withinA_is k a p x1 h1 h2 hx1 w)
 have WB := hide (fun w => withinB_is k b p x2 h1 h2 hx2 w)
 have RW := hide (fun w => row_any k h1 h2 w)
 generalize sA k = u at WA RW i0 i1
 generalize sB k = v at WB RW i0 i1
 clear hp hA hx1 hx2 X1 X2
 cases x1
 ·clear hx3 hx4 d4
  go_enter Tryz.func57, Tryz.ntmps57
  go_wp2_with fail
  refine (RW.out _).mono ?_
  rintro r w1 ⟨rfl, br⟩
  have P1 := hide (heap_below (heap_new w (.cells #[.int .i64 k, .int .i64 a, .int .i64 b, .slice oa cs.length c, .bool d] 43)) br)
  have B1 := hide (btr (below_alloc _ _) br)
  obtain ⟨y0, y1, y2, y3, y4⟩ := op_cells P1.out
  have HA1 := hide (HA.out.below B1.out)
  clear br
  go_wp2_with fail
  go_quiet ((first | (go_at_call_of 83 (Value.int IntKind.i64 a); exact Calls.quiet_of_same (WA.out _)) | (go_at_call_of 83 (Value.int IntKind.i64 b); exact Calls.quiet_of_same (WB.out _))))
  all_goals
   go_wp2_with fail
   go_ret
   exact ⟨rfl, btr B1.out (bdrew _ _)⟩
 cases x2
 ·clear hx3 hx4 d4
  go_enter Tryz.func57, Tryz.ntmps57
  go_wp2_with fail
  refine (RW.out _).mono ?_
  rintro r w1 ⟨rfl, br⟩
  have P1 := hide (heap_below (heap_new w (.cells #[.int .i64 k, .int .i64 a, .int .i64 b, .slice oa cs.length c, .bool d] 43)) br)
  have B1 := hide (btr (below_alloc _ _) br)
  obtain ⟨y0, y1, y2, y3, y4⟩ := op_cells P1.out
  have HA1 := hide (HA.out.below B1.out)
  clear br
  go_wp2_with fail
  go_quiet ((first | (go_at_call_of 83 (Value.int IntKind.i64 a); exact Calls.quiet_of_same (WA.out _)) | (go_at_call_of 83 (Value.int IntKind.i64 b); exact Calls.quiet_of_same (WB.out _))))
  all_goals
   go_wp2_with fail
   go_ret
   exact ⟨rfl, btr B1.out (bdrew _ _)⟩
 go_enter Tryz.func57, Tryz.ntmps57
 go_wp2_with fail
 refine (RW.out _).mono ?_
 rintro r w1 ⟨rfl, br⟩
 have P1 := hide (heap_below (heap_new w (.cells #[.int .i64 k, .int .i64 a, .int .i64 b, .slice oa cs.length c, .bool d] 43)) br)
 have B1 := hide (btr (below_alloc _ _) br)
 obtain ⟨y0, y1, y2, y3, y4⟩ := op_cells P1.out
 have HA1 := hide (HA.out.below B1.out)
 clear br
 go_wp2_with fail
 go_quiet ((first | (go_at_call_of 83 (Value.int IntKind.i64 a); exact Calls.quiet_of_same (WA.out _)) | (go_at_call_of 83 (Value.int IntKind.i64 b); exact Calls.quiet_of_same (WB.out _))))
 cases x3
 ·cases x4
  ·have hd : d = false := by
    cases d
    ·rfl
    ·simp at hx4
   have hc0 : cs = [] := by
    rw [hd] at hx4
    simpa using hx4
   subst hd hc0
   clear hx4 hx3
   go_wp2_with fail
   refine wp_loop_rounds 1 ?_
   rw [rounds_succ]
   go_wp2
   go_ret
   exact ⟨rfl, by first | exact btr B1.out (bdrew _ _) | exact btr B1.out (by rw [World.drewN_drewN]; exact bdrew _ _) | exact B1.out⟩
  ·clear hx3
   cases cs with
   | nil =>
     have hd : d = true := by simpa using hx4
     subst hd
     clear hx4
     go_wp2_with fail
     go_ret
     exact ⟨rfl, by first | exact btr B1.out (bdrew _ _) | exact btr B1.out (by rw [World.drewN_drewN]; exact bdrew _ _) | exact B1.out⟩
   | cons x t =>
     clear hx4
     go_wp2_with fail
     go_ret
     exact ⟨rfl, by first | exact btr B1.out (bdrew _ _) | exact btr B1.out (by rw [World.drewN_drewN]; exact bdrew _ _) | exact B1.out⟩
 ·clear hx4 hx3
  go_wp2_with fail
  go_loopw [63] (fun i wr => ∃ j : Nat, j ≤ cs.length ∧ i = .int .i64 (j : Int) ∧ (∀ q x, q < j → cs[q]? = some x → okC x = true) ∧ Below w.heap.size w wr) (fun i _ => cs.length - (intOf i).toNat)
  case atStart => exact ⟨0, Nat.zero_le _, rfl, fun q x hq => absurd hq (Nat.not_lt_zero _), btr B1.out (bdrew _ _)⟩
  case round =>
   obtain ⟨j, hj, rfl, hall, hb⟩ := hrel
   have HK := hide hall
   have HB := hide hb
   clear hall hb
   by_cases hlt : j < cs.length
   ·have hlt' : decide ((j : Int) < (cs.length : Int)) = true := by simp; omega
    obtain ⟨x, hx⟩ : ∃ x, cs[j]? = some x := ⟨cs[j], by simp [hlt]⟩
    obtain ⟨b', off, rfl, q1, q2, q3⟩ := (HA.out.below HB.out) j x hx
    have HX := hide hx
    clear hx
    obtain ⟨sd, ch, vl⟩ := x
    simp only at q1 q2 q3
    obtain ⟨u7, hu7⟩ : ∃ u, upB ch 7 = u := ⟨_, rfl⟩
    obtain ⟨u99, hu99⟩ : ∃ u, upB vl 99 = u := ⟨_, rfl⟩
    have C1 : Hid (∀ w, Calls Tryz.prog 83 #[.int .i64 ch, .int .u8 99, .int .i64 0] w fun r w' => r = .returned (.bool u7) ∧ w' = w) := fun w => rchan ch _ hu7 w
    have C2 : Hid (∀ w, Calls Tryz.prog 83 #[.int .i64 vl, .int .u8 118, .int .i64 0] w fun r w' => r = .returned (.bool u99) ∧ w' = w) := fun w => rval vl _ hu99 w
    have H7 := hide hu7
    have H99 := hide hu99
    clear hu7 hu99
    cases u7
    ·have HO : Hid (okC ⟨sd, ch, vl⟩ = false) := by show _ = _; simp only [okC]; rw [H7.out]; rfl
     go_wp2_with (first | (go_at_call_of 83 (Value.int IntKind.u8 99); refine (C1.out _).mono ?_; rintro r w' ⟨rfl, rfl⟩) | (go_at_call_of 83 (Value.int IntKind.u8 118); refine (C2.out _).mono ?_; rintro r w' ⟨rfl, rfl⟩))
     all_goals
      go_ret
      exact ⟨by rw [all_no HX.out HO.out]; simp, btr HB.out (below_alloc _ _)⟩
    ·cases sd
     ·cases hz : vl == 0
      ·have hz' : (vl != 0) = true := by simp [bne, hz]
       have HO : Hid (okC ⟨false, ch, vl⟩ = false) := by show _ = _; simp only [okC]; rw [H7.out]; simp only [cond_false, Bool.true_and]; simp at hz; simp [upB]; omega
       go_wp2_with (first | (go_at_call_of 83 (Value.int IntKind.u8 99); refine (C1.out _).mono ?_; rintro r w' ⟨rfl, rfl⟩) | (go_at_call_of 83 (Value.int IntKind.u8 118); refine (C2.out _).mono ?_; rintro r w' ⟨rfl, rfl⟩))
       all_goals
        go_ret
        exact ⟨by rw [all_no HX.out HO.out]; simp, btr HB.out (below_alloc _ _)⟩
      ·have hz' : (vl != 0) = false := by simp [bne, hz]
       have HO : Hid (okC ⟨false, ch, vl⟩ = true) := by show _ = _; simp only [okC]; rw [H7.out]; simp only [cond_false, Bool.true_and]; simp at hz; simp [upB]; omega
       go_wp2_with (first | (go_at_call_of 83 (Value.int IntKind.u8 99); refine (C1.out _).mono ?_; rintro r w' ⟨rfl, rfl⟩) | (go_at_call_of 83 (Value.int IntKind.u8 118); refine (C2.out _).mono ?_; rintro r w' ⟨rfl, rfl⟩))
       all_goals
        go_roundw
        case rel => exact ⟨j + 1, by omega, by go_num, fun q y hq hy => by
         by_cases e : q = j
         ·subst e
          have := HX.out
          rw [hy] at this
          simp at this
          subst this
          exact HO.out
         ·exact HK.out q y (by omega) hy, btr HB.out (below_alloc _ _)⟩
        case measure => simp [intOf]; omega
     ·cases u99
      ·have HO : Hid (okC ⟨true, ch, vl⟩ = false) := by show _ = _; simp only [okC]; rw [H7.out]; simp only [cond_true, Bool.true_and]; exact H99.out
       go_wp2_with (first | (go_at_call_of 83 (Value.int IntKind.u8 99); refine (C1.out _).mono ?_; rintro r w' ⟨rfl, rfl⟩) | (go_at_call_of 83 (Value.int IntKind.u8 118); refine (C2.out _).mono ?_; rintro r w' ⟨rfl, rfl⟩))
       all_goals
        go_ret
        exact ⟨by rw [all_no HX.out HO.out]; simp, btr HB.out (below_alloc _ _)⟩
      ·have HO : Hid (okC ⟨true, ch, vl⟩ = true) := by show _ = _; simp only [okC]; rw [H7.out]; simp only [cond_true, Bool.true_and]; exact H99.out
       go_wp2_with (first | (go_at_call_of 83 (Value.int IntKind.u8 99); refine (C1.out _).mono ?_; rintro r w' ⟨rfl, rfl⟩) | (go_at_call_of 83 (Value.int IntKind.u8 118); refine (C2.out _).mono ?_; rintro r w' ⟨rfl, rfl⟩))
       all_goals
        go_roundw
        case rel => exact ⟨j + 1, by omega, by go_num, fun q y hq hy => by
         by_cases e : q = j
         ·subst e
          have := HX.out
          rw [hy] at this
          simp at this
          subst this
          exact HO.out
         ·exact HK.out q y (by omega) hy, btr HB.out (below_alloc _ _)⟩
        case measure => simp [intOf]; omega
   ·have hlt' : decide ((j : Int) < (cs.length : Int)) = false := by simp; omega
    go_wp2_with fail
    go_ret
    exact ⟨by rw [all_yes (fun q x hq => HK.out q x (by have := (List.getElem?_eq_some_iff.1 hq).1; omega) hq)]; rfl, HB.out⟩
theorem rcheck_any (o : OpD) (oa : Option Addr) (c : Nat) (p : Int) (w : World) (hA : CAt w oa o.cases) (hm : o.cases.length ≤ maxLen) :
 Calls Tryz.prog 57 #[.agg #[.int .i64 o.kind, .int .i64 o.a, .int .i64 o.b, .slice oa o.cases.length c, .bool o.def_], .int .i64 p] w fun r w' => r = .returned (.int .i64 (chk o p)) ∧ Below w.heap.size w w' := by
 unfold chk
 by_cases h1 : (okP p && (decide (1 ≤ o.kind) && decide (o.kind ≤ 9))) = false
 ·rw [if_pos h1]
  exact rcheck_arg o oa c p w h1
 ·rw [if_neg h1]
  have h1' : okP p = true ∧ 1 ≤ o.kind ∧ o.kind ≤ 9 := by simpa using h1
  obtain ⟨hp, hk1, hk2⟩ := h1'
  by_cases h2 : 4 < o.cases.length
  ·rw [if_pos h2]
   exact rcheck_long o oa c p w hp hk1 hk2 h2 hm
  ·rw [if_neg h2]
   refine (rcheck_main o oa c p w hp hk1 hk2 (by omega) hA _ _ _ _ rfl rfl rfl rfl).mono ?_
   rintro r w' ⟨rfl, hb⟩
   refine ⟨?_, hb⟩
   cases x1 : upB o.a (mA o.kind p) && upB o.b (mB o.kind)
   ·simp
   ·rw [if_neg (by simp)]
    by_cases h6 : o.kind = 6
    ·rw [if_neg (fun q => q.1 h6)]
     have : (o.kind == 6) = true := by simpa using h6
     rw [this]
     cases o.cases.all okC <;> simp
    ·have : (o.kind == 6) = false := by simpa using h6
     rw [this]
     cases h4 : (o.def_ || decide (0 < o.cases.length))
     ·rw [if_neg (fun q => by simp at q)]
      cases o.cases.all okC <;> simp
     ·rw [if_pos ⟨h6, rfl⟩]
      simp
end De
end Go.Proofs.YtblfimobiibmjabGreat
