/- Package deed: operations; isCount, upTo, reach, isCase, over this seat's program. -/
import Derived.Test.YtgnhophlnbpcgaaEf
import Derived.Test.YtgnhophlnbpcgaaBi
namespace Go.Proofs.Ytgnhophlnbpcgaa
open Go.ChangeShapes Go.WideShapes Go.ChangeAt Go.RowKit
namespace De
open Ba Re

/-- a case -/
structure Cs where
  send : Bool
  ch : Int
  val : Int
/-- an operation -/
structure OpD where
  kind : Int
  a : Int
  b : Int
  cases : List Cs
  def_ : Bool
/-- the cells from oa on hold cases -/
def CAt (w : World) (oa : Option Addr) (l : List Cs) : Prop :=
  ∀ k, ∀ x, l[k]? = some x → ∃ b off, oa = some ⟨b, off, none⟩ ∧ w.cell? ⟨b, off + k * 3, none⟩ = some (.bool x.send) ∧ w.cell? ⟨b, off + k * 3 + 1, none⟩ = some (.int .i64 x.ch) ∧ w.cell? ⟨b, off + k * 3 + 2, none⟩ = some (.int .i64 x.val)
theorem CAt.below {w w' : World} {oa : Option Addr} {l : List Cs} (h : CAt w oa l) (hb : Below w.heap.size w w') : CAt w' oa l := by
  intro k x hk
  obtain ⟨b, off, he, h1, h2, h3⟩ := h k x hk
  exact ⟨b, off, he, (hb.cell (World.block_lt_of_cell? w _ h1)).trans h1, (hb.cell (World.block_lt_of_cell? w _ h2)).trans h2, (hb.cell (World.block_lt_of_cell? w _ h3)).trans h3⟩
theorem CAt.nil (w : World) (oa : Option Addr) : CAt w oa [] := fun k x hk => by simp at hk

def okP (p : Int) : Bool := decide (1 ≤ p) && decide (p ≤ 8)
theorem isCount_any (p : Int) (w : World) :
    Calls Try.prog 26 #[.int .i64 p] w fun r w' => r = .returned (.bool (okP p)) ∧ w' = w := by
  by_cases h1 : 1 ≤ p
  · have e : okP p = decide (p ≤ 8) := by simp [okP, h1]
    rw [e]
    clear e
    go_enter Try.func26, Try.ntmps26
    go_wp2
    go_ret
    exact ⟨rfl, rfl⟩
  · have e : okP p = false := by simp [okP, h1]
    rw [e]
    clear e
    go_enter Try.func26, Try.ntmps26
    go_wp2
    go_ret
    exact ⟨rfl, rfl⟩
def upB (n m : Int) : Bool := decide (0 ≤ n) && decide (n ≤ m)
theorem upTo_any (n m : Int) (w : World) :
    Calls Try.prog 62 #[.int .i64 n, .int .i64 m] w fun r w' => r = .returned (.bool (upB n m)) ∧ w' = w := by
  by_cases h1 : 0 ≤ n
  · have e : upB n m = decide (n ≤ m) := by simp [upB, h1]
    rw [e]
    clear e
    go_enter Try.func62, Try.ntmps62
    go_wp2
    go_ret
    exact ⟨rfl, rfl⟩
  · have e : upB n m = false := by simp [upB, h1]
    rw [e]
    clear e
    go_enter Try.func62, Try.ntmps62
    go_wp2
    go_ret
    exact ⟨rfl, rfl⟩

/-- how far A and B go -/
def mA (k p : Int) : Int := if k = 1 then p - 1 else if k = 2 ∨ k = 3 ∨ k = 4 ∨ k = 5 ∨ k = 7 ∨ k = 8 then 7 else 0
def mB (k : Int) : Int := if k = 2 then 4 else if k = 3 then 99 else 0
theorem reach_1 (p : Int) (h1 : 1 ≤ p) (h2 : p ≤ 8) (w : World) :
    Calls Try.prog 61 #[.int .i64 1, .int .i64 p] w fun r w' => r = .returned (.tuple #[.int .i64 (mA 1 p), .int .i64 (mB 1)]) ∧ w' = w := by
  have h1' := h1
  have h2' := h2
  go_enter Try.func61, Try.ntmps61
  go_wp2
  go_ret2
  exact ⟨rfl, rfl⟩
theorem reach_2 (p : Int) (h1 : 1 ≤ p) (h2 : p ≤ 8) (w : World) :
    Calls Try.prog 61 #[.int .i64 2, .int .i64 p] w fun r w' => r = .returned (.tuple #[.int .i64 (mA 2 p), .int .i64 (mB 2)]) ∧ w' = w := by
  have h1' := h1
  have h2' := h2
  go_enter Try.func61, Try.ntmps61
  go_wp2
  go_ret2
  exact ⟨rfl, rfl⟩
theorem reach_3 (p : Int) (h1 : 1 ≤ p) (h2 : p ≤ 8) (w : World) :
    Calls Try.prog 61 #[.int .i64 3, .int .i64 p] w fun r w' => r = .returned (.tuple #[.int .i64 (mA 3 p), .int .i64 (mB 3)]) ∧ w' = w := by
  have h1' := h1
  have h2' := h2
  go_enter Try.func61, Try.ntmps61
  go_wp2
  go_ret2
  exact ⟨rfl, rfl⟩
theorem reach_4 (p : Int) (h1 : 1 ≤ p) (h2 : p ≤ 8) (w : World) :
    Calls Try.prog 61 #[.int .i64 4, .int .i64 p] w fun r w' => r = .returned (.tuple #[.int .i64 (mA 4 p), .int .i64 (mB 4)]) ∧ w' = w := by
  have h1' := h1
  have h2' := h2
  go_enter Try.func61, Try.ntmps61
  go_wp2
  go_ret2
  exact ⟨rfl, rfl⟩
theorem reach_5 (p : Int) (h1 : 1 ≤ p) (h2 : p ≤ 8) (w : World) :
    Calls Try.prog 61 #[.int .i64 5, .int .i64 p] w fun r w' => r = .returned (.tuple #[.int .i64 (mA 5 p), .int .i64 (mB 5)]) ∧ w' = w := by
  have h1' := h1
  have h2' := h2
  go_enter Try.func61, Try.ntmps61
  go_wp2
  go_ret2
  exact ⟨rfl, rfl⟩
theorem reach_6 (p : Int) (h1 : 1 ≤ p) (h2 : p ≤ 8) (w : World) :
    Calls Try.prog 61 #[.int .i64 6, .int .i64 p] w fun r w' => r = .returned (.tuple #[.int .i64 (mA 6 p), .int .i64 (mB 6)]) ∧ w' = w := by
  have h1' := h1
  have h2' := h2
  go_enter Try.func61, Try.ntmps61
  go_wp2
  go_ret2
  exact ⟨rfl, rfl⟩
theorem reach_7 (p : Int) (h1 : 1 ≤ p) (h2 : p ≤ 8) (w : World) :
    Calls Try.prog 61 #[.int .i64 7, .int .i64 p] w fun r w' => r = .returned (.tuple #[.int .i64 (mA 7 p), .int .i64 (mB 7)]) ∧ w' = w := by
  have h1' := h1
  have h2' := h2
  go_enter Try.func61, Try.ntmps61
  go_wp2
  go_ret2
  exact ⟨rfl, rfl⟩
theorem reach_8 (p : Int) (h1 : 1 ≤ p) (h2 : p ≤ 8) (w : World) :
    Calls Try.prog 61 #[.int .i64 8, .int .i64 p] w fun r w' => r = .returned (.tuple #[.int .i64 (mA 8 p), .int .i64 (mB 8)]) ∧ w' = w := by
  have h1' := h1
  have h2' := h2
  go_enter Try.func61, Try.ntmps61
  go_wp2
  go_ret2
  exact ⟨rfl, rfl⟩
theorem reach_9 (p : Int) (h1 : 1 ≤ p) (h2 : p ≤ 8) (w : World) :
    Calls Try.prog 61 #[.int .i64 9, .int .i64 p] w fun r w' => r = .returned (.tuple #[.int .i64 (mA 9 p), .int .i64 (mB 9)]) ∧ w' = w := by
  have h1' := h1
  have h2' := h2
  go_enter Try.func61, Try.ntmps61
  go_wp2
  go_ret2
  exact ⟨rfl, rfl⟩
theorem kind_cases {k : Int} (h1 : 1 ≤ k) (h2 : k ≤ 9) : k = 1 ∨ k = 2 ∨ k = 3 ∨ k = 4 ∨ k = 5 ∨ k = 6 ∨ k = 7 ∨ k = 8 ∨ k = 9 := by omega
theorem reach_any (k p : Int) (hk1 : 1 ≤ k) (hk2 : k ≤ 9) (h1 : 1 ≤ p) (h2 : p ≤ 8) (w : World) :
    Calls Try.prog 61 #[.int .i64 k, .int .i64 p] w fun r w' => r = .returned (.tuple #[.int .i64 (mA k p), .int .i64 (mB k)]) ∧ w' = w := by
  rcases kind_cases hk1 hk2 with rfl | rfl | rfl | rfl | rfl | rfl | rfl | rfl | rfl
  · exact reach_1 p h1 h2 w
  · exact reach_2 p h1 h2 w
  · exact reach_3 p h1 h2 w
  · exact reach_4 p h1 h2 w
  · exact reach_5 p h1 h2 w
  · exact reach_6 p h1 h2 w
  · exact reach_7 p h1 h2 w
  · exact reach_8 p h1 h2 w
  · exact reach_9 p h1 h2 w

/-- a case is right -/
def okC (x : Cs) : Bool := upB x.ch 7 && upB x.val (bif x.send then 99 else 0)
theorem isCase_any (x : Cs) (w : World) :
    Calls Try.prog 63 #[.agg #[.bool x.send, .int .i64 x.ch, .int .i64 x.val]] w fun r w' => r = .returned (.bool (okC x)) ∧ Below w.heap.size w w' := by
  obtain ⟨s, c, v⟩ := x
  cases s <;> cases h : upB c 7
  all_goals
    have HC := hide h
    clear h
    go_enter Try.func63, Try.ntmps63
    go_wp2_with fail
    refine (upTo_any _ _ _).mono ?_
    rw [HC.out]
    rintro r w1 ⟨rfl, rfl⟩
    go_wp2_with (go_at_call 62; refine (upTo_any _ _ _).mono ?_; rintro r w1 ⟨rfl, rfl⟩)
    go_ret
    exact ⟨by simp [okC, HC.out], below_alloc _ _⟩

/-- an operation as a value, its cases at oa -/
def opA (o : OpD) (oa : Option Addr) (c : Nat) : Array Value := #[.int .i64 o.kind, .int .i64 o.a, .int .i64 o.b, .slice oa o.cases.length c, .bool o.def_]
/-- what Check answers -/
def chk (o : OpD) (p : Int) : Int :=
  if (okP p && (decide (1 ≤ o.kind) && decide (o.kind ≤ 9))) = false then 1
  else if 4 < o.cases.length then 2
  else if (upB o.a (mA o.kind p) && upB o.b (mB o.kind)) = false then 4
  else if o.kind ≠ 6 ∧ (o.def_ || decide (0 < o.cases.length)) = true then 4
  else if o.cases.all okC then 0 else 4

set_option maxHeartbeats 800000 in
theorem check_arg (o : OpD) (oa : Option Addr) (c : Nat) (p : Int) (w : World) (h : (okP p && (decide (1 ≤ o.kind) && decide (o.kind ≤ 9))) = false) :
    Calls Try.prog 28 #[.agg #[.int .i64 o.kind, .int .i64 o.a, .int .i64 o.b, .slice oa o.cases.length c, .bool o.def_], .int .i64 p] w fun r w' => r = .returned (.int .i64 1) ∧ Below w.heap.size w w' := by
  obtain ⟨k, a, b, cs, d⟩ := o
  cases hp : okP p
  · have HP := hide hp
    clear h hp
    go_enter Try.func28, Try.ntmps28
    go_wp2_with fail
    refine (isCount_any _ _).mono ?_
    rw [HP.out]
    rintro r w1 ⟨rfl, rfl⟩
    go_wp2_with fail
    go_ret
    exact ⟨rfl, below_alloc _ _⟩
  · have HP := hide hp
    have hk : k < 1 ∨ 9 < k := by
      rw [hp] at h
      simp at h
      by_cases q : 1 ≤ k
      · have := h q; omega
      · omega
    clear h hp
    by_cases h1 : k < 1
    · have d1 : decide (k < 1) = true := by simpa using h1
      clear hk
      go_enter Try.func28, Try.ntmps28
      go_wp2_with fail
      refine (isCount_any _ _).mono ?_
      rw [HP.out]
      rintro r w1 ⟨rfl, rfl⟩
      go_wp2_with fail
      go_ret
      exact ⟨rfl, below_alloc _ _⟩
    · have d1 : decide (k < 1) = false := by simpa using h1
      have d2 : decide (9 < k) = true := by simp; omega
      clear hk
      go_enter Try.func28, Try.ntmps28
      go_wp2_with fail
      refine (isCount_any _ _).mono ?_
      rw [HP.out]
      rintro r w1 ⟨rfl, rfl⟩
      go_wp2_with fail
      go_ret
      exact ⟨rfl, below_alloc _ _⟩
end De
end Go.Proofs.Ytgnhophlnbpcgaa
