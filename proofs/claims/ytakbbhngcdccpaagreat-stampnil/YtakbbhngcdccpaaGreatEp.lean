/- Contracts of package epoch (Pack, parts, Tid, Clock, isOwned, Check, Next, Seen, Less) and of the laws' own two(), each over this seat's program. -/
import Derived.Test.YtakbbhngcdccpaaGreatRows
import Derived.WalkKit
import Derived.ProofKit
import Derived.OpenShut
import Derived.WalkLawsBesides
import Derived.WalkSpells
namespace Go.Proofs.YtakbbhngcdccpaaGreat
open Go.ChangeShapes Go.WideShapes Go.ChangeAt Go.RowKit
namespace Ep

/-! plain: 64 bits as two halves -/
theorem lo_bits (e : Int) (h0 : 0 ≤ e) (h1 : e < 18446744073709551616) : bits .and .u64 e 4294967295 = e % 4294967296 := by
  rw [u64_and e 4294967295 h0 h1 (by decide) (by decide)]
  have h : e.toNat &&& (4294967295 : Int).toNat = e.toNat % 4294967296 := Nat.and_two_pow_sub_one_eq_mod e.toNat 32
  rw [h]; omega
theorem or_bits (t c : Int) (h0 : 0 ≤ t) (h1 : t ≤ 256) (h2 : 0 ≤ c) (h3 : c ≤ 1048576) : bits .or .u64 (t * 4294967296) c = t * 4294967296 + c := by
  rw [u64_or _ c (by omega) (by omega) h2 (by omega)]
  have h : (t * 4294967296).toNat ||| c.toNat = (t * 4294967296).toNat + c.toNat := nat_join 32 _ _ (by omega) (by omega)
  rw [h]; omega

theorem mkf : ∀ (fn : Fn) (first cap : Array Value) (w : World), (Instr.makeFunc fn first cap).run Tryz.prog w = .ok (.func fn first cap) w := fun _ _ _ _ => rfl

set_option maxHeartbeats 400000 in
theorem pack_ok (t c : Int) (h0 : 0 ≤ t) (h1 : t < 256) (h2 : 1 ≤ c) (h3 : c ≤ 1048576) (w : World) :
    Calls Tryz.prog 114 #[.int .i64 t, .int .i64 c] w fun r w' => r = .returned (.tuple #[.int .u64 ((t + 1) * 4294967296 + c), .int .i64 0]) ∧ w' = w := by
  have hb := or_bits (t + 1) c (by omega) (by omega) (by omega) h3
  go_enter Tryz.func114, Tryz.ntmps114
  go_wp2
  go_ret2
  exact ⟨rfl, rfl⟩

set_option maxHeartbeats 400000 in
theorem pack_no (t c : Int) (h : t < 0 ∨ 256 ≤ t ∨ c < 1 ∨ 1048576 < c) (w : World) :
    Calls Tryz.prog 114 #[.int .i64 t, .int .i64 c] w fun r w' => r = .returned (.tuple #[.int .u64 0, .int .i64 1]) ∧ w' = w := by
  by_cases a : t < 0
  · go_enter Tryz.func114, Tryz.ntmps114
    go_wp2
    go_ret2
    exact ⟨rfl, rfl⟩
  by_cases b : 256 ≤ t
  · go_enter Tryz.func114, Tryz.ntmps114
    go_wp2
    go_ret2
    exact ⟨rfl, rfl⟩
  by_cases hc : c < 1
  · clear h
    go_enter Tryz.func114, Tryz.ntmps114
    go_wp2
    go_ret2
    exact ⟨rfl, rfl⟩
  have d : decide (c ≤ 1048576) = false := by simp; omega
  clear h
  go_enter Tryz.func114, Tryz.ntmps114
  go_wp2
  go_ret2
  exact ⟨rfl, rfl⟩

set_option maxHeartbeats 400000 in
theorem parts_ok (e : Int) (h0 : 1 ≤ e / 4294967296) (h1 : e / 4294967296 ≤ 256) (h2 : 1 ≤ e % 4294967296) (h3 : e % 4294967296 ≤ 1048576) (w : World) :
    Calls Tryz.prog 47 #[.int .u64 e] w fun r w' => r = .returned (.tuple #[.int .i64 (e / 4294967296 - 1), .int .i64 (e % 4294967296)]) ∧ w' = w := by
  have hb := lo_bits e (by omega) (by omega)
  have a0 : 0 ≤ e := by omega
  have a1 : e ≤ 18446744073709551615 := by omega
  go_enter Tryz.func47, Tryz.ntmps47
  go_wp2
  go_ret2
  exact ⟨rfl, rfl⟩

set_option maxHeartbeats 400000 in
theorem parts_no (e : Int) (a0 : 0 ≤ e) (a1 : e ≤ 18446744073709551615) (h : e / 4294967296 < 1 ∨ 256 < e / 4294967296 ∨ e % 4294967296 < 1 ∨ 1048576 < e % 4294967296) (w : World) :
    Calls Tryz.prog 47 #[.int .u64 e] w fun r w' => r = .returned (.tuple #[.int .i64 (-1), .int .i64 0]) ∧ w' = w := by
  have hb := lo_bits e (by omega) (by omega)
  by_cases a : e / 4294967296 < 1
  · go_enter Tryz.func47, Tryz.ntmps47
    go_wp2
    go_ret2
    exact ⟨rfl, rfl⟩
  by_cases b : 256 < e / 4294967296
  · go_enter Tryz.func47, Tryz.ntmps47
    go_wp2
    go_ret2
    exact ⟨rfl, rfl⟩
  by_cases c : e % 4294967296 < 1
  · clear h
    go_enter Tryz.func47, Tryz.ntmps47
    go_wp2
    go_ret2
    exact ⟨rfl, rfl⟩
  have d : 1048576 < e % 4294967296 := by omega
  clear h
  go_enter Tryz.func47, Tryz.ntmps47
  go_wp2
  go_ret2
  exact ⟨rfl, rfl⟩

/-- a tid's clock -/
def Own (e : Int) : Prop := 1 ≤ e / 4294967296 ∧ e / 4294967296 ≤ 256 ∧ 1 ≤ e % 4294967296 ∧ e % 4294967296 ≤ 1048576
def ownB (e : Int) : Bool := decide (1 ≤ e / 4294967296 ∧ e / 4294967296 ≤ 256 ∧ 1 ≤ e % 4294967296 ∧ e % 4294967296 ≤ 1048576)
def tidOf (e : Int) : Int := bif ownB e then e / 4294967296 - 1 else -1
def clkOf (e : Int) : Int := bif ownB e then e % 4294967296 else 0
theorem tid_own (e : Int) (h : ownB e = true) : tidOf e = e / 4294967296 - 1 := by simp [tidOf, h]
theorem clk_own (e : Int) (h : ownB e = true) : clkOf e = e % 4294967296 := by simp [clkOf, h]
theorem tid_not (e : Int) (h : ownB e = false) : tidOf e = -1 := by simp [tidOf, h]
theorem clk_not (e : Int) (h : ownB e = false) : clkOf e = 0 := by simp [clkOf, h]
theorem own_bd (e : Int) (h : ownB e = true) : 1 ≤ e / 4294967296 ∧ e / 4294967296 ≤ 256 ∧ 1 ≤ e % 4294967296 ∧ e % 4294967296 ≤ 1048576 := by simpa [ownB] using h
theorem not_bd (e : Int) (h : ownB e = false) : e / 4294967296 < 1 ∨ 256 < e / 4294967296 ∨ e % 4294967296 < 1 ∨ 1048576 < e % 4294967296 := by
  have := of_decide_eq_false h; omega
theorem tid_rng (e : Int) : -1 ≤ tidOf e ∧ tidOf e ≤ 255 := by
  cases h : ownB e
  · rw [tid_not e h]; omega
  · rw [tid_own e h]; have := own_bd e h; omega
theorem clk_rng (e : Int) : 0 ≤ clkOf e ∧ clkOf e ≤ 1048576 := by
  cases h : ownB e
  · rw [clk_not e h]; omega
  · rw [clk_own e h]; have := own_bd e h; omega

theorem parts_any (e : Int) (a0 : 0 ≤ e) (a1 : e ≤ 18446744073709551615) (w : World) :
    Calls Tryz.prog 47 #[.int .u64 e] w fun r w' => r = .returned (.tuple #[.int .i64 (tidOf e), .int .i64 (clkOf e)]) ∧ w' = w := by
  cases h : ownB e
  · rw [tid_not e h, clk_not e h]; exact parts_no e a0 a1 (not_bd e h) w
  · rw [tid_own e h, clk_own e h]; obtain ⟨h0, h1, h2, h3⟩ := own_bd e h; exact parts_ok e h0 h1 h2 h3 w

set_option maxHeartbeats 400000 in
theorem tid_any (e : Int) (a0 : 0 ≤ e) (a1 : e ≤ 18446744073709551615) (w : World) :
    Calls Tryz.prog 26 #[.int .u64 e] w fun r w' => r = .returned (.int .i64 (tidOf e)) ∧ w' = w := by
  go_enter Tryz.func26, Tryz.ntmps26
  go_wp2_with (go_at_call 47; refine (parts_any e a0 a1 _).mono ?_; rintro r w' ⟨rfl, rfl⟩)
  go_ret
  exact ⟨rfl, rfl⟩

theorem own_tid (e : Int) : (decide (0 ≤ tidOf e) && decide (tidOf e ≤ 255)) = ownB e := by
  cases h : ownB e
  · rw [tid_not e h]; rfl
  · rw [tid_own e h]; have := own_bd e h; simp; omega

set_option maxHeartbeats 400000 in
theorem isClock_any (n : Int) (w : World) :
    Calls Tryz.prog 116 #[.int .i64 n] w fun r w' => r = .returned (.bool (decide (1 ≤ n) && decide (n ≤ 1048576))) ∧ w' = w := by
  by_cases h1 : 1 ≤ n <;> by_cases h2 : n ≤ 1048576
  all_goals
    go_enter Tryz.func116, Tryz.ntmps116
    go_wp2
    go_ret
    simp [h1, h2]

theorem ret_epoch {a b : Int} {c : Int} (h : a = b) : Ending.returned (.tuple #[.int .u64 a, .int .i64 c]) = .returned (.tuple #[.int .u64 b, .int .i64 c]) := by rw [h]

end Ep
end Go.Proofs.YtakbbhngcdccpaaGreat
