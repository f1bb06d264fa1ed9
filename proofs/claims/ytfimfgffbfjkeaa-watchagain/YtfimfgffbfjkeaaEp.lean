/- Contracts of package epoch (Pack, parts, Tid, Clock, isOwned, Check, Next, Seen, Less) and of the laws' own two(), each over this seat's program. -/
import Derived.Test.YtfimfgffbfjkeaaRows
import Derived.WalkKit
import Derived.ProofKit
import Derived.OpenShut
import Derived.WalkLawsBesides
import Derived.WalkSpells
namespace Go.Proofs.Ytfimfgffbfjkeaa
open Go.ChangeShapes Go.WideShapes Go.ChangeAt Go.RowKit
namespace Ep

/-! plain: 64 bits as two halves -/
theorem lo_bits (e : Int) (h0 : 0 ≤ e) (h1 : e < 18446744073709551616) : bits .and .u64 e 4294967295 = e % 4294967296 := by
  rw [u64_and e 4294967295 h0 h1 (by decide) (by decide)]
  have h : e.toNat &&& (4294967295 : Int).toNat = e.toNat % 4294967296 := Nat.and_two_pow_sub_one_eq_mod e.toNat 32
  rw [h]; omega
theorem or_bits (t c : Int) (h0 : 0 ≤ t) (h1 : t ≤ 256) (h2 : 0 ≤ c) (h3 : c ≤ 1048576) : bits .or .u64 (t * 4294967296) c = t * 4294967296 + c := by
  rw [u64_or _ c (by omega) (by omega) h2 (by omega)]
  have h : (t * 4294967296).toNat ||| c.toNat = (t * 4294967296).toNat + c.toNat := nat_join 32 _ _ (by omega) (by omega)
  rw [h]; omega

theorem mkf : ∀ (fn : Fn) (first cap : Array Value) (w : World), (Instr.makeFunc fn first cap).run Try.prog w = .ok (.func fn first cap) w := fun _ _ _ _ => rfl

set_option maxHeartbeats 400000 in
theorem pack_ok (t c : Int) (h0 : 0 ≤ t) (h1 : t < 256) (h2 : 1 ≤ c) (h3 : c ≤ 1048576) (w : World) :
    Calls Try.prog 37 #[.int .i64 t, .int .i64 c] w fun r w' => r = .returned (.tuple #[.int .u64 ((t + 1) * 4294967296 + c), .int .i64 0]) ∧ w' = w := by
  have hb := or_bits (t + 1) c (by omega) (by omega) (by omega) h3
  go_enter Try.func37, Try.ntmps37
  go_wp2
  go_ret2
  exact ⟨rfl, rfl⟩

set_option maxHeartbeats 400000 in
theorem pack_no (t c : Int) (h : t < 0 ∨ 256 ≤ t ∨ c < 1 ∨ 1048576 < c) (w : World) :
    Calls Try.prog 37 #[.int .i64 t, .int .i64 c] w fun r w' => r = .returned (.tuple #[.int .u64 0, .int .i64 1]) ∧ w' = w := by
  by_cases a : t < 0
  · go_enter Try.func37, Try.ntmps37
    go_wp2
    go_ret2
    exact ⟨rfl, rfl⟩
  by_cases b : 256 ≤ t
  · go_enter Try.func37, Try.ntmps37
    go_wp2
    go_ret2
    exact ⟨rfl, rfl⟩
  by_cases hc : c < 1
  · clear h
    go_enter Try.func37, Try.ntmps37
    go_wp2
    go_ret2
    exact ⟨rfl, rfl⟩
  have d : decide (c ≤ 1048576) = false := by simp; omega
  clear h
  go_enter Try.func37, Try.ntmps37
  go_wp2
  go_ret2
  exact ⟨rfl, rfl⟩

/-- a tid's clock -/
def Own (e : Int) : Prop := 1 ≤ e / 4294967296 ∧ e / 4294967296 ≤ 256 ∧ 1 ≤ e % 4294967296 ∧ e % 4294967296 ≤ 1048576
def ownB (e : Int) : Bool := decide (1 ≤ e / 4294967296 ∧ e / 4294967296 ≤ 256 ∧ 1 ≤ e % 4294967296 ∧ e % 4294967296 ≤ 1048576)
def tidOf (e : Int) : Int := bif ownB e then e / 4294967296 - 1 else -1
def clkOf (e : Int) : Int := bif ownB e then e % 4294967296 else 0
theorem tid_own (e : Int) (h : ownB e = true) : tidOf e = e / 4294967296 - 1 := by simp [tidOf, h]
theorem clk_own (e : Int) (h : ownB e = true) : clkOf e = e % 4294967296 := by simp [clkOf, h]
theorem tid_not (e : Int) (h : ownB e = false) : tidOf e = -1 := by simp [tidOf, h]
theorem clk_not (e : Int) (h : ownB e = false) : clkOf e = 0 := by simp [clkOf, h]
theorem own_bd (e : Int) (h : ownB e = true) : 1 ≤ e / 4294967296 ∧ e / 4294967296 ≤ 256 ∧ 1 ≤ e % 4294967296 ∧ e % 4294967296 ≤ 1048576 := by simpa [ownB] using h
theorem not_bd (e : Int) (h : ownB e = false) : e / 4294967296 < 1 ∨ 256 < e / 4294967296 ∨ e % 4294967296 < 1 ∨ 1048576 < e % 4294967296 := by
  have := of_decide_eq_false h; omega
theorem tid_rng (e : Int) : -1 ≤ tidOf e ∧ tidOf e ≤ 255 := by
  cases h : ownB e
  · rw [tid_not e h]; omega
  · rw [tid_own e h]; have := own_bd e h; omega
theorem clk_rng (e : Int) : 0 ≤ clkOf e ∧ clkOf e ≤ 1048576 := by
  cases h : ownB e
  · rw [clk_not e h]; omega
  · rw [clk_own e h]; have := own_bd e h; omega

theorem own_tid (e : Int) : (decide (0 ≤ tidOf e) && decide (tidOf e ≤ 255)) = ownB e := by
  cases h : ownB e
  · rw [tid_not e h]; rfl
  · rw [tid_own e h]; have := own_bd e h; simp; omega

set_option maxHeartbeats 400000 in
theorem isClock_any (n : Int) (w : World) :
    Calls Try.prog 54 #[.int .i64 n] w fun r w' => r = .returned (.bool (decide (1 ≤ n) && decide (n ≤ 1048576))) ∧ w' = w := by
  by_cases h1 : 1 ≤ n <;> by_cases h2 : n ≤ 1048576
  all_goals
    go_enter Try.func54, Try.ntmps54
    go_wp2
    go_ret
    simp [h1, h2]

theorem ret_epoch {a b : Int} {c : Int} (h : a = b) : Ending.returned (.tuple #[.int .u64 a, .int .i64 c]) = .returned (.tuple #[.int .u64 b, .int .i64 c]) := by rw [h]

end Ep
end Go.Proofs.Ytfimfgffbfjkeaa
