/- The reference's clock (an array of 256 numbers) in memory: Get, Set, Tick, over this seat's program. -/
import Derived.Test.YtfimfgffbfjkeaaCt
import Derived.Deep.MidRow
import Derived.Deep.WholeRow
namespace Go.Proofs.Ytfimfgffbfjkeaa
open Go.ChangeShapes Go.WideShapes Go.ChangeAt Go.RowKit
namespace Ck

/-- the 256 numbers F lie in block b from off on, and may be written -/
def RA (w : World) (b off : Nat) (F : Nat → Int) : Prop := ∀ k, k < 256 → w.cell? ⟨b, off + k, none⟩ = some (.int .i64 (F k)) ∧ w.frozen? ⟨b, off + k, none⟩ = false

/-- a tid's number -/
def rg (F : Nat → Int) (t : Int) : Int := if 0 ≤ t ∧ t < 256 then F t.toNat else 0
theorem rg_out (F : Nat → Int) (t : Int) (h : t < 0 ∨ 256 ≤ t) : rg F t = 0 := by
  have : ¬ (0 ≤ t ∧ t < 256) := by omega
  simp [rg, this]
theorem rg_nat (F : Nat → Int) (k : Nat) (h : k < 256) : rg F (k : Int) = F k := by
  have : 0 ≤ (k : Int) ∧ (k : Int) < 256 := by omega
  simp only [rg, if_pos this, Int.toNat_natCast]

set_option maxHeartbeats 400000 in
theorem rget_any (b off : Nat) (F : Nat → Int) (t : Int) (w : World) (h : RA w b off F) :
    Calls Try.prog 38 #[.pointer (some ⟨b, off, none⟩), .int .i64 t] w fun r w' => r = .returned (.int .i64 (rg F t)) ∧ w' = w := by
  by_cases h0 : t < 0
  · rw [rg_out F t (.inl h0)]
    clear h
    go_enter Try.func38, Try.ntmps38
    go_wp2
    go_ret
    exact ⟨rfl, rfl⟩
  by_cases h1 : 256 ≤ t
  · rw [rg_out F t (.inr h1)]
    clear h
    go_enter Try.func38, Try.ntmps38
    go_wp2
    go_ret
    exact ⟨rfl, rfl⟩
  obtain ⟨k, rfl⟩ := Int.eq_ofNat_of_zero_le (by omega : 0 ≤ t)
  have hk : k < 256 := by omega
  rw [rg_nat F k hk]
  have hc := (h k hk).1
  clear h h0 h1
  go_enter Try.func38, Try.ntmps38
  go_wp2
  go_ret
  exact ⟨rfl, rfl⟩

set_option maxHeartbeats 400000 in
theorem rset_no (p : Option Addr) (t n : Int) (w : World) (h : okT t = false ∨ okN n = false) :
    Calls Try.prog 22 #[.pointer p, .int .i64 t, .int .i64 n] w fun r w' => r = .returned (.int .i64 1) ∧ w' = w := by
  have h' : t < 0 ∨ 256 ≤ t ∨ n < 0 ∨ 1048576 < n := by
    rcases h with h | h
    · have : ¬ (okT t = true) := by rw [h]; simp
      rw [okT_iff] at this; omega
    · have : ¬ (okN n = true) := by rw [h]; simp
      rw [okN_iff] at this; omega
  clear h
  by_cases h0 : t < 0
  · clear h'
    go_enter Try.func22, Try.ntmps22
    go_wp2
    go_ret
    exact ⟨rfl, rfl⟩
  by_cases h1 : 256 ≤ t
  · clear h'
    go_enter Try.func22, Try.ntmps22
    go_wp2
    go_ret
    exact ⟨rfl, rfl⟩
  by_cases h2 : n < 0
  · clear h'
    go_enter Try.func22, Try.ntmps22
    go_wp2
    go_ret
    exact ⟨rfl, rfl⟩
  have h3 : 1048576 < n := by omega
  clear h'
  go_enter Try.func22, Try.ntmps22
  go_wp2
  go_ret
  exact ⟨rfl, rfl⟩

set_option maxRecDepth 100000 in
set_option maxHeartbeats 800000 in
theorem rset_ok (b off : Nat) (F : Nat → Int) (t : Nat) (n : Int) (w : World) (h : RA w b off F) (ht : t < 256) (hn : okN n = true) :
    Calls Try.prog 22 #[.pointer (some ⟨b, off, none⟩), .int .i64 (t : Int), .int .i64 n] w fun r w' => r = .returned (.int .i64 0) ∧ w' = w.setCell ⟨b, off + t, none⟩ (.int .i64 n) := by
  obtain ⟨hc, hf⟩ := h t ht
  obtain ⟨n0, n1⟩ := (okN_iff n).1 hn
  clear h hn
  go_enter Try.func22, Try.ntmps22
  go_wp2
  go_ret
  exact ⟨rfl, rfl⟩

set_option maxHeartbeats 400000 in
theorem rtick_no (p : Option Addr) (t n : Int) (w : World) (h : okT t = false ∨ okM n = false) :
    Calls Try.prog 52 #[.pointer p, .int .i64 t, .int .i64 n] w fun r w' => r = .returned (.int .i64 1) ∧ w' = w := by
  have h' : t < 0 ∨ 256 ≤ t ∨ n < 1 ∨ 1048576 < n := by
    rcases h with h | h
    · have : ¬ (okT t = true) := by rw [h]; simp
      rw [okT_iff] at this; omega
    · have : ¬ (okM n = true) := by rw [h]; simp
      rw [okM_iff] at this; omega
  clear h
  by_cases h0 : t < 0
  · clear h'
    go_enter Try.func52, Try.ntmps52
    go_wp2
    go_ret
    exact ⟨rfl, rfl⟩
  by_cases h1 : 256 ≤ t
  · clear h'
    go_enter Try.func52, Try.ntmps52
    go_wp2
    go_ret
    exact ⟨rfl, rfl⟩
  by_cases h2 : n < 1
  · clear h'
    go_enter Try.func52, Try.ntmps52
    go_wp2
    go_ret
    exact ⟨rfl, rfl⟩
  have h3 : 1048576 < n := by omega
  clear h'
  go_enter Try.func52, Try.ntmps52
  go_wp2
  go_ret
  exact ⟨rfl, rfl⟩

set_option maxRecDepth 100000 in
set_option maxHeartbeats 800000 in
theorem rtick_full (b off : Nat) (F : Nat → Int) (t : Nat) (n : Int) (w : World) (h : RA w b off F) (ht : t < 256) (hn : okM n = true) (hf : n ≤ F t) :
    Calls Try.prog 52 #[.pointer (some ⟨b, off, none⟩), .int .i64 (t : Int), .int .i64 n] w fun r w' => r = .returned (.int .i64 5) ∧ w' = w := by
  obtain ⟨hc, hf⟩ := h t ht
  obtain ⟨n0, n1⟩ := (okM_iff n).1 hn
  clear h hn
  go_enter Try.func52, Try.ntmps52
  go_wp2
  go_ret
  exact ⟨rfl, rfl⟩

set_option maxRecDepth 100000 in
set_option maxHeartbeats 800000 in
theorem rtick_ok (b off : Nat) (F : Nat → Int) (t : Nat) (n : Int) (w : World) (h : RA w b off F) (ht : t < 256) (hn : okM n = true) (h0 : 0 ≤ F t) (hlt : F t < n) :
    Calls Try.prog 52 #[.pointer (some ⟨b, off, none⟩), .int .i64 (t : Int), .int .i64 n] w fun r w' => r = .returned (.int .i64 0) ∧ w' = (w.setCell ⟨b, off + t, none⟩ (.int .i64 (F t + 1))).drew := by
  obtain ⟨hc, hf⟩ := h t ht
  obtain ⟨n0, n1⟩ := (okM_iff n).1 hn
  clear h hn
  go_enter Try.func52, Try.ntmps52
  go_wp2
  go_region
  all_goals
    go_wp2
    go_ret
    exact ⟨rfl, rfl⟩
end Ck
end Go.Proofs.Ytfimfgffbfjkeaa
