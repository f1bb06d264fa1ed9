/- Layer 25 (matrix), over this seat's program: a matrix in memory; bit, Size, Has, Set, join. -/
import Derived.Test.YtdfjcmlafhannaaNa2
import Derived.Test.YtdfjcmlafhannaaBi
import Derived.Test.YtdfjcmlafhannaaBk
import Derived.Deep.Cut
import Derived.Deep.DeepCutAuto
import Derived.Deep.RegionHeld3
namespace Go.Proofs.Ytdfjcmlafhannaa
open Go.ChangeShapes Go.WideShapes Go.ChangeAt Go.RowKit
namespace Mx
open Ba (KB btr heap_lt cell_of frozen_of ret_bool ret_int bdrew)

/-- how many words a row has -/
def ln (n : Nat) : Nat := (n + 63) / 64
/-- a word of a row -/
def wd (x j : Nat) : Nat := x / 2 ^ (64 * j) % 2 ^ 64
theorem wd_lt (x j : Nat) : wd x j < 18446744073709551616 := Nat.mod_lt _ (by decide)
theorem wd_bit (x j b : Nat) : (wd x j).testBit b = (decide (b < 64) && x.testBit (64 * j + b)) := by
  unfold wd
  rw [Nat.testBit_mod_two_pow, Nat.testBit_div_two_pow, Nat.add_comm b]
theorem wd_or (x y j : Nat) : wd (x ||| y) j = wd x j ||| wd y j := by
  apply Nat.eq_of_testBit_eq
  intro b
  rw [wd_bit, Nat.testBit_or, Nat.testBit_or, wd_bit, wd_bit]
  cases decide (b < 64) <;> rfl
theorem wd_set (x k j : Nat) : wd (x ||| 2 ^ k) j = if j = k / 64 then wd x j ||| 2 ^ (k % 64) else wd x j := by
  rw [wd_or]
  have e : wd (2 ^ k) j = if j = k / 64 then 2 ^ (k % 64) else 0 := by
    apply Nat.eq_of_testBit_eq
    intro b
    rw [wd_bit, Nat.testBit_two_pow]
    split
    · next h =>
      subst h
      rw [Nat.testBit_two_pow, Bool.eq_iff_iff]
      simp only [Bool.and_eq_true, decide_eq_true_eq]
      omega
    · next h =>
      rw [Nat.zero_testBit]
      simp only [Bool.and_eq_false_iff, decide_eq_false_iff_not]
      omega
  rw [e]
  split
  · rfl
  · exact Nat.or_zero _
theorem bit_lt (k : Nat) : 2 ^ (k % 64) < 18446744073709551616 := by
  have : 2 ^ (k % 64) < 2 ^ 64 := Nat.pow_lt_pow_right (by decide) (Nat.mod_lt _ (by decide))
  simpa using this
/-- a number's bit in its word -/
theorem and_bit (x k : Nat) : (wd x (k / 64) &&& 2 ^ (k % 64) != 0) = x.testBit k := by
  have h := Nat.testBit_two_pow_mul_add
  have e : wd x (k / 64) &&& 2 ^ (k % 64) = if x.testBit k then 2 ^ (k % 64) else 0 := by
    apply Nat.eq_of_testBit_eq
    intro b
    rw [Nat.testBit_and, wd_bit, Nat.testBit_two_pow]
    by_cases hb : k % 64 = b
    · subst hb
      rw [show 64 * (k / 64) + k % 64 = k by omega]
      have : decide (k % 64 < 64) = true := by simp; omega
      rw [this]
      cases x.testBit k <;> simp
    · have : decide (k % 64 = b) = false := by simpa using hb
      rw [this, Bool.and_false]
      split
      · rw [Nat.testBit_two_pow, this]
      · rw [Nat.zero_testBit]
  rw [e]
  cases x.testBit k
  · rfl
  · simp only [if_true, bne_iff_ne, ne_eq]
    exact Nat.ne_of_gt (Nat.two_pow_pos _)

/-- a matrix of n numbers at block M, its rows at R, its words at W -/
structure MW (w : World) (M R W n : Nat) (r : Rws) : Prop where
  le : n ≤ 1024
  hd : w.heap[M]? = some (.cells #[.slice (some ⟨R, 0, none⟩) n n] 48)
  row : ∀ i, i < n → w.cell? ⟨R, i, none⟩ = some (.slice (some ⟨W, i * ln n, none⟩) (ln n) (ln n))
  wrd : ∀ i j, i < n → j < ln n → w.cell? ⟨W, i * ln n + j, none⟩ = some (.int .u64 (wd (r i) j))
  frz : ∀ k, w.frozen? ⟨W, k, none⟩ = false
  mw : M ≠ W
  rw : R ≠ W
  bd : Bd n r
  rl : R < w.heap.size
  wl : W < w.heap.size
theorem ln_le {n : Nat} (h : n ≤ 1024) : ln n ≤ 16 := by unfold ln; omega
theorem MW.mcell {w : World} {M R W n : Nat} {r : Rws} (m : MW w M R W n r) : w.cell? ⟨M, 0, none⟩ = some (.slice (some ⟨R, 0, none⟩) n n) := by
  rw [cell_of m.hd]; rfl
theorem MW.cell_lt {w : World} {M R W n : Nat} {r : Rws} (m : MW w M R W n r) : M < w.heap.size := heap_lt m.hd
theorem frozen_kept {w w' : World} {b : Nat} (h : w'.heap[b]? = w.heap[b]?) (k : Nat) : w'.frozen? ⟨b, k, none⟩ = w.frozen? ⟨b, k, none⟩ := by
  simp [World.frozen?, h]
theorem cell_kept {w w' : World} {b : Nat} (h : w'.heap[b]? = w.heap[b]?) (k : Nat) : w'.cell? ⟨b, k, none⟩ = w.cell? ⟨b, k, none⟩ := by
  simp [World.cell?, h]
theorem frozen_out {w : World} {b : Nat} (h : w.heap.size ≤ b) (k : Nat) : w.frozen? ⟨b, k, none⟩ = false := by
  simp [World.frozen?, Array.getElem?_eq_none h]
theorem lt_kept {w w' : World} {b : Nat} (h : w'.heap[b]? = w.heap[b]?) (hl : b < w.heap.size) : b < w'.heap.size := by
  rw [Array.getElem?_eq_getElem hl] at h
  exact heap_lt h
/-- its three blocks are as they were -/
theorem MW.keep {w w' : World} {M R W n : Nat} {r : Rws} (m : MW w M R W n r) (h1 : w'.heap[M]? = w.heap[M]?) (h2 : w'.heap[R]? = w.heap[R]?) (h3 : w'.heap[W]? = w.heap[W]?) : MW w' M R W n r :=
  ⟨m.le, h1.trans m.hd, fun i hi => (cell_kept h2 i).trans (m.row i hi), fun i j hi hj => (cell_kept h3 _).trans (m.wrd i j hi hj), fun k => (frozen_kept h3 k).trans (m.frz k), m.mw, m.rw, m.bd, lt_kept h2 m.rl, lt_kept h3 m.wl⟩

/-- a number's bit -/
def bt (k : Nat) : Int := ((2 ^ (k % 64) : Nat) : Int)
theorem bt_eq (k : Nat) : (2 : Int) ^ (k % 64) = bt k := (Int.natCast_pow 2 (k % 64)).symm
theorem bt_wrap (k : Nat) : IntKind.u64.wrap (bt k) = bt k := wrap_u64n _ (bit_lt k)
set_option maxHeartbeats 400000 in
theorem bit_any (k : Nat) (w : World) (h : k ≤ 1024) :
    Calls Try.prog 24 #[.int .i64 (k : Int)] w fun r w' => r = .returned (.int .u64 (bt k)) ∧ w' = w := by
  have h64 : ((k : Int) % 64).toNat = k % 64 := by omega
  have hp := bt_eq k
  have hw := bt_wrap k
  go_enter Try.func24, Try.ntmps24
  go_wp2
  go_ret
  exact ⟨rfl, rfl⟩

theorem MW.below {w w' : World} {M R W n : Nat} {r : Rws} (m : MW w M R W n r) (b : Below w.heap.size w w') : MW w' M R W n r :=
  m.keep (b.block M m.cell_lt) (b.block R m.rl) (b.block W m.wl)
theorem MW.kb {w w' : World} {M R W n X : Nat} {r : Rws} (m : MW w M R W n r) (b : KB X w w') (h1 : M ≠ X) (h2 : R ≠ X) (h3 : W ≠ X) : MW w' M R W n r :=
  m.keep (b.block M m.cell_lt h1) (b.block R m.rl h2) (b.block W m.wl h3)
set_option maxHeartbeats 400000 in
theorem size_nil (w : World) :
    Calls Try.prog 20 #[.pointer none] w fun r w' => r = .returned (.int .i64 0) ∧ w' = w := by
  go_enter Try.func20, Try.ntmps20
  go_wp2
  go_ret
  exact ⟨rfl, rfl⟩
set_option maxHeartbeats 400000 in
theorem size_any {w : World} {M R W n : Nat} {r : Rws} (m : MW w M R W n r) :
    Calls Try.prog 20 #[.pointer (some ⟨M, 0, none⟩)] w fun e w' => e = .returned (.int .i64 (n : Int)) ∧ w' = w := by
  have c0 := m.mcell
  have hn := m.le
  clear m
  go_enter Try.func20, Try.ntmps20
  go_wp2
  go_ret
  exact ⟨rfl, rfl⟩

/-- what Has asks of two numbers -/
def inB (n : Nat) (i k : Int) : Bool := decide (0 ≤ i) && decide (0 ≤ k) && decide (i < n) && decide (k < n)
theorem and_bt (x k : Nat) : bits .and .u64 ((wd x (k / 64) : Nat) : Int) (bt k) = ((wd x (k / 64) &&& 2 ^ (k % 64) : Nat) : Int) := and_nat _ _ (wd_lt _ _) (bit_lt k)
theorem or_bt (x k : Nat) : bits .or .u64 ((wd x (k / 64) : Nat) : Int) (bt k) = ((wd x (k / 64) ||| 2 ^ (k % 64) : Nat) : Int) := or_nat _ _ (wd_lt _ _) (bit_lt k)
theorem and_ne (x k : Nat) : (bits .and .u64 ((wd x (k / 64) : Nat) : Int) (bt k) != 0) = x.testBit k := by
  rw [and_bt, ← and_bit x k, Bool.eq_iff_iff]
  simp only [bne_iff_ne, ne_eq]
  omega
theorem idx_lt {n k : Nat} (hk : k < n) : k / 64 < ln n := by unfold ln; omega
set_option maxRecDepth 100000 in
set_option maxHeartbeats 1600000 in
theorem has_in {w : World} {M R W n : Nat} {r : Rws} (m : MW w M R W n r) (i k : Nat) (hi : i < n) (hk : k < n) :
    Calls Try.prog 13 #[.pointer (some ⟨M, 0, none⟩), .int .i64 (i : Int), .int .i64 (k : Int)] w fun e w' => e = .returned (.bool (hs r i k)) ∧ ∃ q, w' = w.drewN q := by
  have SZ := hide (size_any m)
  have BI := hide (fun u => bit_any k u (by have := m.le; omega))
  have hle := m.le
  have hj : k / 64 < ln n := by unfold ln; omega
  have hl := ln_le m.le
  have c0 := m.mcell
  have c1 := m.row i hi
  have c2 := m.wrd i (k / 64) hi hj
  have AN := hide (and_ne (r i) k)
  generalize hx : wd (r i) (k / 64) = x at *
  clear hx
  have hs' : (r i).testBit k = hs r i k := rfl
  rw [hs'] at AN
  clear hs'
  generalize hs r i k = b at *
  have hq : ((k : Int) / 64) = ((k / 64 : Nat) : Int) := by omega
  generalize k / 64 = kq at *
  generalize i * ln n = il at *
  generalize ln n = L at *
  have a1 : decide (0 ≤ (i : Int)) = true := by simp
  have a2 : decide (0 ≤ (k : Int)) = true := by simp
  have a3 : decide ((i : Int) < (n : Int)) = true := by simpa using hi
  have a4 : decide ((k : Int) < (n : Int)) = true := by simpa using hk
  have a5 : (kq : Int) < (L : Int) := by omega
  have a6 : (i : Int) < (n : Int) := by omega
  have AN2 := AN.out
  clear m
  go_enter Try.func13, Try.ntmps13
  go_wp2_with fail
  refine SZ.out.mono ?_
  rintro e w1 ⟨rfl, e1⟩
  obtain rfl := e1.symm
  go_wp2_with fail
  go_quiet ((go_at_call 24; exact Calls.quiet_of_same (BI.out _)))
  go_wp2
  go_ret
  exact ⟨rfl, _, rfl⟩
theorem inB_iff (n : Nat) (i k : Int) : inB n i k = true ↔ 0 ≤ i ∧ 0 ≤ k ∧ i < n ∧ k < n := by
  simp only [inB, Bool.and_eq_true, decide_eq_true_eq]; constructor <;> (intro h; omega)
set_option maxRecDepth 100000 in
set_option maxHeartbeats 1600000 in
theorem has_out {w : World} {M R W n : Nat} {r : Rws} (m : MW w M R W n r) (i k : Int) (h : inB n i k = false) :
    Calls Try.prog 13 #[.pointer (some ⟨M, 0, none⟩), .int .i64 i, .int .i64 k] w fun e w' => e = .returned (.bool false) ∧ ∃ q, w' = w.drewN q := by
  have SZ := hide (size_any m)
  have hle := m.le
  clear m
  by_cases h1 : 0 ≤ i
  · have a1 : decide (0 ≤ i) = true := by simpa using h1
    by_cases h2 : 0 ≤ k
    · have a2 : decide (0 ≤ k) = true := by simpa using h2
      by_cases h3 : i < (n : Int)
      · have a3 : decide (i < (n : Int)) = true := by simpa using h3
        have a4 : decide (k < (n : Int)) = false := by
          cases e : decide (k < (n : Int))
          · rfl
          · simp [inB, a1, a2, a3, e] at h
        clear h h1 h2 h3
        go_enter Try.func13, Try.ntmps13
        go_wp2_with fail
        refine SZ.out.mono ?_
        rintro e w1 ⟨rfl, e1⟩
        obtain rfl := e1.symm
        go_wp2_with fail
        go_quiet (fail)
        go_wp2
        go_ret
        exact ⟨rfl, _, rfl⟩
      · have a3 : decide (i < (n : Int)) = false := by simpa using h3
        clear h h1 h2 h3
        go_enter Try.func13, Try.ntmps13
        go_wp2_with fail
        refine SZ.out.mono ?_
        rintro e w1 ⟨rfl, e1⟩
        obtain rfl := e1.symm
        go_wp2_with fail
        go_quiet (fail)
        go_wp2
        go_ret
        exact ⟨rfl, _, rfl⟩
    · have a2 : decide (0 ≤ k) = false := by simpa using h2
      clear h h1 h2
      go_enter Try.func13, Try.ntmps13
      go_wp2_with fail
      refine SZ.out.mono ?_
      rintro e w1 ⟨rfl, e1⟩
      obtain rfl := e1.symm
      go_wp2_with fail
      go_quiet (fail)
      go_wp2
      go_ret
      exact ⟨rfl, _, rfl⟩
  · have a1 : decide (0 ≤ i) = false := by simpa using h1
    clear h h1
    go_enter Try.func13, Try.ntmps13
    go_wp2_with fail
    refine SZ.out.mono ?_
    rintro e w1 ⟨rfl, e1⟩
    obtain rfl := e1.symm
    go_wp2_with fail
    go_quiet (fail)
    go_wp2
    go_ret
    exact ⟨rfl, _, rfl⟩
set_option maxRecDepth 100000 in
set_option maxHeartbeats 1600000 in
theorem has_nil (w : World) (i k : Int) :
    Calls Try.prog 13 #[.pointer none, .int .i64 i, .int .i64 k] w fun e w' => e = .returned (.bool false) ∧ ∃ q, w' = w.drewN q := by
  have SZ := hide (size_nil w)
  by_cases h1 : 0 ≤ i
  · have a1 : decide (0 ≤ i) = true := by simpa using h1
    have a3 : decide (i < 0) = false := by simpa using h1
    by_cases h2 : 0 ≤ k
    · have a2 : decide (0 ≤ k) = true := by simpa using h2
      clear h1 h2
      go_enter Try.func13, Try.ntmps13
      go_wp2_with fail
      refine SZ.out.mono ?_
      rintro e w1 ⟨rfl, e1⟩
      obtain rfl := e1.symm
      go_wp2_with fail
      go_quiet (fail)
      go_wp2
      go_ret
      exact ⟨rfl, _, rfl⟩
    · have a2 : decide (0 ≤ k) = false := by simpa using h2
      clear h1 h2
      go_enter Try.func13, Try.ntmps13
      go_wp2_with fail
      refine SZ.out.mono ?_
      rintro e w1 ⟨rfl, e1⟩
      obtain rfl := e1.symm
      go_wp2_with fail
      go_quiet (fail)
      go_wp2
      go_ret
      exact ⟨rfl, _, rfl⟩
  · have a1 : decide (0 ≤ i) = false := by simpa using h1
    clear h1
    go_enter Try.func13, Try.ntmps13
    go_wp2_with fail
    refine SZ.out.mono ?_
    rintro e w1 ⟨rfl, e1⟩
    obtain rfl := e1.symm
    go_wp2_with fail
    go_quiet (fail)
    go_wp2
    go_ret
    exact ⟨rfl, _, rfl⟩
end Mx
end Go.Proofs.Ytdfjcmlafhannaa
