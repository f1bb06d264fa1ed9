/- Layer 25 (matrix), over this seat's program: OnesCount64, Count. -/
import Derived.Test.YtdfjcmlafhannaaNa7
namespace Go.Proofs.Ytdfjcmlafhannaa
open Go.ChangeShapes Go.WideShapes Go.ChangeAt Go.RowKit
namespace Mx
open Ba (KB btr heap_lt cell_of frozen_of ret_bool ret_int bdrew bdrew1 heap_new below_alloc heap_below own_below)

theorem wrap_i64n (n : Nat) (h : n < 9223372036854775808) : IntKind.i64.wrap (n : Int) = (n : Int) := by
  rw [IntKind.wrap_i64]; omega
theorem and_i64 (x : Nat) (hx : x < 9223372036854775808) : bits .and .i64 (x : Int) 127 = ((x % 128 : Nat) : Int) := by
  have e : bits .and .i64 (x : Int) 127 = IntKind.i64.wrap (((BitVec.ofInt 64 (x : Int)) &&& (BitVec.ofInt 64 ((127 : Nat) : Int))).toNat : Int) := rfl
  rw [e, BitVec.toNat_and, ofInt_nat x (by omega), ofInt_nat 127 (by omega)]
  have : x &&& 127 = x % 128 := Nat.and_two_pow_sub_one_eq_mod x 7
  rw [this]
  exact wrap_i64n _ (by omega)
theorem div_nat (x d : Nat) : ((x : Int) / (d : Int)) = ((x / d : Nat) : Int) := by exact (Int.natCast_ediv x d).symm
theorem q1 (x : Nat) (h : x < 18446744073709551616) (ho : o1 x < 18446744073709551616) : IntKind.u64.wrap (bits .and .u64 ((x : Int) / 2) 6148914691236517205 + bits .and .u64 (x : Int) 6148914691236517205) = ((o1 x : Nat) : Int) := by
  have e1 := and_nat (x / 2) 6148914691236517205 (by omega) (by omega)
  have e2 := and_nat x 6148914691236517205 h (by omega)
  rw [show ((x / 2 : Nat) : Int) = (x : Int) / 2 from Int.natCast_ediv x 2] at e1
  rw [show ((6148914691236517205 : Nat) : Int) = 6148914691236517205 from rfl] at e1 e2
  rw [e1, e2, ← Int.natCast_add]
  exact wrap_u64n _ ho
theorem q2 (x : Nat) (h : x < 18446744073709551616) (ho : o2 x < 18446744073709551616) : IntKind.u64.wrap (bits .and .u64 ((x : Int) / 4) 3689348814741910323 + bits .and .u64 (x : Int) 3689348814741910323) = ((o2 x : Nat) : Int) := by
  have e1 := and_nat (x / 4) 3689348814741910323 (by omega) (by omega)
  have e2 := and_nat x 3689348814741910323 h (by omega)
  rw [show ((x / 4 : Nat) : Int) = (x : Int) / 4 from Int.natCast_ediv x 4] at e1
  rw [show ((3689348814741910323 : Nat) : Int) = 3689348814741910323 from rfl] at e1 e2
  rw [e1, e2, ← Int.natCast_add]
  exact wrap_u64n _ ho
theorem q3 (x : Nat) (h : x < 4991471925827290437) : bits .and .u64 (IntKind.u64.wrap ((x : Int) / 16 + (x : Int))) 1085102592571150095 = ((o3 x : Nat) : Int) := by
  have e0 : IntKind.u64.wrap ((x : Int) / 16 + (x : Int)) = ((x / 16 + x : Nat) : Int) := by
    rw [show (x : Int) / 16 + (x : Int) = ((x / 16 + x : Nat) : Int) by omega]
    exact wrap_u64n _ (by omega)
  have e1 := and_nat (x / 16 + x) 1085102592571150095 (by omega) (by omega)
  rw [show ((1085102592571150095 : Nat) : Int) = 1085102592571150095 from rfl] at e1
  rw [e0, e1]
  rfl
theorem q4 (x : Nat) (h : o4 x < 9223372036854775808) : IntKind.u64.wrap ((x : Int) + (x : Int) / 256) = ((o4 x : Nat) : Int) := by
  rw [show (x : Int) + (x : Int) / 256 = ((o4 x : Nat) : Int) by unfold o4; omega]
  exact wrap_u64n _ (by omega)
theorem q5 (x : Nat) (h : o5 x < 9223372036854775808) : IntKind.u64.wrap ((x : Int) + (x : Int) / 65536) = ((o5 x : Nat) : Int) := by
  rw [show (x : Int) + (x : Int) / 65536 = ((o5 x : Nat) : Int) by unfold o5; omega]
  exact wrap_u64n _ (by omega)
theorem q6 (x : Nat) (h : o6 x < 9223372036854775808) : IntKind.u64.wrap ((x : Int) + (x : Int) / 4294967296) = ((o6 x : Nat) : Int) := by
  rw [show (x : Int) + (x : Int) / 4294967296 = ((o6 x : Nat) : Int) by unfold o6; omega]
  exact wrap_u64n _ (by omega)
theorem qs (x : Nat) (h : x < 18446744073709551616) : ∃ y1 y2 y3 y4 y5 y6 : Nat, IntKind.u64.wrap (bits .and .u64 ((x : Int) / 2) 6148914691236517205 + bits .and .u64 (x : Int) 6148914691236517205) = (y1 : Int) ∧
    IntKind.u64.wrap (bits .and .u64 ((y1 : Int) / 4) 3689348814741910323 + bits .and .u64 (y1 : Int) 3689348814741910323) = (y2 : Int) ∧ bits .and .u64 (IntKind.u64.wrap ((y2 : Int) / 16 + (y2 : Int))) 1085102592571150095 = (y3 : Int) ∧
    IntKind.u64.wrap ((y3 : Int) + (y3 : Int) / 256) = (y4 : Int) ∧ IntKind.u64.wrap ((y4 : Int) + (y4 : Int) / 65536) = (y5 : Int) ∧ IntKind.u64.wrap ((y5 : Int) + (y5 : Int) / 4294967296) = (y6 : Int) ∧ IntKind.i64.wrap (y6 : Int) = (y6 : Int) ∧ bits .and .i64 (y6 : Int) 127 = ((cnt x 64 : Nat) : Int) := by
  obtain ⟨l, hl, hb, e3, hc, b1, b2⟩ := ones_is x h
  obtain ⟨c1, c2, c3, c4, c5⟩ := ones_end l hl hb
  rw [← e3] at c1 c2 c3 c4 c5
  rw [← hc] at c1
  refine ⟨o1 x, o2 (o1 x), o3 (o2 (o1 x)), o4 (o3 (o2 (o1 x))), o5 (o4 (o3 (o2 (o1 x)))), o6 (o5 (o4 (o3 (o2 (o1 x))))), q1 x h b1, q2 _ b1 (by omega), q3 _ b2, q4 _ c4, q5 _ c3, q6 _ c2, wrap_i64n _ c2, ?_⟩
  rw [and_i64 _ c2, c1]
set_option maxRecDepth 100000 in
set_option maxHeartbeats 1600000 in
theorem ones_any (x : Nat) (h : x < 18446744073709551616) (w : World) :
    Calls Try.prog 30 #[.int .u64 (x : Int)] w fun e w' => e = .returned (.int .i64 (cnt x 64 : Int)) ∧ w' = w := by
  obtain ⟨y1, y2, y3, y4, y5, y6, e1, e2, e3, e4, e5, e6, e7, e8⟩ := qs x h
  clear h
  generalize cnt x 64 = z at *
  go_enter Try.func30, Try.ntmps30
  go_wp2
  go_ret
  exact ⟨rfl, rfl⟩
/-- a row's pairs, word by word -/
theorem cnt_wd (x j : Nat) : cnt x (64 * (j + 1)) = cnt x (64 * j) + cnt (wd x j) 64 := by
  rw [show 64 * (j + 1) = 64 * j + 64 by omega, cnt_add]
  unfold wd
  rw [cnt_mod]
theorem cnt_all {n : Nat} {r : Rws} (h : Bd n r) (i : Nat) : cnt (r i) (64 * ln n) = cnt (r i) n := by
  have : ∀ d, cnt (r i) (n + d) = cnt (r i) n := by
    intro d
    induction d with
    | zero => rfl
    | succ d ih =>
      rw [← Nat.add_assoc]
      simp only [cnt]
      have : (r i).testBit (n + d) = false := h i (n + d) (by omega)
      rw [this, ih]; simp
  have := this (64 * ln n - n)
  rwa [show n + (64 * ln n - n) = 64 * ln n by unfold ln; omega] at this
set_option maxHeartbeats 800000 in
theorem count_nil (w : World) :
    Calls Try.prog 19 #[.pointer none] w fun e w' => e = .returned (.int .i64 0) ∧ w' = w := by
  have SZ := hide (size_nil w)
  go_enter Try.func19, Try.ntmps19
  go_wp2_with fail
  refine SZ.out.mono ?_
  rintro e w1 ⟨rfl, e1⟩
  obtain rfl := e1.symm
  go_wp2_with fail
  go_loop [3, 9] (fun s i => s = .int .i64 0 ∧ i = .int .i64 0) (fun _ _ => 0)
  case atStart => exact ⟨rfl, rfl⟩
  case round =>
    obtain ⟨rfl, rfl⟩ := hrel
    go_wp2_with fail
    go_ret
    exact ⟨rfl, rfl⟩
set_option maxRecDepth 100000 in
set_option maxHeartbeats 1600000 in
theorem count_any {w : World} {M R W n : Nat} {r : Rws} (m : MW w M R W n r) :
    Calls Try.prog 19 #[.pointer (some ⟨M, 0, none⟩)] w fun e w' => e = .returned (.int .i64 (total r n n : Int)) ∧ w' = w := by
  have hle := m.le
  have hl := ln_le hle
  have SZ := hide (size_any m)
  have MH := hide m
  have c0 := m.mcell
  have TB := hide (fun a => total_le r n a)
  obtain ⟨L, hL⟩ : ∃ L, ln n = L := ⟨_, rfl⟩
  rw [hL] at hl
  have HL := hide hL
  clear m hL
  go_enter Try.func19, Try.ntmps19
  go_wp2_with fail
  refine SZ.out.mono ?_
  rintro e w1 ⟨rfl, e1⟩
  obtain rfl := e1.symm
  go_wp2_with fail
  go_loop [3, 9] (fun s i => ∃ k : Nat, k ≤ n ∧ i = .int .i64 (k : Int) ∧ s = .int .i64 (total r n k : Int)) (fun _ i => n - (intOf i).toNat)
  case atStart => exact ⟨0, Nat.zero_le _, rfl, rfl⟩
  case round =>
    obtain ⟨k, hk, rfl, rfl⟩ := hrel
    by_cases hlt : k < n
    · have hlt' : (k : Int) < (n : Int) := by omega
      have c1 := MH.out.row k hlt
      have tb : total r n k ≤ 1048576 := Nat.le_trans (TB.out k) (Nat.le_trans (Nat.mul_le_mul hle (Nat.le_trans hk hle)) (by decide))
      have RW : Hid (∀ j, j < L → w.cell? ⟨W, k * L + j, none⟩ = some (.int .u64 (wd (r k) j))) := fun j hj => by rw [← HL.out] at hj ⊢; exact MH.out.wrd k j hlt hj
      have NX : Hid (total r n (k + 1) = total r n k + cnt (r k) (64 * L)) := by rw [← HL.out, cnt_all MH.out.bd]; rfl
      rw [HL.out] at c1
      generalize k * L = kL at *
      generalize total r n k = T at *
      go_wp2_with fail
      go_loop [3, 20] (fun s i => ∃ j : Nat, j ≤ L ∧ i = .int .i64 (j : Int) ∧ s = .int .i64 ((T + cnt (r k) (64 * j) : Nat) : Int)) (fun _ i => L - (intOf i).toNat)
      case atStart => exact ⟨0, Nat.zero_le _, rfl, rfl⟩
      case round =>
        obtain ⟨j, hj, rfl, rfl⟩ := hrel
        by_cases hltj : j < L
        · have hltj' : (j : Int) < (L : Int) := by omega
          have c2 := RW.out j hltj
          have ON := hide (ones_any (wd (r k) j) (wd_lt _ _) w)
          have hc := cnt_le (r k) (64 * j)
          have hd := cnt_le (wd (r k) j) 64
          have CN := hide (cnt_wd (r k) j)
          generalize cnt (r k) (64 * j) = A at *
          generalize cnt (wd (r k) j) 64 = B at *
          generalize wd (r k) j = x at *
          obtain ⟨TA, hTA⟩ : ∃ TA, T + A = TA := ⟨_, rfl⟩
          have htb : TA ≤ 1048576 + 1024 := by omega
          rw [hTA]
          have HTA := hide hTA
          clear hTA
          go_wp2_with fail
          refine ON.out.mono ?_
          rintro e w1 ⟨rfl, e1⟩
          obtain rfl := e1.symm
          go_wp2_with fail
          go_round
          case rel => exact ⟨j + 1, by omega, by go_num, by rw [CN.out, ← Nat.add_assoc, HTA.out]; go_num⟩
          case measure => simp [intOf]; omega
        · have hltj' : ¬ ((j : Int) < (L : Int)) := by omega
          obtain rfl : j = L := by omega
          go_wp2_with fail
          go_round
          case rel => exact ⟨k + 1, by omega, by go_num, by rw [NX.out]⟩
          case measure => simp [intOf]; omega
    · have hlt' : ¬ ((k : Int) < (n : Int)) := by omega
      obtain rfl : k = n := by omega
      go_wp2_with fail
      go_ret
      exact ⟨rfl, rfl⟩
end Mx
end Go.Proofs.Ytdfjcmlafhannaa
