/- Layer 25, plain: words as rows of bits, how many bits a word has, and the closure of a relation. -/
import Derived.WalkKit
import Derived.ProofKit
import Derived.OpenShut
namespace Go.Proofs.Ytdfjcmlafhannaa
open Go.ChangeShapes Go.WideShapes Go.ChangeAt Go.RowKit
namespace Mx

theorem hide {p : Prop} (h : p) : Hid p := h

/-! ### bits of words -/
theorem ofInt_nat (x : Nat) (h : x < 18446744073709551616) : (BitVec.ofInt 64 (x : Int)).toNat = x := by
  rw [BitVec.ofInt_natCast, BitVec.toNat_ofNat]
  exact Nat.mod_eq_of_lt (by simpa using h)
theorem wrap_u64 (n : Int) : IntKind.u64.wrap n = n % 18446744073709551616 := by
  simp [IntKind.wrap, IntKind.signed, IntKind.bits]
theorem wrap_u64n (n : Nat) (h : n < 18446744073709551616) : IntKind.u64.wrap (n : Int) = (n : Int) := by
  rw [wrap_u64]; omega
theorem and_nat (x y : Nat) (hx : x < 18446744073709551616) (hy : y < 18446744073709551616) : bits .and .u64 (x : Int) (y : Int) = ((x &&& y : Nat) : Int) := by
  have e : bits .and .u64 (x : Int) (y : Int) = IntKind.u64.wrap (((BitVec.ofInt 64 (x : Int)) &&& (BitVec.ofInt 64 (y : Int))).toNat : Int) := rfl
  rw [e, BitVec.toNat_and, ofInt_nat x hx, ofInt_nat y hy]
  exact wrap_u64n _ (Nat.lt_of_le_of_lt Nat.and_le_left hx)
theorem or_lt64 (x y : Nat) (hx : x < 18446744073709551616) (hy : y < 18446744073709551616) : x ||| y < 18446744073709551616 := by
  have := Nat.or_lt_two_pow (n := 64) (x := x) (y := y) (by simpa using hx) (by simpa using hy)
  simpa using this
theorem or_nat (x y : Nat) (hx : x < 18446744073709551616) (hy : y < 18446744073709551616) : bits .or .u64 (x : Int) (y : Int) = ((x ||| y : Nat) : Int) := by
  have e : bits .or .u64 (x : Int) (y : Int) = IntKind.u64.wrap (((BitVec.ofInt 64 (x : Int)) ||| (BitVec.ofInt 64 (y : Int))).toNat : Int) := rfl
  rw [e, BitVec.toNat_or, ofInt_nat x hx, ofInt_nat y hy]
  exact wrap_u64n _ (or_lt64 x y hx hy)

/-! ### how many bits -/
/-- how many of the first m bits are 1 -/
def cnt (x : Nat) : Nat → Nat
  | 0 => 0
  | m + 1 => cnt x m + (if x.testBit m then 1 else 0)
theorem cnt_le (x m : Nat) : cnt x m ≤ m := by
  induction m with
  | zero => exact Nat.le_refl _
  | succ m ih => simp only [cnt]; split <;> omega
theorem cnt_congr {x y m : Nat} (h : ∀ k, k < m → x.testBit k = y.testBit k) : cnt x m = cnt y m := by
  induction m with
  | zero => rfl
  | succ m ih => simp only [cnt]; rw [ih fun k hk => h k (by omega), h m (by omega)]
theorem cnt_add (x a b : Nat) : cnt x (a + b) = cnt x a + cnt (x / 2 ^ a) b := by
  induction b with
  | zero => rfl
  | succ b ih =>
    rw [← Nat.add_assoc]
    simp only [cnt]
    rw [ih, Nat.testBit_div_two_pow, Nat.add_comm b a]
    omega
theorem cnt_mod (x a : Nat) : cnt (x % 2 ^ a) a = cnt x a := cnt_congr fun k hk => by simp [Nat.testBit_mod_two_pow, hk]
theorem cnt_zero (m : Nat) : cnt 0 m = 0 := by
  induction m with
  | zero => rfl
  | succ m ih => simp [cnt, ih]
theorem and_lane (b y m M : Nat) (hb : b < 256) (hm : m < 256) : (b + 256 * y) &&& (m + 256 * M) = (b &&& m) + 256 * (y &&& M) := by
  apply Nat.eq_of_testBit_eq
  intro i
  have h1 : b + 256 * y = 2 ^ 8 * y + b := by omega
  have h2 : m + 256 * M = 2 ^ 8 * M + m := by omega
  have h3 : (b &&& m) + 256 * (y &&& M) = 2 ^ 8 * (y &&& M) + (b &&& m) := by omega
  have h4 : b &&& m < 2 ^ 8 := Nat.lt_of_le_of_lt Nat.and_le_left hb
  rw [Nat.testBit_and, h1, h2, h3, Nat.testBit_two_pow_mul_add _ (by omega), Nat.testBit_two_pow_mul_add _ (by omega), Nat.testBit_two_pow_mul_add _ h4]
  split <;> simp [Nat.testBit_and]
/-- a number by its bytes -/
def asm : List Nat → Nat
  | [] => 0
  | b :: l => b + 256 * asm l
def byt : Nat → Nat → List Nat
  | 0, _ => []
  | n + 1, x => x % 256 :: byt n (x / 256)
theorem asm_byt (n x : Nat) (h : x < 256 ^ n) : asm (byt n x) = x := by
  induction n generalizing x with
  | zero => simp at h; simp [byt, asm, h]
  | succ n ih =>
    simp only [byt, asm]
    rw [ih (x / 256) (by rw [Nat.pow_succ] at h; omega)]
    omega
theorem byt_lt (n x : Nat) : ∀ b ∈ byt n x, b < 256 := by
  induction n generalizing x with
  | zero => intro b hb; simp [byt] at hb
  | succ n ih =>
    intro b hb
    simp only [byt, List.mem_cons] at hb
    rcases hb with rfl | hb
    · exact Nat.mod_lt _ (by decide)
    · exact ih _ b hb
theorem byt_len (n x : Nat) : (byt n x).length = n := by
  induction n generalizing x with
  | zero => rfl
  | succ n ih => simp [byt, ih]
/-- the first three steps, byte by byte -/
def s1 (b : Nat) : Nat := (b / 2 &&& 85) + (b &&& 85)
def s2 (b : Nat) : Nat := (b / 4 &&& 51) + (b &&& 51)
def s3 (b : Nat) : Nat := (b / 16 + b) &&& 15
theorem s1_lt : ∀ b : Fin 256, s1 b.val < 256 := by decide +kernel
theorem s12 : ∀ b : Fin 256, s2 (s1 b.val) / 16 ≤ 4 ∧ s2 (s1 b.val) % 16 ≤ 4 := by decide +kernel
theorem s123 : ∀ b : Fin 256, s3 (s2 (s1 b.val)) = cnt b.val 8 := by decide +kernel
theorem l1 : ∀ b : Fin 256, ∀ r : Fin 2, (b.val / 2 + 128 * r.val) &&& 85 = b.val / 2 &&& 85 := by decide +kernel
theorem l2 : ∀ b : Fin 256, ∀ r : Fin 4, (b.val / 4 + 64 * r.val) &&& 51 = b.val / 4 &&& 51 := by decide +kernel
theorem l3 : ∀ b : Fin 69, ∀ r : Fin 5, b.val % 16 ≤ 4 → (b.val / 16 + 16 * r.val + b.val) &&& 15 = (b.val / 16 + b.val) &&& 15 := by decide +kernel
theorem step1 (l : List Nat) (h : ∀ b ∈ l, b < 256) : (asm l / 2 &&& asm (l.map fun _ => 85)) + (asm l &&& asm (l.map fun _ => 85)) = asm (l.map s1) := by
  induction l with
  | nil => rfl
  | cons b l ih =>
    have hb := h b (List.mem_cons_self ..)
    have ih := ih fun c hc => h c (List.mem_cons_of_mem _ hc)
    simp only [List.map_cons, asm]
    generalize asm l = y at *
    generalize asm (l.map fun _ => 85) = M at *
    have e : (b + 256 * y) / 2 = (b / 2 + 128 * (y % 2)) + 256 * (y / 2) := by omega
    rw [e, and_lane _ _ _ _ (by omega) (by decide), and_lane _ _ _ _ hb (by decide), ← ih]
    have := l1 ⟨b, hb⟩ ⟨y % 2, Nat.mod_lt _ (by decide)⟩
    simp only at this
    rw [this, s1]
    omega
theorem step2 (l : List Nat) (h : ∀ b ∈ l, b < 256) : (asm l / 4 &&& asm (l.map fun _ => 51)) + (asm l &&& asm (l.map fun _ => 51)) = asm (l.map s2) := by
  induction l with
  | nil => rfl
  | cons b l ih =>
    have hb := h b (List.mem_cons_self ..)
    have ih := ih fun c hc => h c (List.mem_cons_of_mem _ hc)
    simp only [List.map_cons, asm]
    generalize asm l = y at *
    generalize asm (l.map fun _ => 51) = M at *
    have e : (b + 256 * y) / 4 = (b / 4 + 64 * (y % 4)) + 256 * (y / 4) := by omega
    rw [e, and_lane _ _ _ _ (by omega) (by decide), and_lane _ _ _ _ hb (by decide), ← ih]
    have := l2 ⟨b, hb⟩ ⟨y % 4, Nat.mod_lt _ (by decide)⟩
    simp only at this
    rw [this, s2]
    omega
theorem step3 (l : List Nat) (h : ∀ b ∈ l, b / 16 ≤ 4 ∧ b % 16 ≤ 4) : (asm l / 16 + asm l) &&& asm (l.map fun _ => 15) = asm (l.map s3) ∧ asm l % 16 ≤ 4 := by
  induction l with
  | nil => exact ⟨rfl, by simp [asm]⟩
  | cons b l ih =>
    have hb := h b (List.mem_cons_self ..)
    have ih := ih fun c hc => h c (List.mem_cons_of_mem _ hc)
    simp only [List.map_cons, asm]
    generalize asm l = y at *
    generalize asm (l.map fun _ => 15) = M at *
    refine ⟨?_, by omega⟩
    have e : (b + 256 * y) / 16 + (b + 256 * y) = (b / 16 + 16 * (y % 16) + b) + 256 * (y / 16 + y) := by omega
    rw [e, and_lane _ _ _ _ (by omega) (by decide), ih.1]
    have := l3 ⟨b, by omega⟩ ⟨y % 16, by omega⟩ hb.2
    simp only at this
    rw [this]
    rfl
/-- all bytes' -/
def sumL : List Nat → Nat
  | [] => 0
  | b :: l => b + sumL l
theorem cnt_bytes (n x : Nat) : cnt x (8 * n) = sumL ((byt n x).map fun b => cnt b 8) := by
  induction n generalizing x with
  | zero => rfl
  | succ n ih =>
    rw [show 8 * (n + 1) = 8 + 8 * n by omega, cnt_add]
    simp only [byt, List.map_cons, sumL]
    rw [← ih (x / 256), show (256 : Nat) = 2 ^ 8 from rfl, cnt_mod]
theorem list8 (l : List Nat) (h : l.length = 8) : ∃ a b c d e f g i, l = [a, b, c, d, e, f, g, i] := by
  match l, h with
  | [a, b, c, d, e, f, g, i], _ => exact ⟨a, b, c, d, e, f, g, i, rfl⟩
/-- the steps of OnesCount64 on words -/
def o1 (x : Nat) : Nat := (x / 2 &&& 6148914691236517205) + (x &&& 6148914691236517205)
def o2 (x : Nat) : Nat := (x / 4 &&& 3689348814741910323) + (x &&& 3689348814741910323)
def o3 (x : Nat) : Nat := (x / 16 + x) &&& 1085102592571150095
theorem m85 : asm [85, 85, 85, 85, 85, 85, 85, 85] = 6148914691236517205 := by simp only [asm]
theorem m51 : asm [51, 51, 51, 51, 51, 51, 51, 51] = 3689348814741910323 := by simp only [asm]
theorem m15 : asm [15, 15, 15, 15, 15, 15, 15, 15] = 1085102592571150095 := by simp only [asm]
theorem map85 (l : List Nat) (h : l.length = 8) (m : Nat) : l.map (fun _ => m) = [m, m, m, m, m, m, m, m] := by
  obtain ⟨a, b, c, d, e, f, g, i, rfl⟩ := list8 l h
  rfl
theorem asm8_lt (l : List Nat) (h : l.length = 8) (m : Nat) (hm : ∀ b ∈ l, b ≤ m) : asm l ≤ m * 72340172838076673 := by
  obtain ⟨a, b, c, d, e, f, g, i, rfl⟩ := list8 l h
  simp only [List.mem_cons, List.not_mem_nil, or_false, forall_eq_or_imp, forall_eq] at hm
  simp only [asm]
  omega
theorem o1_is (x : Nat) (l : List Nat) (hl : l.length = 8) (hb : ∀ b ∈ l, b < 256) (hx : asm l = x) : o1 x = asm (l.map s1) := by
  rw [← step1 l hb, hx, map85 l hl, m85, o1]
theorem o2_is (x : Nat) (l : List Nat) (hl : l.length = 8) (hb : ∀ b ∈ l, b < 256) (hx : asm l = x) : o2 x = asm (l.map s2) := by
  rw [← step2 l hb, hx, map85 l hl, m51, o2]
theorem o3_is (x : Nat) (l : List Nat) (hl : l.length = 8) (hb : ∀ b ∈ l, b / 16 ≤ 4 ∧ b % 16 ≤ 4) (hx : asm l = x) : o3 x = asm (l.map s3) := by
  rw [← (step3 l hb).1, hx, map85 l hl, m15, o3]
theorem ones_is (x : Nat) (h : x < 18446744073709551616) : ∃ l : List Nat, l.length = 8 ∧ (∀ b ∈ l, b ≤ 8) ∧ o3 (o2 (o1 x)) = asm l ∧ cnt x 64 = sumL l ∧ o1 x < 18446744073709551616 ∧ o2 (o1 x) < 4991471925827290437 := by
  have hx := asm_byt 8 x (by simpa using h)
  have hl := byt_len 8 x
  have hb := byt_lt 8 x
  have hc := cnt_bytes 8 x
  generalize byt 8 x = l at *
  have e1 : o1 x = asm (l.map s1) := o1_is x l hl hb hx
  have hb1 : ∀ b ∈ l.map s1, b < 256 := by
    intro b hbm
    obtain ⟨c, hc, rfl⟩ := List.mem_map.1 hbm
    exact s1_lt ⟨c, hb c hc⟩
  have e2 : o2 (o1 x) = asm ((l.map s1).map s2) := o2_is _ _ (by simp [hl]) hb1 e1.symm
  have hb2 : ∀ b ∈ (l.map s1).map s2, b / 16 ≤ 4 ∧ b % 16 ≤ 4 := by
    intro b hbm
    rw [List.map_map] at hbm
    obtain ⟨c, hc, rfl⟩ := List.mem_map.1 hbm
    exact s12 ⟨c, hb c hc⟩
  have e3 : o3 (o2 (o1 x)) = asm (((l.map s1).map s2).map s3) := o3_is _ _ (by simp [hl]) hb2 e2.symm
  have e4 : ((l.map s1).map s2).map s3 = l.map fun b => cnt b 8 := by
    rw [List.map_map, List.map_map]
    apply List.map_congr_left
    intro b hbm
    exact s123 ⟨b, hb b hbm⟩
  refine ⟨l.map fun b => cnt b 8, by simp [hl], ?_, by rw [e3, e4], hc, ?_, ?_⟩
  · intro b hbm
    obtain ⟨c, -, rfl⟩ := List.mem_map.1 hbm
    exact cnt_le _ _
  · rw [e1]
    have := asm8_lt (l.map s1) (by simp [hl]) 255 fun b hbm => by have := hb1 b hbm; omega
    omega
  · rw [e2]
    have := asm8_lt ((l.map s1).map s2) (by simp [hl]) 68 fun b hbm => by have := hb2 b hbm; omega
    omega
/-- the last three steps: bytes are added up into the lowest one -/
def o4 (z : Nat) : Nat := z + z / 256
def o5 (z : Nat) : Nat := z + z / 65536
def o6 (z : Nat) : Nat := z + z / 4294967296
theorem m128 (s y : Nat) (h : s < 128) : (s + 256 * y) % 128 = s := by omega
def zadd : List Nat → List Nat → List Nat
  | [], m => m
  | l, [] => l
  | a :: l, b :: m => (a + b) :: zadd l m
theorem asm_zadd : ∀ l m : List Nat, asm l + asm m = asm (zadd l m)
  | [], m => by simp [zadd, asm]
  | a :: l, [] => by simp [zadd, asm]
  | a :: l, b :: m => by
    have := asm_zadd l m
    simp only [zadd, asm]
    omega
theorem dd1 (a : Nat) (l : List Nat) (h : a < 256) : asm (a :: l) / 256 = asm l := by simp only [asm]; omega
theorem dd2 (a b : Nat) (l : List Nat) (h : a < 256) (h2 : b < 256) : asm (a :: b :: l) / 65536 = asm l := by simp only [asm]; omega
theorem dd4 (a b c d : Nat) (l : List Nat) (h : a < 256) (h2 : b < 256) (h3 : c < 256) (h4 : d < 256) : asm (a :: b :: c :: d :: l) / 4294967296 = asm l := by simp only [asm]; omega
theorem ones_end (l : List Nat) (hl : l.length = 8) (hb : ∀ b ∈ l, b ≤ 8) : o6 (o5 (o4 (asm l))) % 128 = sumL l ∧ o6 (o5 (o4 (asm l))) < 9223372036854775808 ∧ o5 (o4 (asm l)) < 9223372036854775808 ∧ o4 (asm l) < 9223372036854775808 ∧ asm l < 9223372036854775808 := by
  have hz := asm8_lt l hl 8 hb
  have b4 : o4 (asm l) ≤ 2 * asm l := by unfold o4; omega
  have b5 : o5 (o4 (asm l)) ≤ 2 * o4 (asm l) := by unfold o5; omega
  have b6 : o6 (o5 (o4 (asm l))) ≤ 2 * o5 (o4 (asm l)) := by unfold o6; omega
  refine ⟨?_, by omega, by omega, by omega, by omega⟩
  clear b4 b5 b6 hz
  obtain ⟨a, b, c, d, e, f, g, i, rfl⟩ := list8 l hl
  simp only [List.mem_cons, List.not_mem_nil, or_false, forall_eq_or_imp, forall_eq] at hb
  obtain ⟨ha, hb, hc, hd, he, hf, hg, hi⟩ := hb
  have e4 : o4 (asm [a, b, c, d, e, f, g, i]) = asm [a + b, b + c, c + d, d + e, e + f, f + g, g + i, i] := by
    rw [o4, dd1 _ _ (by omega), asm_zadd]
    rfl
  have e5 : o5 (asm [a + b, b + c, c + d, d + e, e + f, f + g, g + i, i]) = asm [a + b + (c + d), b + c + (d + e), c + d + (e + f), d + e + (f + g), e + f + (g + i), f + g + i, g + i, i] := by
    rw [o5, dd2 _ _ _ (by omega) (by omega), asm_zadd]
    rfl
  rw [e4, e5]
  have e6 : o6 (asm [a + b + (c + d), b + c + (d + e), c + d + (e + f), d + e + (f + g), e + f + (g + i), f + g + i, g + i, i]) = asm [a + b + (c + d) + (e + f + (g + i)), b + c + (d + e) + (f + g + i), c + d + (e + f) + (g + i), d + e + (f + g) + i, e + f + (g + i), f + g + i, g + i, i] := by
    rw [o6, dd4 _ _ _ _ _ (by omega) (by omega) (by omega) (by omega), asm_zadd]
    rfl
  rw [e6, show ∀ (s : Nat) (t : List Nat), asm (s :: t) = s + 256 * asm t from fun _ _ => rfl, m128 _ _ (by omega)]
  simp only [sumL]
  omega
end Mx
end Go.Proofs.Ytdfjcmlafhannaa
