/- Floats and complex numbers that stand for whole numbers, as the walk meets them. -/
import Derived.Test.YtgmkknaagbjcmaaFl1
import Derived.Test.YtgmkknaagbjcmaaBs
namespace Go.Proofs.Ytgmkknaagbjcmaa
open Go.ChangeShapes Go.WideShapes Go.ChangeAt Go.RowKit
namespace Fl
open Ba

/-- the word stands for the whole number n -/
def Hi (b : Nat) (n : Int) : Prop := Hf b (2 * n)
theorem Hi.order {a b : Nat} {x y : Int} (ha : Hi a x) (hb : Hi b y) : FloatKind.f64.format.order a b = some (compare x y) := by
  show Ieee.double.order a b = _
  rw [Hf.order ha hb]
  congr 1
  rcases Int.lt_trichotomy x y with h | h | h
  · rw [Int.compare_eq_lt.2 h, Int.compare_eq_lt.2 (by omega)]
  · rw [Int.compare_eq_eq.2 h, Int.compare_eq_eq.2 (by omega)]
  · rw [Int.compare_eq_gt.2 h, Int.compare_eq_gt.2 (by omega)]
theorem cmp_eq (x y : Int) : (some (compare x y) == some Ordering.eq) = decide (x = y) := by
  rcases Int.lt_trichotomy x y with h | h | h
  · rw [Int.compare_eq_lt.2 h]; simp; omega
  · rw [Int.compare_eq_eq.2 h]; simp [h]
  · rw [Int.compare_eq_gt.2 h]; simp; omega
theorem Hi.eq {a b : Nat} {x y : Int} (ha : Hi a x) (hb : Hi b y) : (FloatKind.f64.format.order a b == some .eq) = decide (x = y) := by rw [ha.order hb, cmp_eq]
theorem Hf.eq {a b : Nat} {x y : Int} (ha : Hf a x) (hb : Hf b y) : (FloatKind.f64.format.order a b == some .eq) = decide (x = y) := by
  show (Ieee.double.order a b == _) = _
  rw [Hf.order ha hb, cmp_eq]
theorem Hi.zero : Hi 0 0 := by
  have := hf_zero false
  have e : Ieee.double.nearest false 0 0 = 0 := by decide +kernel
  rw [e] at this
  exact this
theorem hi_of {n : Int} {b : Nat} (h : (2 * n).natAbs < 2 ^ 53) (e : Ieee.double.write (.number (n < 0) n.natAbs 0) = b) : Hi b n := by
  subst e; exact Hf.ofInt h
theorem Hi.one : Hi 4607182418800017408 1 := hi_of (by decide) (by decide +kernel)
theorem Hi.mone : Hi 13830554455654793216 (-1) := hi_of (by decide) (by decide +kernel)
theorem Hi.mtwo : Hi 13835058055282163712 (-2) := hi_of (by decide) (by decide +kernel)
theorem Hi.ofInt {n : Int} (h : n.natAbs ≤ 1000000000000) : Hi (floatOfInt .f64 n) n := Hf.ofInt (by omega)
theorem Hi.neg {a : Nat} {x : Int} (h : Hi a x) : Hi (Op.negFloat .f64 a) (-x) := by
  have := Hf.neg h
  have e : Op.negFloat .f64 a = a ^^^ 2 ^ 63 := rfl
  rw [e]
  show Hf _ (2 * -x)
  rw [show 2 * -x = -(2 * x) from by omega]
  exact this
theorem Hf.neg' {a : Nat} {x : Int} (h : Hf a x) : Hf (Op.negFloat .f64 a) (-x) := Hf.neg h
theorem Hi.mul {a b : Nat} {x y : Int} (ha : Hi a x) (hb : Hi b y) (hx : x.natAbs ≤ 16777216) (hy : y.natAbs ≤ 16777216) : ∃ r, floatBits .mul .f64 a b = some r ∧ Hi r (x * y) := by
  have hxy : (x * (2 * y)).natAbs < 2 ^ 53 := by
    rw [Int.natAbs_mul]
    have : x.natAbs * (2 * y).natAbs ≤ 16777216 * 33554432 := Nat.mul_le_mul hx (by omega)
    omega
  obtain ⟨r, h1, h2⟩ := Hf.mul (x := x) (y := 2 * y) ha hb hxy
  refine ⟨r, h1, ?_⟩
  show Hf r (2 * (x * y))
  rw [show 2 * (x * y) = x * (2 * y) from by rw [Int.mul_left_comm]]
  exact h2
theorem Hi.add {a b : Nat} {x y : Int} (ha : Hi a x) (hb : Hi b y) (h : (x + y).natAbs ≤ 1000000000000000) : ∃ r, floatBits .add .f64 a b = some r ∧ Hi r (x + y) := by
  obtain ⟨r, h1, h2⟩ := Hf.add ha hb (by omega)
  refine ⟨r, h1, ?_⟩
  show Hf r (2 * (x + y))
  rw [Int.mul_add]; exact h2
theorem Hi.sub {a b : Nat} {x y : Int} (ha : Hi a x) (hb : Hi b y) (h : (x - y).natAbs ≤ 1000000000000000) : ∃ r, floatBits .sub .f64 a b = some r ∧ Hi r (x - y) := by
  obtain ⟨r, h1, h2⟩ := Hf.sub ha hb (by omega)
  refine ⟨r, h1, ?_⟩
  show Hf r (2 * (x - y))
  rw [Int.mul_sub]; exact h2
theorem mul_bd {x y : Int} (hx : x.natAbs ≤ 16777216) (hy : y.natAbs ≤ 16777216) : (x * y).natAbs ≤ 281474976710656 := by
  rw [Int.natAbs_mul]
  have : x.natAbs * y.natAbs ≤ 16777216 * 16777216 := Nat.mul_le_mul hx hy
  omega
theorem cmul {a b c d : Nat} {x y u v : Int} (ha : Hi a x) (hb : Hi b y) (hc : Hi c u) (hd : Hi d v) (hx : x.natAbs ≤ 16777216) (hy : y.natAbs ≤ 16777216) (hu : u.natAbs ≤ 16777216) (hv : v.natAbs ≤ 16777216) :
    ∃ re im, cMulBits a b c d = some (re, im) ∧ Hi re (x * u - y * v) ∧ Hi im (x * v + y * u) := by
  obtain ⟨ac, e1, h1⟩ := ha.mul hc hx hu
  obtain ⟨bd, e2, h2⟩ := hb.mul hd hy hv
  have := mul_bd hx hu
  have := mul_bd hy hv
  have := mul_bd hx hv
  have := mul_bd hy hu
  obtain ⟨re, e3, h3⟩ := h1.sub h2 (by omega)
  obtain ⟨ad, e4, h4⟩ := ha.mul hd hx hv
  obtain ⟨bc, e5, h5⟩ := hb.mul hc hy hu
  obtain ⟨im, e6, h6⟩ := h4.add h5 (by omega)
  refine ⟨re, im, ?_, h3, h6⟩
  unfold cMulBits
  simp only [e1, e2, e3, e4, e5, e6, Option.bind_some]
theorem cadd {a b c d : Nat} {x y u v : Int} (ha : Hi a x) (hb : Hi b y) (hc : Hi c u) (hd : Hi d v) (hx : (x + u).natAbs ≤ 1000000000000000) (hy : (y + v).natAbs ≤ 1000000000000000) :
    ∃ re im, cSumBits .add .f64 a b c d = some (re, im) ∧ Hi re (x + u) ∧ Hi im (y + v) := by
  obtain ⟨re, e1, h1⟩ := ha.add hc hx
  obtain ⟨im, e2, h2⟩ := hb.add hd hy
  refine ⟨re, im, ?_, h1, h2⟩
  unfold cSumBits
  simp only [e1, e2, Option.bind_some]
theorem run_min_f (ts : Array TypeId) (t : TypeId) {a b : Nat} {x y : Int} (ha : Hi a x) (hb : Hi b y) : ∃ r, (∀ u, (Builtin.min_ ts t #[.float .f64 a, .float .f64 b]).run Try.prog u = .ok (.float .f64 r) u) ∧ Hi r (min x y) := by
  have ho := ha.order hb
  rcases Int.lt_trichotomy x y with h | h | h
  · rw [Int.compare_eq_lt.2 h] at ho
    refine ⟨a, fun u => ?_, by rw [Int.min_eq_left (by omega)]; exact ha⟩
    simp [Builtin.min_, Builtin.min2, ho]
  · subst h
    rw [Int.compare_eq_eq.2 rfl] at ho
    refine ⟨if (FloatKind.f64.decode a).neg then a else b, fun u => ?_, ?_⟩
    · simp [Builtin.min_, Builtin.min2, ho]
    · rw [Int.min_eq_left (by omega)]; split
      · exact ha
      · exact hb
  · rw [Int.compare_eq_gt.2 h] at ho
    refine ⟨b, fun u => ?_, by rw [Int.min_eq_right (by omega)]; exact hb⟩
    simp [Builtin.min_, Builtin.min2, ho]
theorem run_max_f (ts : Array TypeId) (t : TypeId) {a b : Nat} {x y : Int} (ha : Hi a x) (hb : Hi b y) : ∃ r, (∀ u, (Builtin.max_ ts t #[.float .f64 a, .float .f64 b]).run Try.prog u = .ok (.float .f64 r) u) ∧ Hi r (max x y) := by
  have ho := ha.order hb
  rcases Int.lt_trichotomy x y with h | h | h
  · rw [Int.compare_eq_lt.2 h] at ho
    refine ⟨b, fun u => ?_, by rw [Int.max_eq_right (by omega)]; exact hb⟩
    simp [Builtin.max_, Builtin.max2, ho]
  · subst h
    rw [Int.compare_eq_eq.2 rfl] at ho
    refine ⟨if (FloatKind.f64.decode a).neg then b else a, fun u => ?_, ?_⟩
    · simp [Builtin.max_, Builtin.max2, ho]
    · rw [Int.max_eq_left (by omega)]; split
      · exact hb
      · exact ha
  · rw [Int.compare_eq_gt.2 h] at ho
    refine ⟨a, fun u => ?_, by rw [Int.max_eq_left (by omega)]; exact ha⟩
    simp [Builtin.max_, Builtin.max2, ho]
end Fl
end Go.Proofs.Ytgmkknaagbjcmaa
