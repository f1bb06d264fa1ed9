/- Floats that stand for whole numbers, or halves: what is added, taken away, multiplied, halved, compared. Plain. -/
import Derived.WalkKit
import Derived.WalkLawsBesides
namespace Go.Proofs.Ytgmkknaagbjcmaa
namespace Fl
open Ieee

/-- the places of a half above the least -/
@[irreducible] def X : Nat := 1073
theorem X_eq : X = 1073 := by unfold X; rfl

/-- the word stands for the number n / 2 -/
def Hf (b : Nat) (n : Int) : Prop := ∃ s m e, double.read b = .number s m e ∧ -1074 ≤ e ∧ m < 2 ^ 53 ∧ signed s m (e + 1074).toNat = n * 2 ^ X

theorem signed_eq (s : Bool) (m k : Nat) : signed s m k = (if s then -1 else 1) * ((m * 2 ^ k : Nat) : Int) := by
  unfold signed; rw [Nat.shiftLeft_eq]; cases s <;> simp

theorem cut_zero (s : Bool) (n : Nat) : Toward.even.cut s n 0 = n := by
  simp [Toward.cut, Nat.mod_one]

theorem log2_mul_pow {m : Nat} (h : m ≠ 0) (k : Nat) : (m * 2 ^ k).log2 = m.log2 + k := by
  have h2 : m * 2 ^ k ≠ 0 := Nat.mul_ne_zero h (by have := Nat.two_pow_pos k; omega)
  rw [Nat.log2_eq_iff h2]
  have := (Nat.log2_eq_iff h).1 rfl
  constructor
  · rw [Nat.pow_add]; exact Nat.mul_le_mul_right _ this.1
  · rw [show m.log2 + k + 1 = (m.log2 + 1) + k from by omega, Nat.pow_add]; exact Nat.mul_lt_mul_of_pos_right this.2 (Nat.two_pow_pos k)

/-- a whole number of units is cut exactly -/
theorem cut_exact (s : Bool) (m k : Nat) : Toward.even.cut s (m * 2 ^ k) k = m := by
  by_cases hm : m = 0
  · subst hm
    simp [Toward.cut]
  · have hmin : min k ((m * 2 ^ k).log2 + 2) = k := by rw [log2_mul_pow hm]; omega
    simp only [Toward.cut, hmin]
    rw [Nat.shiftLeft_eq, Nat.one_mul, Nat.mul_div_cancel _ (Nat.two_pow_pos k), Nat.mul_mod_left]
    simp

theorem leastPlace_double : double.leastPlace = -1074 := by decide
theorem binade_double : double.binade = 2 ^ 52 := rfl
theorem frac_double : double.fractionBits = 52 := rfl
theorem inf_double : double.infRung = 2047 * 2 ^ 52 := by decide
theorem sw_double : double.signWeight = 2 ^ 63 := by decide

theorem read_word (s : Bool) (r : Nat) (h : r < 2047 * 2 ^ 52) : double.read (double.word s r) =
    if r < 2 ^ 52 then .number s r (-1074) else .number s (2 ^ 52 + r % 2 ^ 52) (-1074 + (r / 2 ^ 52 - 1 : Nat)) := by
  have e1 : double.word s r / 2 ^ 63 % 2 = s.toNat := by unfold Format.word; rw [sw_double]; cases s <;> simp <;> omega
  have e2 : double.word s r % 2 ^ 63 = r := by unfold Format.word; rw [sw_double]; cases s <;> simp <;> omega
  unfold Format.read
  simp only [sw_double, e1, e2, binade_double, inf_double, leastPlace_double, if_pos h]
  cases s <;> simp

theorem hf_zero (s : Bool) : Hf (double.nearest s 0 0) 0 := by
  unfold Format.nearest
  rw [if_pos rfl]
  refine ⟨s, 0, -1074, ?_, by omega, by decide, ?_⟩
  · rw [read_word _ _ (by decide)]; rfl
  · rw [signed_eq]; cases s <;> simp

theorem nearest_zero (s : Bool) (p : Int) : double.nearest s 0 p = double.nearest s 0 0 := by
  unfold Format.nearest; rw [if_pos rfl, if_pos rfl]

/-- a number that the format has -/
theorem exact {s : Bool} {m k : Nat} {p : Int} (hm : 0 < m) (hl : m < 2 ^ 53) (hp : -1074 ≤ p + k) (hq : p + k ≤ 900) :
    ∃ m' e, double.read (double.nearest s (m * 2 ^ k) p) = .number s m' e ∧ -1074 ≤ e ∧ m' < 2 ^ 53 ∧ m' * 2 ^ (e + 1074).toNat = m * 2 ^ (p + k + 1074).toNat := by
  have hm0 : m ≠ 0 := by omega
  have hmk : m * 2 ^ k ≠ 0 := Nat.mul_ne_zero hm0 (by have := Nat.two_pow_pos k; omega)
  have hlog : m.log2 ≤ 52 := by have := (Nat.log2_lt hm0).2 hl; omega
  have hlo : 2 ^ m.log2 ≤ m := Nat.log2_self_le hm0
  have hhi : m < 2 ^ (m.log2 + 1) := Nat.lt_log2_self
  unfold Format.nearest
  rw [if_neg hmk]
  simp only [log2_mul_pow hm0, frac_double, leastPlace_double, binade_double, inf_double]
  generalize hlast : max (p + ((m.log2 + k : Nat) : Int) - (52 : Nat)) (-1074) = last
  have h1 : last ≤ p + k := by omega
  have h2 : -1074 ≤ last := by omega
  -- the digits that are kept
  have hkept : Toward.even.cut s ((m * 2 ^ k) <<< (p - last).toNat) (last - p).toNat = m * 2 ^ (p + k - last).toNat := by
    rw [Nat.shiftLeft_eq]
    by_cases hc : last ≤ p
    · rw [show (last - p).toNat = 0 from by omega, cut_zero, Nat.mul_assoc, ← Nat.pow_add]
      congr 2; omega
    · rw [show (p - last).toNat = 0 from by omega, Nat.pow_zero, Nat.mul_one]
      have : m * 2 ^ k = (m * 2 ^ (p + k - last).toNat) * 2 ^ (last - p).toNat := by
        rw [Nat.mul_assoc, ← Nat.pow_add]; congr 2; omega
      rw [this, cut_exact]
  rw [hkept]
  generalize hj : (p + k - last).toNat = j
  have hj52 : m.log2 + j ≤ 52 := by omega
  have hkl : m * 2 ^ j < 2 ^ 53 := by
    calc m * 2 ^ j < 2 ^ (m.log2 + 1) * 2 ^ j := Nat.mul_lt_mul_of_pos_right hhi (Nat.two_pow_pos j)
      _ = 2 ^ (m.log2 + 1 + j) := (Nat.pow_add ..).symm
      _ ≤ 2 ^ 53 := Nat.pow_le_pow_right (by omega) (by omega)
  have hval : (m * 2 ^ j) * 2 ^ (last + 1074).toNat = m * 2 ^ (p + k + 1074).toNat := by
    rw [Nat.mul_assoc, ← Nat.pow_add]; congr 2; omega
  generalize hK : m * 2 ^ j = K at *
  generalize hL : (last - -1074).toNat = L
  have hLL : (last + 1074).toNat = L := by omega
  have hLb : L ≤ 2000 := by omega
  rw [hLL] at hval
  have hr : L * 2 ^ 52 + K < 2047 * 2 ^ 52 := by omega
  rw [Nat.min_eq_left (by omega), read_word _ _ hr]
  by_cases hL0 : L * 2 ^ 52 + K < 2 ^ 52
  · have : L = 0 := by omega
    subst this
    rw [if_pos hL0]
    exact ⟨_, _, rfl, by omega, by omega, by simpa using hval⟩
  · rw [if_neg hL0]
    by_cases hK52 : K < 2 ^ 52
    · -- then the last place is the least, and there is no first digit
      exfalso
      have : L = 0 := by
        -- if last > least, then log2 m + j = 52
        by_cases hll : last = -1074
        · omega
        · have : m.log2 + j = 52 := by omega
          have : 2 ^ 52 ≤ K := by
            rw [← hK, ← this, Nat.pow_add]; exact Nat.mul_le_mul_right _ hlo
          omega
      omega
    · refine ⟨_, _, rfl, by omega, by omega, ?_⟩
      have e1 : (L * 2 ^ 52 + K) % 2 ^ 52 = K - 2 ^ 52 := by omega
      have e2 : (L * 2 ^ 52 + K) / 2 ^ 52 = L + 1 := by omega
      rw [e1, e2]
      rw [show 2 ^ 52 + (K - 2 ^ 52) = K from by omega, show (-1074 + ((L + 1 - 1 : Nat) : Int) + 1074).toNat = L from by omega]
      exact hval

/-- what is q halves is written exactly -/
theorem half {s : Bool} {mag q u v : Nat} {p : Int} (h : mag * 2 ^ u = q * 2 ^ v) (hp : p + 1 = (u : Int) - v) (hq : q < 2 ^ 53) :
    ∃ m' e, double.read (double.nearest s mag p) = .number s m' e ∧ -1074 ≤ e ∧ m' < 2 ^ 53 ∧ m' * 2 ^ (e + 1074).toNat = q * 2 ^ X := by
  by_cases hz : mag = 0
  · subst hz
    have : q = 0 := by
      have h2 := Nat.two_pow_pos v
      rw [Nat.zero_mul] at h
      rcases Nat.mul_eq_zero.1 h.symm with h | h
      · exact h
      · omega
    subst this
    rw [nearest_zero]
    unfold Format.nearest
    rw [if_pos rfl, read_word _ _ (by decide), if_pos (by decide)]
    exact ⟨_, _, rfl, by omega, by decide, by simp⟩
  · by_cases hc : u ≤ v
    · have e : mag = q * 2 ^ (v - u) := by
        have : mag * 2 ^ u = (q * 2 ^ (v - u)) * 2 ^ u := by rw [Nat.mul_assoc, ← Nat.pow_add, Nat.sub_add_cancel hc]; exact h
        exact Nat.eq_of_mul_eq_mul_right (Nat.two_pow_pos u) this
      have hq0 : 0 < q := by
        rcases Nat.eq_zero_or_pos q with h | h
        · rw [h, Nat.zero_mul] at e; exact absurd e hz
        · exact h
      obtain ⟨m', e', a, b, c, d⟩ := exact (s := s) (k := v - u) (p := p) hq0 hq (by omega) (by omega)
      rw [← e] at a
      refine ⟨m', e', a, b, c, ?_⟩
      rw [d]; congr 2; have := X_eq; omega
    · have e : q = mag * 2 ^ (u - v) := by
        have : q * 2 ^ v = (mag * 2 ^ (u - v)) * 2 ^ v := by rw [Nat.mul_assoc, ← Nat.pow_add, Nat.sub_add_cancel (by omega)]; exact h.symm
        exact Nat.eq_of_mul_eq_mul_right (Nat.two_pow_pos v) this
      have hle : mag ≤ q := by rw [e]; exact Nat.le_mul_of_pos_right _ (Nat.two_pow_pos _)
      have hub : u - v < 53 := by
        have h1 : 2 ^ (u - v) ≤ q := by rw [e]; exact Nat.le_mul_of_pos_left _ (by omega)
        exact (Nat.pow_lt_pow_iff_right (by omega)).1 (Nat.lt_of_le_of_lt h1 hq)
      obtain ⟨m', e', a, b, c, d⟩ := exact (s := s) (m := mag) (k := 0) (p := p) (by omega) (by omega) (by omega) (by omega)
      rw [Nat.pow_zero, Nat.mul_one] at a
      refine ⟨m', e', a, b, c, ?_⟩
      rw [d, e, Nat.mul_assoc, ← Nat.pow_add]; congr 2; have := X_eq; omega

theorem signed_inj {s : Bool} {m k : Nat} {n : Int} {u : Nat} (h : signed s m k = n * 2 ^ u) : m * 2 ^ k = n.natAbs * 2 ^ u := by
  have := congrArg Int.natAbs h
  rw [signed_eq, Int.natAbs_mul, Int.natAbs_mul] at this
  have e1 : (if s = true then (-1 : Int) else 1).natAbs = 1 := by cases s <;> rfl
  have e2 : ((2 : Int) ^ u).natAbs = 2 ^ u := by rw [Int.natAbs_pow]; rfl
  rw [e1, e2, Nat.one_mul, Int.natAbs_natCast] at this
  exact this


theorem signed_abs (n : Int) (u : Nat) : signed (decide (n < 0)) n.natAbs u = n * 2 ^ u := by
  rw [signed_eq]
  by_cases h : n < 0
  · simp [h]; rw [show ((n.natAbs : Nat) : Int) = -n from by omega, Int.neg_mul, Int.neg_neg]
  · simp [h]; rw [show ((n.natAbs : Nat) : Int) = n from by omega]

/-- what stands for a number of halves, from its datum -/
theorem hf_mk {b : Nat} {s : Bool} {m : Nat} {e : Int} {n : Int} (h : double.read b = .number s m e) (he : -1074 ≤ e) (hm : m < 2 ^ 53)
    (hv : m * 2 ^ (e + 1074).toNat = n.natAbs * 2 ^ X) (hs : n ≠ 0 → s = decide (n < 0)) : Hf b n := by
  refine ⟨s, m, e, h, he, hm, ?_⟩
  rw [signed_eq, hv]
  by_cases hn : n = 0
  · subst hn; simp
  · rw [hs hn]
    have := signed_abs n X
    rw [signed_eq] at this
    exact this

theorem signed_add (s : Bool) (m a b : Nat) : signed s m (a + b) = signed s m a * 2 ^ b := by
  rw [signed_eq, signed_eq, Nat.pow_add, ← Nat.mul_assoc, Int.natCast_mul (m * 2 ^ a), Int.mul_assoc]; simp

theorem pow_ne (u : Nat) : (2 : Int) ^ u ≠ 0 := by
  have := Nat.two_pow_pos u
  have e : ((2 ^ u : Nat) : Int) = (2 : Int) ^ u := by simp
  omega

theorem natAbs_lt {n : Int} (h1 : -(2 ^ 53) < n) (h2 : n < 2 ^ 53) : n.natAbs < 2 ^ 53 := by omega

theorem sum_hf {s t : Bool} {m n : Nat} {i j : Int} {x y : Int} (hi : -1074 ≤ i) (hj : -1074 ≤ j)
    (hx : signed s m (i + 1074).toNat = x * 2 ^ X) (hy : signed t n (j + 1074).toNat = y * 2 ^ X) (h : (x + y).natAbs < 2 ^ 53) :
    ∃ r, (Datum.sum (.number s m i) (.number t n j)).map double.write = some r ∧ Hf r (x + y) := by
  show ∃ r, some (double.nearest (if signed s m (i - min i j).toNat + signed t n (j - min i j).toNat = 0 then s && t else decide (signed s m (i - min i j).toNat + signed t n (j - min i j).toNat < 0)) (signed s m (i - min i j).toNat + signed t n (j - min i j).toNat).natAbs (min i j)) = some r ∧ _
  refine ⟨_, rfl, ?_⟩
  generalize hbase : min i j = base
  have hb : -1074 ≤ base := by omega
  have e1 : signed s m (i - base).toNat * 2 ^ (base + 1074).toNat = x * 2 ^ X := by
    rw [← signed_add, ← hx]; congr 1; omega
  have e2 : signed t n (j - base).toNat * 2 ^ (base + 1074).toNat = y * 2 ^ X := by
    rw [← signed_add, ← hy]; congr 1; omega
  generalize htot : signed s m (i - base).toNat + signed t n (j - base).toNat = total at *
  have e3 : total * 2 ^ (base + 1074).toNat = (x + y) * 2 ^ X := by rw [← htot, Int.add_mul, Int.add_mul, e1, e2]
  have e4 : total.natAbs * 2 ^ (base + 1074).toNat = (x + y).natAbs * 2 ^ X := by
    have := congrArg Int.natAbs e3
    rw [Int.natAbs_mul, Int.natAbs_mul, Int.natAbs_pow, Int.natAbs_pow] at this
    exact this
  have hX := X_eq
  obtain ⟨m', e', a, b, c, d⟩ := half (s := if total = 0 then s && t else decide (total < 0)) (p := base) e4 (by omega) h
  refine hf_mk a b c d ?_
  intro hne
  have ht : total ≠ 0 := by
    rintro rfl
    rw [Int.zero_mul] at e3
    rcases Int.mul_eq_zero.1 e3.symm with h | h
    · exact hne h
    · exact pow_ne _ h
  rw [if_neg ht]
  have p1 : (0 : Int) < 2 ^ (base + 1074).toNat := by have := Nat.two_pow_pos (base + 1074).toNat; have e : ((2 ^ (base + 1074).toNat : Nat) : Int) = (2 : Int) ^ (base + 1074).toNat := by simp
                                                      omega
  have p2 : (0 : Int) < 2 ^ X := by have := Nat.two_pow_pos X; have e : ((2 ^ X : Nat) : Int) = (2 : Int) ^ X := by simp
                                    omega
  congr 1
  apply propext
  constructor
  · intro hlt
    have : total * 2 ^ (base + 1074).toNat < 0 := Int.mul_neg_of_neg_of_pos hlt p1
    rw [e3] at this
    rcases Int.lt_or_le (x + y) 0 with h | h
    · exact h
    · have := Int.mul_nonneg h (Int.le_of_lt p2); omega
  · intro hlt
    have : (x + y) * 2 ^ X < 0 := Int.mul_neg_of_neg_of_pos hlt p2
    rw [← e3] at this
    rcases Int.lt_or_le total 0 with h | h
    · exact h
    · have := Int.mul_nonneg h (Int.le_of_lt p1); omega

theorem Hf.add {a b : Nat} {x y : Int} (ha : Hf a x) (hb : Hf b y) (h : (x + y).natAbs < 2 ^ 53) : ∃ r, double.add a b = some r ∧ Hf r (x + y) := by
  obtain ⟨s, m, i, ea, hi, _, hx⟩ := ha
  obtain ⟨t, n, j, eb, hj, _, hy⟩ := hb
  unfold Format.add
  rw [ea, eb]
  exact sum_hf hi hj hx hy h

theorem signed_not (s : Bool) (m k : Nat) : signed (!s) m k = -signed s m k := by
  rw [signed_eq, signed_eq]; cases s <;> simp

theorem Hf.sub {a b : Nat} {x y : Int} (ha : Hf a x) (hb : Hf b y) (h : (x - y).natAbs < 2 ^ 53) : ∃ r, double.sub a b = some r ∧ Hf r (x - y) := by
  obtain ⟨s, m, i, ea, hi, _, hx⟩ := ha
  obtain ⟨t, n, j, eb, hj, _, hy⟩ := hb
  unfold Format.sub
  rw [ea, eb]
  have := sum_hf (x := x) (y := -y) (t := !t) (n := n) hi hj hx (by rw [signed_not, hy, Int.neg_mul]) (by simpa [Int.sub_eq_add_neg] using h)
  simpa [Int.sub_eq_add_neg, Datum.opposite] using this

/-- a whole number by halves -/
theorem Hf.mul {a b : Nat} {x y : Int} (ha : Hf a (2 * x)) (hb : Hf b y) (h : (x * y).natAbs < 2 ^ 53) : ∃ r, double.mul a b = some r ∧ Hf r (x * y) := by
  obtain ⟨s, m, i, ea, hi, _, hx⟩ := ha
  obtain ⟨t, n, j, eb, hj, _, hy⟩ := hb
  unfold Format.mul
  rw [ea, eb]
  refine ⟨_, rfl, ?_⟩
  have e1 := signed_inj hx
  have e2 := signed_inj hy
  have hX := X_eq
  have e3 : (m * n) * 2 ^ ((i + 1074).toNat + (j + 1074).toNat) = (x * y).natAbs * 2 ^ (X + X + 1) := by
    rw [Int.natAbs_mul] at *
    rw [Nat.pow_add, show m * n * (2 ^ (i + 1074).toNat * 2 ^ (j + 1074).toNat) = (m * 2 ^ (i + 1074).toNat) * (n * 2 ^ (j + 1074).toNat) from by ac_rfl, e1, e2, Nat.pow_succ, Nat.pow_add]
    show 2 * x.natAbs * 2 ^ X * (y.natAbs * 2 ^ X) = x.natAbs * y.natAbs * (2 ^ X * 2 ^ X * 2)
    ac_rfl
  obtain ⟨m', e', a, b, c, d⟩ := half (s := s ^^ t) (p := i + j) e3 (by omega) h
  refine hf_mk a b c d ?_
  intro hne
  have hx0 : x ≠ 0 := by rintro rfl; simp at hne
  have hy0 : y ≠ 0 := by rintro rfl; simp at hne
  have sgn : ∀ {s : Bool} {m k : Nat} {n : Int}, signed s m k = n * 2 ^ X → n ≠ 0 → s = decide (n < 0) := by
    intro s m k n hv hn
    have p2 : (0 : Int) < 2 ^ X := by have := Nat.two_pow_pos X; have e : ((2 ^ X : Nat) : Int) = (2 : Int) ^ X := by simp
                                      omega
    rw [signed_eq] at hv
    have hp : (0 : Int) ≤ ((m * 2 ^ k : Nat) : Int) := Int.natCast_nonneg _
    cases s
    · simp only [Bool.false_eq_true, if_false, Int.one_mul] at hv
      symm; apply decide_eq_false
      intro hlt
      have := Int.mul_neg_of_neg_of_pos hlt p2
      omega
    · simp only [if_true] at hv
      symm; apply decide_eq_true
      rcases Int.lt_or_le n 0 with h | h
      · exact h
      · have : 0 < n := by omega
        have := Int.mul_pos this p2
        omega
  rw [sgn hx (by omega), sgn hy hy0]
  by_cases h1 : x < 0 <;> by_cases h2 : y < 0
  · have : 0 < x * y := Int.mul_pos_of_neg_of_neg h1 h2
    simp [h2, show ¬ x * y < 0 from by omega, show 2 * x < 0 from by omega]
  · have : x * y < 0 := Int.mul_neg_of_neg_of_pos h1 (by omega)
    simp [h2, this, show 2 * x < 0 from by omega]
  · have : x * y < 0 := Int.mul_neg_of_pos_of_neg (by omega) h2
    simp [h2, this, show ¬ 2 * x < 0 from by omega]
  · have : 0 < x * y := Int.mul_pos (by omega) (by omega)
    simp [h2, show ¬ x * y < 0 from by omega, show ¬ 2 * x < 0 from by omega]

theorem Hf.ofInt {n : Int} (h : (2 * n).natAbs < 2 ^ 53) : Hf (double.write (.number (n < 0) n.natAbs 0)) (2 * n) := by
  have e3 : n.natAbs * 2 ^ 1 = (2 * n).natAbs * 2 ^ 0 := by omega
  obtain ⟨m', e', a, b, c, d⟩ := half (s := decide (n < 0)) (p := 0) e3 (by omega) h
  exact hf_mk a b c d (fun _ => by congr 1; apply propext; omega)

theorem Hf.order {a b : Nat} {x y : Int} (ha : Hf a x) (hb : Hf b y) : double.order a b = some (compare x y) := by
  obtain ⟨s, m, i, ea, hi, _, hx⟩ := ha
  obtain ⟨t, n, j, eb, hj, _, hy⟩ := hb
  unfold Format.order
  rw [ea, eb]
  simp only [Datum.order]
  generalize hbase : min i j = base
  have e1 : signed s m (i - base).toNat * 2 ^ (base + 1074).toNat = x * 2 ^ X := by
    rw [← signed_add, ← hx]; congr 1; omega
  have e2 : signed t n (j - base).toNat * 2 ^ (base + 1074).toNat = y * 2 ^ X := by
    rw [← signed_add, ← hy]; congr 1; omega
  generalize signed s m (i - base).toNat = A at *
  generalize signed t n (j - base).toNat = B at *
  have p1 : (0 : Int) < 2 ^ (base + 1074).toNat := by have := Nat.two_pow_pos (base + 1074).toNat; have e : ((2 ^ (base + 1074).toNat : Nat) : Int) = (2 : Int) ^ (base + 1074).toNat := by simp
                                                      omega
  have p2 : (0 : Int) < 2 ^ X := by have := Nat.two_pow_pos X; have e : ((2 ^ X : Nat) : Int) = (2 : Int) ^ X := by simp
                                    omega
  generalize (2 : Int) ^ (base + 1074).toNat = P at *
  generalize (2 : Int) ^ X = Q at *
  congr 1
  rcases Int.lt_trichotomy x y with h | h | h
  · have : A < B := by
      have h1 : x * Q < y * Q := Int.mul_lt_mul_of_pos_right h p2
      rw [← e1, ← e2] at h1
      exact Int.lt_of_mul_lt_mul_right h1 (Int.le_of_lt p1)
    rw [Int.compare_eq_lt.2 h, Int.compare_eq_lt.2 this]
  · have : A = B := by
      rw [h, ← e2] at e1
      exact Int.eq_of_mul_eq_mul_right (by omega) e1
    rw [Int.compare_eq_eq.2 h, Int.compare_eq_eq.2 this]
  · have : B < A := by
      have h1 : y * Q < x * Q := Int.mul_lt_mul_of_pos_right h p2
      rw [← e1, ← e2] at h1
      exact Int.lt_of_mul_lt_mul_right h1 (Int.le_of_lt p1)
    rw [Int.compare_eq_gt.2 h, Int.compare_eq_gt.2 this]

theorem Hf.neg {b : Nat} {n : Int} (h : Hf b n) : Hf (b ^^^ 2 ^ 63) (-n) := by
  obtain ⟨s, m, i, ea, hi, hm, hx⟩ := h
  refine ⟨!s, m, i, ?_, hi, hm, by rw [signed_not, hx, Int.neg_mul]⟩
  have e1 : (b ^^^ 2 ^ 63) % 2 ^ 63 = b % 2 ^ 63 := by rw [Nat.xor_mod_two_pow, Nat.mod_self, Nat.xor_zero]
  have e2 : (b ^^^ 2 ^ 63) / 2 ^ 63 % 2 = 1 - b / 2 ^ 63 % 2 := by
    rw [Nat.xor_div_two_pow, Nat.div_self (by decide)]
    have := Nat.xor_mod_two_pow (a := b / 2 ^ 63) (b := 1) (n := 1)
    rw [Nat.pow_one] at this
    rw [this]
    have h2 : b / 2 ^ 63 % 2 < 2 := Nat.mod_lt _ (by decide)
    generalize b / 2 ^ 63 % 2 = q at *
    rcases (by omega : q = 0 ∨ q = 1) with rfl | rfl <;> rfl
  unfold Format.read at ea ⊢
  simp only [sw_double, e1, e2] at ea ⊢
  have h2 : b / 2 ^ 63 % 2 < 2 := Nat.mod_lt _ (by decide)
  generalize b / 2 ^ 63 % 2 = q at *
  generalize b % 2 ^ 63 = r at *
  rcases (by omega : q = 0 ∨ q = 1) with rfl | rfl
  all_goals
    split at ea
    · rw [if_pos (by assumption)]; injection ea with a b c; subst a b c; rfl
    · rw [if_neg (by assumption)]
      split at ea
      · rw [if_pos (by assumption)]; injection ea with a b c; subst a b c; rfl
      · rw [if_neg (by assumption)]
        split at ea <;> cases ea

theorem read_two : double.read 4611686018427387904 = .number false (2 ^ 52) (-51) := by decide +kernel

/-- the half -/
theorem Hf.half {b : Nat} {n : Int} (h : Hf b (2 * n)) (hn : n.natAbs < 2 ^ 53) : ∃ r, double.div b 4611686018427387904 = some r ∧ Hf r n := by
  obtain ⟨s, m, i, ea, hi, hm, hx⟩ := h
  unfold Format.div
  rw [ea, read_two]
  have hlog : m.log2 ≤ 52 := by
    by_cases h0 : m = 0
    · subst h0; decide
    · have := (Nat.log2_lt h0).2 hm; omega
  have l52 : (2 ^ 52 : Nat).log2 = 52 := by decide +kernel
  show ∃ r, Option.map double.write (if (2 ^ 52 : Nat) = 0 then (if m = 0 then none else some (Datum.infinity (s ^^ false))) else some (Datum.number (s ^^ false) (2 * (m <<< (54 + (2 ^ 52 : Nat).log2 - m.log2) / 2 ^ 52) + (m <<< (54 + (2 ^ 52 : Nat).log2 - m.log2) % 2 ^ 52 != 0).toNat) (i - -51 - ((54 + (2 ^ 52 : Nat).log2 - m.log2 : Nat) : Int) - 1))) = some r ∧ Hf r n
  rw [if_neg (by decide), l52]
  refine ⟨_, rfl, ?_⟩
  show Hf (double.nearest _ _ _) n
  obtain ⟨k, hk⟩ : ∃ k, 54 + 52 - m.log2 = k + 52 := ⟨54 - m.log2, by omega⟩
  rw [hk, Nat.shiftLeft_eq, Nat.pow_add, ← Nat.mul_assoc, Nat.mul_div_cancel _ (by decide), Nat.mul_mod_left]
  simp only [bne_self_eq_false, Bool.toNat_false, Nat.add_zero, Bool.bne_false]
  have e1 := signed_inj hx
  have hX := X_eq
  have e3 : (2 * (m * 2 ^ k)) * 2 ^ ((i + 1074).toNat) = n.natAbs * 2 ^ (X + k + 2) := by
    rw [show 2 * (m * 2 ^ k) * 2 ^ (i + 1074).toNat = (m * 2 ^ (i + 1074).toNat) * (2 ^ k * 2) from by ac_rfl, e1, Int.natAbs_mul, Nat.pow_add, Nat.pow_add]
    show 2 * n.natAbs * 2 ^ X * (2 ^ k * 2) = n.natAbs * (2 ^ X * 2 ^ k * (2 * 2))
    ac_rfl
  obtain ⟨m', e', a, b, c, d⟩ := Fl.half (s := s) (p := i - -51 - ((k + 52 : Nat) : Int) - 1) e3 (by omega) hn
  refine hf_mk (by simpa using a) b c d ?_
  intro hne
  have hv := hx
  have p2 : (0 : Int) < 2 ^ X := by have := Nat.two_pow_pos X; have e : ((2 ^ X : Nat) : Int) = (2 : Int) ^ X := by simp
                                    omega
  rw [signed_eq] at hv
  have hp : (0 : Int) ≤ ((m * 2 ^ (i + 1074).toNat : Nat) : Int) := Int.natCast_nonneg _
  cases s
  · simp only [Bool.false_eq_true, if_false, Int.one_mul] at hv
    symm; apply decide_eq_false
    intro hlt
    have := Int.mul_neg_of_neg_of_pos (show 2 * n < 0 by omega) p2
    omega
  · simp only [if_true] at hv
    symm; apply decide_eq_true
    rcases Int.lt_or_le n 0 with h | h
    · exact h
    · have : 0 < 2 * n := by omega
      have := Int.mul_pos this p2
      omega
end Fl
end Go.Proofs.Ytgmkknaagbjcmaa
