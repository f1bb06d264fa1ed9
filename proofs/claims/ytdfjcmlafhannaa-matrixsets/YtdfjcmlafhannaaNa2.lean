/- Layer 25, plain: the closure of a relation: by turns (the program), and by what is reached (the document). -/
import Derived.Test.YtdfjcmlafhannaaNa1
namespace Go.Proofs.Ytdfjcmlafhannaa
open Go.ChangeShapes Go.WideShapes Go.ChangeAt Go.RowKit
namespace Mx

/-- rows of bits -/
abbrev Rws := Nat → Nat
def hs (r : Rws) (i k : Nat) : Bool := (r i).testBit k
def upd (r : Rws) (i v : Nat) : Rws := fun j => if j = i then v else r j
theorem upd_same (r : Rws) (i v : Nat) : upd r i v i = v := by simp [upd]
theorem upd_ne (r : Rws) (i v j : Nat) (h : j ≠ i) : upd r i v j = r j := by simp [upd, h]
/-- one is related to another one -/
def set1 (r : Rws) (i k : Nat) : Rws := upd r i (r i ||| 2 ^ k)
theorem hs_set1 (r : Rws) (i k a b : Nat) : hs (set1 r i k) a b = (hs r a b || (decide (a = i) && decide (b = k))) := by
  unfold hs set1 upd
  split
  · next h => subst h; rw [Nat.testBit_or, Nat.testBit_two_pow]; simp [eq_comm]
  · next h => simp [h]
/-- the turn of k, for the first i -/
def turn (r : Rws) (k : Nat) : Nat → Rws
  | 0 => r
  | i + 1 => if hs (turn r k i) i k then upd (turn r k i) i (turn r k i i ||| turn r k i k) else turn r k i
theorem turn_is (r : Rws) (k m a b : Nat) : hs (turn r k m) a b = (hs r a b || (decide (a < m) && (hs r a k && hs r k b))) := by
  induction m generalizing a b with
  | zero => simp [turn]
  | succ m ih =>
    have hk : ∀ c, hs (turn r k m) k c = hs r k c := by
      intro c
      rw [ih]
      cases h1 : hs r k c <;> simp
    simp only [turn]
    have hm : hs (turn r k m) m k = hs r m k := by rw [ih]; simp
    rw [hm]
    cases h : hs r m k
    · rw [if_neg (by simp), ih]
      by_cases e : a = m
      · subst e; simp [h]
      · have : decide (a < m + 1) = decide (a < m) := by simp; omega
        rw [this]
    · rw [if_pos rfl]
      by_cases e : a = m
      · subst e
        have e2 : hs (upd (turn r k a) a (turn r k a a ||| turn r k a k)) a b = (hs (turn r k a) a b || hs (turn r k a) k b) := by
          unfold hs; rw [upd_same, Nat.testBit_or]
        rw [e2, hk, ih]
        simp [h]
      · have e2 : hs (upd (turn r k m) m (turn r k m m ||| turn r k m k)) a b = hs (turn r k m) a b := by
          unfold hs; rw [upd_ne _ _ _ _ e]
        rw [e2, ih]
        have : decide (a < m + 1) = decide (a < m) := by simp; omega
        rw [this]
/-- the turns of the first k -/
def turns (r : Rws) (n : Nat) : Nat → Rws
  | 0 => r
  | k + 1 => turn (turns r n k) k n
def clo (r : Rws) (n : Nat) : Rws := turns r n n
theorem turns_succ (r : Rws) (n k a b : Nat) (h : a < n) : hs (turns r n (k + 1)) a b = (hs (turns r n k) a b || (hs (turns r n k) a k && hs (turns r n k) k b)) := by
  simp only [turns]
  rw [turn_is]
  simp [h]
/-- it goes on from one to the next, below n -/
def Tr (n : Nat) (g : Nat → Nat → Bool) : Prop := ∀ i j k, i < n → j < n → k < n → g i j = true → g j k = true → g i k = true
theorem turns_tr (r : Rws) (n K : Nat) (hK : K ≤ n) : ∀ i a j, i < n → a < K → hs (turns r n K) i a = true → hs (turns r n K) a j = true → hs (turns r n K) i j = true := by
  induction K with
  | zero => intro i a j _ ha; omega
  | succ K ih =>
    intro i a j hi ha h1 h2
    have ih := ih (by omega)
    rw [turns_succ _ _ _ _ _ hi] at h1 ⊢
    rw [turns_succ _ _ _ _ _ (by omega)] at h2
    simp only [Bool.or_eq_true, Bool.and_eq_true] at h1 h2 ⊢
    by_cases e : a = K
    · subst e
      refine .inr ⟨?_, ?_⟩
      · rcases h1 with h1 | h1
        · exact h1
        · exact h1.1
      · rcases h2 with h2 | h2
        · exact h2
        · exact h2.2
    · have ha' : a < K := by omega
      rcases h1 with h1 | ⟨h1, h1'⟩
      · rcases h2 with h2 | ⟨h2, h2'⟩
        · exact .inl (ih i a j hi ha' h1 h2)
        · exact .inr ⟨ih i a K hi ha' h1 h2, h2'⟩
      · rcases h2 with h2 | ⟨h2, h2'⟩
        · exact .inr ⟨h1, ih K a j (by omega) ha' h1' h2⟩
        · exact .inr ⟨h1, h2'⟩
theorem clo_tr (r : Rws) (n : Nat) : Tr n (hs (clo r n)) := fun i j k hi hj _ h1 h2 => turns_tr r n n (Nat.le_refl _) i j k hi hj h1 h2
theorem clo_has (r : Rws) (n i k : Nat) (hi : i < n) (h : hs r i k = true) : hs (clo r n) i k = true := by
  have : ∀ K, hs (turns r n K) i k = true := by
    intro K
    induction K with
    | zero => exact h
    | succ K ih => rw [turns_succ _ _ _ _ _ hi, ih]; rfl
  exact this n
theorem clo_least (r : Rws) (n : Nat) (g : Nat → Nat → Bool) (hg : Tr n g) (hr : ∀ i k, i < n → k < n → hs r i k = true → g i k = true) : ∀ i k, i < n → k < n → hs (clo r n) i k = true → g i k = true := by
  have : ∀ K, K ≤ n → ∀ i k, i < n → k < n → hs (turns r n K) i k = true → g i k = true := by
    intro K
    induction K with
    | zero => intro _; exact hr
    | succ K ih =>
      intro hK i k hi hk h
      have ih := ih (by omega)
      rw [turns_succ _ _ _ _ _ hi] at h
      simp only [Bool.or_eq_true, Bool.and_eq_true] at h
      rcases h with h | ⟨h1, h2⟩
      · exact ih i k hi hk h
      · exact hg i K k hi (by omega) hk (ih i K hi (by omega) h1) (ih K k (by omega) hk h2)
  exact this n (Nat.le_refl _)
/-- all rows are of n numbers -/
def Bd (n : Nat) (r : Rws) : Prop := ∀ i k, n ≤ k → hs r i k = false
theorem Bd.zero (n : Nat) : Bd n (fun _ => 0) := fun i k _ => by simp [hs]
theorem Bd.set1 {n : Nat} {r : Rws} (h : Bd n r) (i k : Nat) (hk : k < n) : Bd n (set1 r i k) := by
  intro a b hb
  rw [hs_set1, h a b hb]
  have : decide (b = k) = false := by simp; omega
  simp [this]
theorem Bd.turn {n : Nat} {r : Rws} (h : Bd n r) (k m : Nat) : Bd n (turn r k m) := by
  intro a b hb
  rw [turn_is, h a b hb, h k b hb]
  simp
theorem Bd.turns {n : Nat} {r : Rws} (h : Bd n r) (m k : Nat) : Bd n (turns r m k) := by
  induction k with
  | zero => exact h
  | succ k ih => exact ih.turn k m
theorem Bd.clo {n : Nat} {r : Rws} (h : Bd n r) (m : Nat) : Bd n (clo r m) := h.turns m m
/-- how many pairs -/
def total (r : Rws) (n : Nat) : Nat → Nat
  | 0 => 0
  | i + 1 => total r n i + cnt (r i) n
theorem total_congr {r s : Rws} {n m : Nat} (h : ∀ i k, i < m → k < n → hs r i k = hs s i k) : total r n m = total s n m := by
  induction m with
  | zero => rfl
  | succ m ih => simp only [total]; rw [ih fun i k hi hk => h i k (by omega) hk, cnt_congr fun k hk => h m k (by omega) hk]
theorem total_le (r : Rws) (n m : Nat) : total r n m ≤ n * m := by
  induction m with
  | zero => simp [total]
  | succ m ih => simp only [total]; have := cnt_le (r m) n; rw [Nat.mul_succ]; omega
/-- the same, column by column -/
theorem total_turned (r s : Rws) (n m : Nat) (h : ∀ i k, i < m → k < n → hs r i k = hs s k i) : total r n m = total s m n := by
  induction n generalizing m with
  | zero =>
    have : ∀ m, total r 0 m = 0 := by
      intro m
      induction m with
      | zero => rfl
      | succ m ih => simp [total, ih, cnt]
    rw [this]; rfl
  | succ n ih =>
    simp only [total]
    rw [← ih m fun i k hi hk => h i k hi (by omega)]
    have : ∀ m', m' ≤ m → total r (n + 1) m' = total r n m' + cnt (s n) m' := by
      intro m'
      induction m' with
      | zero => intro _; rfl
      | succ m' ih2 =>
        intro hm
        simp only [total, cnt]
        rw [ih2 (by omega)]
        have e := h m' n (by omega) (by omega)
        unfold hs at e
        rw [e]
        omega
    exact this m (Nat.le_refl _)
/-- two closures of relations that are turned around -/
theorem clo_turned (r s : Rws) (n : Nat) (h : ∀ i k, i < n → k < n → hs r i k = hs s k i) (i k : Nat) (hi : i < n) (hk : k < n) : hs (clo r n) i k = hs (clo s n) k i := by
  have a : ∀ (r s : Rws), (∀ i k, i < n → k < n → hs r i k = hs s k i) → ∀ i k, i < n → k < n → hs (clo r n) i k = true → hs (clo s n) k i = true := by
    intro r s h
    exact clo_least r n (fun i k => hs (clo s n) k i) (fun i j k hi hj hk h1 h2 => clo_tr s n k j i hk hj hi h2 h1) (fun i k hi hk e => clo_has s n k i hk (by rw [← h i k hi hk]; exact e))
  have h1 := a r s h i k hi hk
  have h2 := a s r (fun i k hi hk => (h k i hk hi).symm) k i hk hi
  rw [Bool.eq_iff_iff]
  exact ⟨h1, h2⟩
/-- to close what is closed changes nothing -/
theorem clo_clo (r : Rws) (n i k : Nat) (hi : i < n) (hk : k < n) : hs (clo (clo r n) n) i k = hs (clo r n) i k := by
  rw [Bool.eq_iff_iff]
  exact ⟨clo_least _ n _ (clo_tr r n) (fun _ _ _ _ h => h) i k hi hk, clo_has _ n i k hi⟩
theorem clo_mono (r s : Rws) (n : Nat) (h : ∀ i k, i < n → k < n → hs r i k = true → hs s i k = true) (i k : Nat) (hi : i < n) (hk : k < n) (e : hs (clo r n) i k = true) : hs (clo s n) i k = true :=
  clo_least r n _ (clo_tr s n) (fun i k hi hk q => clo_has s n i k hi (h i k hi hk q)) i k hi hk e
/-- many are related -/
def sets (n : Nat) (r : Rws) : List (Int × Int) → Rws
  | [] => r
  | p :: l => sets n (if 0 ≤ p.1 ∧ p.1 < n ∧ 0 ≤ p.2 ∧ p.2 < n then set1 r p.1.toNat p.2.toNat else r) l
theorem sets_append (n : Nat) (r : Rws) (l m : List (Int × Int)) : sets n r (l ++ m) = sets n (sets n r l) m := by
  induction l generalizing r with
  | nil => rfl
  | cons p l ih => exact ih _
theorem hs_sets (n : Nat) (r : Rws) (l : List (Int × Int)) (i k : Nat) (hi : i < n) (hk : k < n) : hs (sets n r l) i k = (hs r i k || l.any fun p => decide (p = ((i : Int), (k : Int)))) := by
  induction l generalizing r with
  | nil => simp [sets]
  | cons p l ih =>
    simp only [sets, List.any_cons]
    rw [ih]
    split
    · next h =>
      rw [hs_set1]
      have : (decide (i = p.1.toNat) && decide (k = p.2.toNat)) = decide (p = ((i : Int), (k : Int))) := by
        rw [Bool.eq_iff_iff]
        obtain ⟨a, b⟩ := p
        simp only [Bool.and_eq_true, decide_eq_true_eq, Prod.mk.injEq]
        simp only at h
        omega
      rw [this, Bool.or_assoc]
    · next h =>
      have : decide (p = ((i : Int), (k : Int))) = false := by
        simp only [decide_eq_false_iff_not]
        intro e
        subst e
        exact h (by simp; omega)
      rw [this, Bool.false_or]
theorem Bd.sets {n : Nat} (l : List (Int × Int)) {r : Rws} (h : Bd n r) : Bd n (sets n r l) := by
  induction l generalizing r with
  | nil => exact h
  | cons p l ih =>
    simp only [Mx.sets]
    split
    · next q => exact ih (h.set1 _ _ (by omega))
    · exact ih h

/-! ### what is reached -/
/-- of what is reached from j on, the first m -/
abbrev Bls := Nat → Bool
def gos (T : Nat → Nat → Bool) (o : Bls) (j : Nat) : Bls := fun k => o k || (o j && T j k)
/-- one round, up to j -/
def rnd (T : Nat → Nat → Bool) (o : Bls) : Nat → Bls
  | 0 => o
  | j + 1 => gos T (rnd T o j) j
def rnds (T : Nat → Nat → Bool) (n : Nat) (o : Bls) : Nat → Bls
  | 0 => o
  | m + 1 => rnd T (rnds T n o m) n
theorem rnd_mono (T : Nat → Nat → Bool) (o : Bls) (j k : Nat) (h : o k = true) : rnd T o j k = true := by
  induction j with
  | zero => exact h
  | succ j ih => simp only [rnd, gos, ih, Bool.true_or]
theorem rnds_mono (T : Nat → Nat → Bool) (n : Nat) (o : Bls) (m k : Nat) (h : o k = true) : rnds T n o m k = true := by
  induction m with
  | zero => exact h
  | succ m ih => exact rnd_mono _ _ _ _ ih
theorem rnd_mono2 (T : Nat → Nat → Bool) (o : Bls) (a b k : Nat) (hab : a ≤ b) (h : rnd T o a k = true) : rnd T o b k = true := by
  induction b with
  | zero => rwa [show a = 0 by omega] at h
  | succ b ih =>
    by_cases e : a = b + 1
    · rwa [e] at h
    · simp only [rnd, gos, ih (by omega), Bool.true_or]
theorem rnd_step (T : Nat → Nat → Bool) (o : Bls) (n j k : Nat) (hj : j < n) (h : o j = true) (ht : T j k = true) : rnd T o n k = true := by
  refine rnd_mono2 T o (j + 1) n k hj ?_
  simp only [rnd, gos, rnd_mono T o j j h, ht, Bool.and_true, Bool.or_true]
/-- nothing is reached but what must be -/
theorem rnd_sound (T : Nat → Nat → Bool) (o g : Bls) (m : Nat) (h0 : ∀ k, o k = true → g k = true) (h1 : ∀ j k, j < m → g j = true → T j k = true → g k = true) : ∀ k, rnd T o m k = true → g k = true := by
  induction m with
  | zero => exact h0
  | succ m ih =>
    have ih := ih fun j k hj => h1 j k (by omega)
    intro k hk
    simp only [rnd, gos, Bool.or_eq_true, Bool.and_eq_true] at hk
    rcases hk with hk | ⟨ha, hb⟩
    · exact ih k hk
    · exact h1 m k (by omega) (ih m ha) hb
theorem rnds_sound (T : Nat → Nat → Bool) (n : Nat) (o g : Bls) (m : Nat) (h0 : ∀ k, o k = true → g k = true) (h1 : ∀ j k, j < n → g j = true → T j k = true → g k = true) : ∀ k, rnds T n o m k = true → g k = true := by
  induction m with
  | zero => exact h0
  | succ m ih => exact rnd_sound T _ g n ih h1
/-- how many are reached, of the first n -/
def many (o : Bls) : Nat → Nat
  | 0 => 0
  | n + 1 => many o n + (if o n then 1 else 0)
theorem many_le (o : Bls) (n : Nat) : many o n ≤ n := by
  induction n with
  | zero => exact Nat.le_refl _
  | succ n ih => simp only [many]; split <;> omega
theorem many_mono {o q : Bls} (h : ∀ k, o k = true → q k = true) (n : Nat) : many o n ≤ many q n := by
  induction n with
  | zero => exact Nat.le_refl _
  | succ n ih =>
    simp only [many]
    cases h1 : o n
    · simp; split <;> omega
    · simp [h n h1]; omega
theorem many_lt {o q : Bls} (h : ∀ k, o k = true → q k = true) (n k : Nat) (hk : k < n) (h1 : o k = false) (h2 : q k = true) : many o n < many q n := by
  induction n with
  | zero => omega
  | succ n ih =>
    simp only [many]
    by_cases e : k = n
    · subst e
      have := many_mono h k
      simp [h1, h2]; omega
    · have := ih (by omega)
      cases h3 : o n
      · simp; split <;> omega
      · simp [h n h3]; omega
theorem many_all {o : Bls} {n : Nat} (h : n ≤ many o n) (k : Nat) (hk : k < n) : o k = true := by
  induction n with
  | zero => omega
  | succ n ih =>
    simp only [many] at h
    have := many_le o n
    cases h1 : o n
    · simp [h1] at h; omega
    · by_cases e : k = n
      · rw [e]; exact h1
      · exact ih (by simp [h1] at h; omega) (by omega)
/-- what is reached goes on -/
def Cl (T : Nat → Nat → Bool) (n : Nat) (o : Bls) : Prop := ∀ j k, j < n → k < n → o j = true → T j k = true → o k = true
theorem rnds_closed (T : Nat → Nat → Bool) (n : Nat) (o : Bls) : Cl T n (rnds T n o n) := by
  have key : ∀ m, Cl T n (rnds T n o m) ∨ m ≤ many (rnds T n o m) n := by
    intro m
    induction m with
    | zero => exact .inr (Nat.zero_le _)
    | succ m ih =>
      generalize hq : rnds T n o m = q at *
      have hs : rnds T n o (m + 1) = rnd T q n := by simp only [rnds, hq]
      rw [hs]
      by_cases hst : ∀ k, k < n → rnd T q n k = true → q k = true
      · refine .inl fun j k hj hk h1 h2 => ?_
        exact rnd_mono T q n k (hst k hk (rnd_step T q n j k hj (hst j hj h1) h2))
      · have : ∃ k, k < n ∧ rnd T q n k = true ∧ q k = false := by
          rw [Classical.not_forall] at hst
          obtain ⟨k, hk⟩ := hst
          rw [Classical.not_imp, Classical.not_imp] at hk
          exact ⟨k, hk.1, hk.2.1, by simpa using hk.2.2⟩
        obtain ⟨k, hk, h1, h2⟩ := this
        have hlt := many_lt (fun k => rnd_mono T q n k) n k hk h2 h1
        rcases ih with ih | ih
        · exfalso
          have := rnd_sound T q (fun k => if k < n then q k else true) n (fun k h => by split <;> simp [h]) (fun j k hj h3 h4 => by
            simp only [hj, if_true] at h3 ⊢
            split
            · next hkn => exact ih j k hj hkn h3 h4
            · rfl) k h1
          simp only [hk, if_true] at this
          rw [h2] at this; cases this
        · exact .inr (by omega)
  rcases key n with h | h
  · exact h
  · exact fun j k _ hk _ _ => many_all h k hk
/-- what is reached from i: the closure -/
theorem reach_is (r : Rws) (n i k : Nat) (hi : i < n) (hk : k < n) : rnds (hs r) n (hs r i) n k = hs (clo r n) i k := by
  rw [Bool.eq_iff_iff]
  constructor
  · intro h
    have := rnds_sound (hs r) n (hs r i) (fun k => if k < n then hs (clo r n) i k else true) n (fun k h => by
      split
      · exact clo_has r n i k hi h
      · rfl) (fun j k hj h3 h4 => by
      simp only [hj, if_true] at h3 ⊢
      split
      · next hkn => exact clo_tr r n i j k hi hj hkn h3 (clo_has r n j k hj h4)
      · rfl) k h
    simpa only [hk, if_true] using this
  · intro h
    have hc := rnds_closed (hs r) n (hs r i)
    have := clo_least r n (fun x y => !(decide (x = i) || rnds (hs r) n (hs r i) n x) || rnds (hs r) n (hs r i) n y) (fun a b c ha hb hcn h1 h2 => by
        simp only [Bool.or_eq_true, Bool.not_eq_true', Bool.or_eq_false_iff, decide_eq_false_iff_not] at h1 h2 ⊢
        rcases h1 with h1 | h1
        · exact .inl h1
        · rcases h2 with h2 | h2
          · rw [h2.2] at h1; cases h1
          · exact .inr h2) (fun a b ha hb h1 => by
        simp only [Bool.or_eq_true, Bool.not_eq_true', Bool.or_eq_false_iff, decide_eq_false_iff_not]
        by_cases e : a = i
        · subst e; exact .inr (rnds_mono _ _ _ _ _ h1)
        · cases h2 : rnds (hs r) n (hs r i) n a
          · exact .inl ⟨e, rfl⟩
          · exact .inr (hc a b ha hb h2 h1)) i k hi hk h
    simpa using this
end Mx
end Go.Proofs.Ytdfjcmlafhannaa
