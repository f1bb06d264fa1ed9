import Derived.Test.YtblfimobiibmjaaGreatZjAh2
import Derived.WalkKit
import Derived.ProofKit
import Derived.OpenShut
import Derived.Deep.RegionHeld3
import Derived.Deep.QuietTactic
import Derived.BigQuiet
namespace Go.Proofs.YtblfimobiibmjaaGreat
open Go.ChangeShapes Go.WideShapes Go.ChangeAt Go.RowKit
namespace Mx
theorem hide {p : Prop} (h : p) : Hid p := h
theorem ofInt_nat (x : Nat) (h : x < 18446744073709551616) : (BitVec.ofInt 64 (x : Int)).toNat = x := by
 rw [BitVec.ofInt_natCast, BitVec.toNat_ofNat]
 exact Nat.mod_eq_of_lt (by simpa using h)
theorem wrap_u64 (n : Int) : IntKind.u64.wrap n = n % 18446744073709551616 := by
 simp [IntKind.wrap, IntKind.signed, IntKind.bits]
theorem wrap_u64n (n : Nat) (h : n < 18446744073709551616) : IntKind.u64.wrap (n : Int) = (n : Int) := by
 rw [wrap_u64]; omega
theorem and_nat (x y : Nat) (hx : x < 18446744073709551616) (hy : y < 18446744073709551616) : bits .and .u64 (x : Int) (y : Int) = ((x &&& y : Nat) : Int) := by
 have e : bits .and .u64 (x : Int) (y : Int) = IntKind.u64.wrap (((BitVec.ofInt 64 (x : Int)) &&& (BitVec.ofInt 64 (y : Int))).toNat : Int) := rfl
 rw [e, BitVec.toNat_and, ofInt_nat x hx, ofInt_nat y hy]
 exact wrap_u64n _ (Nat.lt_of_le_of_lt Nat.and_le_left hx)
theorem or_lt64 (x y : Nat) (hx : x < 18446744073709551616) (hy : y < 18446744073709551616) : x ||| y < 18446744073709551616 := by
 have := Nat.or_lt_two_pow (n := 64) (x := x) (y := y) (by simpa using hx) (by simpa using hy)
 simpa using this
theorem or_nat (x y : Nat) (hx : x < 18446744073709551616) (hy : y < 18446744073709551616) : bits .or .u64 (x : Int) (y : Int) = ((x ||| y : Nat) : Int) := by
 have e : bits .or .u64 (x : Int) (y : Int) = IntKind.u64.wrap (((BitVec.ofInt 64 (x : Int)) ||| (BitVec.ofInt 64 (y : Int))).toNat : Int) := rfl
 rw [e, BitVec.toNat_or, ofInt_nat x hx, ofInt_nat y hy]
 exact wrap_u64n _ (or_lt64 x y hx hy)
def o1 (x : Nat) : Nat := (x / 2 &&& 6148914691236517205) + (x &&& 6148914691236517205)
def o2 (x : Nat) : Nat := (x / 4 &&& 3689348814741910323) + (x &&& 3689348814741910323)
def o3 (x : Nat) : Nat := (x / 16 + x) &&& 1085102592571150095
def o4 (z : Nat) : Nat := z + z / 256
end Mx
end Go.Proofs.YtblfimobiibmjaaGreat
namespace Go.Proofs.YtblfimobiibmjaaGreat
open Go.ChangeShapes Go.WideShapes Go.ChangeAt Go.RowKit
namespace Mx
abbrev Rws := Nat → Nat
def hs (r : Rws) (i k : Nat) : Bool := (r i).testBit k
def upd (r : Rws) (i v : Nat) : Rws := fun j => if j = i then v else r j
theorem upd_same (r : Rws) (i v : Nat) : upd r i v i = v := by simp [upd]
theorem upd_ne (r : Rws) (i v j : Nat) (h : j ≠ i) : upd r i v j = r j := by simp [upd, h]
def set1 (r : Rws) (i k : Nat) : Rws := upd r i (r i ||| 2 ^ k)
theorem hs_set1 (r : Rws) (i k a b : Nat) : hs (set1 r i k) a b = (hs r a b || (decide (a = i) && decide (b = k))) := by
 unfold hs set1 upd
 split
 ·next h => subst h; rw [Nat.testBit_or, Nat.testBit_two_pow]; simp [eq_comm]
 ·next h => simp [h]
def turn (r : Rws) (k : Nat) : Nat → Rws
 | 0 => r
 | i + 1 => if hs (turn r k i) i k then upd (turn r k i) i (turn r k i i ||| turn r k i k) else turn r k i
theorem turn_is (r : Rws) (k m a b : Nat) : hs (turn r k m) a b = (hs r a b || (decide (a < m) && (hs r a k && hs r k b))) := by
 induction m generalizing a b with
 | zero => simp [turn]
 | succ m ih =>
   have hk : ∀ c, hs (turn r k m) k c = hs r k c := by
    intro c
    rw [ih]
    cases h1 : hs r k c <;> simp
   simp only [turn]
   have hm : hs (turn r k m) m k = hs r m k := by rw [ih]; simp
   rw [hm]
   cases h : hs r m k
   ·rw [if_neg (by simp), ih]
    by_cases e : a = m
    ·subst e; simp [h]
    ·have : decide (a < m + 1) = decide (a < m) := by simp; omega
     rw [this]
   ·rw [if_pos rfl]
    by_cases e : a = m
    ·subst e
     have e2 : hs (upd (turn r k a) a (turn r k a a ||| turn r k a k)) a b = (hs (turn r k a) a b || hs (turn r k a) k b) := by
      unfold hs; rw [upd_same, Nat.testBit_or]
     rw [e2, hk, ih]
     simp [h]
    ·have e2 : hs (upd (turn r k m) m (turn r k m m ||| turn r k m k)) a b = hs (turn r k m) a b := by
      unfold hs; rw [upd_ne _ _ _ _ e]
     rw [e2, ih]
     have : decide (a < m + 1) = decide (a < m) := by simp; omega
     rw [this]
def turns (r : Rws) (n : Nat) : Nat → Rws
 | 0 => r
 | k + 1 => turn (turns r n k) k n
def clo (r : Rws) (n : Nat) : Rws := turns r n n
theorem turns_succ (r : Rws) (n k a b : Nat) (h : a < n) : hs (turns r n (k + 1)) a b = (hs (turns r n k) a b || (hs (turns r n k) a k && hs (turns r n k) k b)) := by
 simp only [turns]
 rw [turn_is]
 simp [h]
def Tr (n : Nat) (g : Nat → Nat → Bool) : Prop := ∀ i j k, i < n → j < n → k < n → g i j = true → g j k = true → g i k = true
theorem turns_tr (r : Rws) (n K : Nat) (hK : K ≤ n) : ∀ i a j, i < n → a < K → hs (turns r n K) i a = true → hs (turns r n K) a j = true → hs (turns r n K) i j = true := by
 induction K with
 | zero => intro i a j _ ha; omega
 | succ K ih =>
   intro i a j hi ha h1 h2
   have ih := ih (by omega)
   rw [turns_succ _ _ _ _ _ hi] at h1 ⊢
   rw [turns_succ _ _ _ _ _ (by omega)] at h2
   simp only [Bool.or_eq_true, Bool.and_eq_true] at h1 h2 ⊢
   by_cases e : a = K
   ·subst e
    refine .inr ⟨?_, ?_⟩
    ·rcases h1 with h1 | h1
     ·exact h1
     ·exact h1.1
    ·rcases h2 with h2 | h2
     ·exact h2
     ·exact h2.2
   ·have ha' : a < K := by omega
    rcases h1 with h1 | ⟨h1, h1'⟩
    ·rcases h2 with h2 | ⟨h2, h2'⟩
     ·exact .inl (ih i a j hi ha' h1 h2)
     ·exact .inr ⟨ih i a K hi ha' h1 h2, h2'⟩
    ·rcases h2 with h2 | ⟨h2, h2'⟩
     ·exact .inr ⟨h1, ih K a j (by omega) ha' h1' h2⟩
     ·exact .inr ⟨h1, h2'⟩
theorem clo_tr (r : Rws) (n : Nat) : Tr n (hs (clo r n)) := fun i j k hi hj _ h1 h2 => turns_tr r n n (Nat.le_refl _) i j k hi hj h1 h2
theorem clo_has (r : Rws) (n i k : Nat) (hi : i < n) (h : hs r i k = true) : hs (clo r n) i k = true := by
 have : ∀ K, hs (turns r n K) i k = true := by
  intro K
  induction K with
  | zero => exact h
  | succ K ih => rw [turns_succ _ _ _ _ _ hi, ih]; rfl
 exact this n
theorem clo_least (r : Rws) (n : Nat) (g : Nat → Nat → Bool) (hg : Tr n g) (hr : ∀ i k, i < n → k < n → hs r i k = true → g i k = true) : ∀ i k, i < n → k < n → hs (clo r n) i k = true → g i k = true := by
 have : ∀ K, K ≤ n → ∀ i k, i < n → k < n → hs (turns r n K) i k = true → g i k = true := by
  intro K
  induction K with
  | zero => intro _; exact hr
  | succ K ih =>
    intro hK i k hi hk h
    have ih := ih (by omega)
    rw [turns_succ _ _ _ _ _ hi] at h
    simp only [Bool.or_eq_true, Bool.and_eq_true] at h
    rcases h with h | ⟨h1, h2⟩
    ·exact ih i k hi hk h
    ·exact hg i K k hi (by omega) hk (ih i K hi (by omega) h1) (ih K k (by omega) hk h2)
 exact this n (Nat.le_refl _)
def Bd (n : Nat) (r : Rws) : Prop := ∀ i k, n ≤ k → hs r i k = false
theorem Bd.zero (n : Nat) : Bd n (fun _ => 0) := fun i k _ => by simp [hs]
theorem Bd.set1 {n : Nat} {r : Rws} (h : Bd n r) (i k : Nat) (hk : k < n) : Bd n (set1 r i k) := by
 intro a b hb
 rw [hs_set1, h a b hb]
 have : decide (b = k) = false := by simp; omega
 simp [this]
def sets (n : Nat) (r : Rws) : List (Int × Int) → Rws
 | [] => r
 | p :: l => sets n (if 0 ≤ p.1 ∧ p.1 < n ∧ 0 ≤ p.2 ∧ p.2 < n then set1 r p.1.toNat p.2.toNat else r) l
theorem sets_append (n : Nat) (r : Rws) (l m : List (Int × Int)) : sets n r (l ++ m) = sets n (sets n r l) m := by
 induction l generalizing r with
 | nil => rfl
 | cons p l ih => exact ih _
theorem hs_sets (n : Nat) (r : Rws) (l : List (Int × Int)) (i k : Nat) (hi : i < n) (hk : k < n) : hs (sets n r l) i k = (hs r i k || l.any fun p => decide (p = ((i : Int), (k : Int)))) := by
 induction l generalizing r with
 | nil => simp [sets]
 | cons p l ih =>
   simp only [sets, List.any_cons]
   rw [ih]
   split
   ·next h =>
    rw [hs_set1]
    have : (decide (i = p.1.toNat) && decide (k = p.2.toNat)) = decide (p = ((i : Int), (k : Int))) := by
     rw [Bool.eq_iff_iff]
     obtain ⟨a, b⟩ := p
     simp only [Bool.and_eq_true, decide_eq_true_eq, Prod.mk.injEq]
     simp only at h
     omega
    rw [this, Bool.or_assoc]
   ·next h =>
    have : decide (p = ((i : Int), (k : Int))) = false := by
     simp only [decide_eq_false_iff_not]
     intro e
     subst e
     exact h (by simp; omega)
    rw [this, Bool.false_or]
theorem Bd.sets {n : Nat} (l : List (Int × Int)) {r : Rws} (h : Bd n r) : Bd n (sets n r l) := by
 induction l generalizing r with
 | nil => exact h
 | cons p l ih =>
   simp only [Mx.sets]
   split
   ·next q => exact ih (h.set1 _ _ (by omega))
   ·exact ih h
abbrev Bls := Nat → Bool
def gos (T : Nat → Nat → Bool) (o : Bls) (j : Nat) : Bls := fun k => o k || (o j && T j k)
def rnd (T : Nat → Nat → Bool) (o : Bls) : Nat → Bls
 | 0 => o
 | j + 1 => gos T (rnd T o j) j
def rnds (T : Nat → Nat → Bool) (n : Nat) (o : Bls) : Nat → Bls
 | 0 => o
 | m + 1 => rnd T (rnds T n o m) n
theorem rnd_mono (T : Nat → Nat → Bool) (o : Bls) (j k : Nat) (h : o k = true) : rnd T o j k = true := by
 induction j with
 | zero => exact h
 | succ j ih => simp only [rnd, gos, ih, Bool.true_or]
theorem rnds_mono (T : Nat → Nat → Bool) (n : Nat) (o : Bls) (m k : Nat) (h : o k = true) : rnds T n o m k = true := by
 induction m with
 | zero => exact h
 | succ m ih => exact rnd_mono _ _ _ _ ih
theorem rnd_mono2 (T : Nat → Nat → Bool) (o : Bls) (a b k : Nat) (hab : a ≤ b) (h : rnd T o a k = true) : rnd T o b k = true := by
 induction b with
 | zero => rwa [show a = 0 by omega] at h
 | succ b ih =>
   by_cases e : a = b + 1
   ·rwa [e] at h
   ·simp only [rnd, gos, ih (by omega), Bool.true_or]
theorem rnd_step (T : Nat → Nat → Bool) (o : Bls) (n j k : Nat) (hj : j < n) (h : o j = true) (ht : T j k = true) : rnd T o n k = true := by
 refine rnd_mono2 T o (j + 1) n k hj ?_
 simp only [rnd, gos, rnd_mono T o j j h, ht, Bool.and_true, Bool.or_true]
theorem rnd_sound (T : Nat → Nat → Bool) (o g : Bls) (m : Nat) (h0 : ∀ k, o k = true → g k = true) (h1 : ∀ j k, j < m → g j = true → T j k = true → g k = true) : ∀ k, rnd T o m k = true → g k = true := by
 induction m with
 | zero => exact h0
 | succ m ih =>
   have ih := ih fun j k hj => h1 j k (by omega)
   intro k hk
   simp only [rnd, gos, Bool.or_eq_true, Bool.and_eq_true] at hk
   rcases hk with hk | ⟨ha, hb⟩
   ·exact ih k hk
   ·exact h1 m k (by omega) (ih m ha) hb
theorem rnds_sound (T : Nat → Nat → Bool) (n : Nat) (o g : Bls) (m : Nat) (h0 : ∀ k, o k = true → g k = true) (h1 : ∀ j k, j < n → g j = true → T j k = true → g k = true) : ∀ k, rnds T n o m k = true → g k = true := by
 induction m with
 | zero => exact h0
 | succ m ih => exact rnd_sound T _ g n ih h1
def many (o : Bls) : Nat → Nat
 | 0 => 0
 | n + 1 => many o n + (if o n then 1 else 0)
theorem many_le (o : Bls) (n : Nat) : many o n ≤ n := by
 induction n with
 | zero => exact Nat.le_refl _
 | succ n ih => simp only [many]; split <;> omega
theorem many_mono {o q : Bls} (h : ∀ k, o k = true → q k = true) (n : Nat) : many o n ≤ many q n := by
 induction n with
 | zero => exact Nat.le_refl _
 | succ n ih =>
   simp only [many]
   cases h1 : o n
   ·simp; split <;> omega
   ·simp [h n h1]; omega
theorem many_lt {o q : Bls} (h : ∀ k, o k = true → q k = true) (n k : Nat) (hk : k < n) (h1 : o k = false) (h2 : q k = true) : many o n < many q n := by
 induction n with
 | zero => omega
 | succ n ih =>
   simp only [many]
   by_cases e : k = n
   ·subst e
    have := many_mono h k
    simp [h1, h2]; omega
   ·have := ih (by omega)
    cases h3 : o n
    ·simp; split <;> omega
    ·simp [h n h3]; omega
theorem many_all {o : Bls} {n : Nat} (h : n ≤ many o n) (k : Nat) (hk : k < n) : o k = true := by
 induction n with
 | zero => omega
 | succ n ih =>
   simp only [many] at h
   have := many_le o n
   cases h1 : o n
   ·simp [h1] at h; omega
   ·by_cases e : k = n
    ·rw [e]; exact h1
    ·exact ih (by simp [h1] at h; omega) (by omega)
def Cl (T : Nat → Nat → Bool) (n : Nat) (o : Bls) : Prop := ∀ j k, j < n → k < n → o j = true → T j k = true → o k = true
theorem rnds_closed (T : Nat → Nat → Bool) (n : Nat) (o : Bls) : Cl T n (rnds T n o n) := by
 have key : ∀ m, Cl T n (rnds T n o m) ∨ m ≤ many (rnds T n o m) n := by
  intro m
  induction m with
  | zero => exact .inr (Nat.zero_le _)
  | succ m ih =>
    generalize hq : rnds T n o m = q at *
    have hs : rnds T n o (m + 1) = rnd T q n := by simp only [rnds, hq]
    rw [hs]
    by_cases hst : ∀ k, k < n → rnd T q n k = true → q k = true
    ·refine .inl fun j k hj hk h1 h2 => ?_
     exact rnd_mono T q n k (hst k hk (rnd_step T q n j k hj (hst j hj h1) h2))
    ·have : ∃ k, k < n ∧ rnd T q n k = true ∧ q k = false := by
      rw [Classical.not_forall] at hst
      obtain ⟨k, hk⟩ := hst
      rw [Classical.not_imp, Classical.not_imp] at hk
      exact ⟨k, hk.1, hk.2.1, by simpa using hk.2.2⟩
     obtain ⟨k, hk, h1, h2⟩ := this
     have hlt := many_lt (fun k => rnd_mono T q n k) n k hk h2 h1
     rcases ih with ih | ih
     ·exfalso
      have := rnd_sound T q (fun k => if k < n then q k else true) n (fun k h => by split <;> simp [h]) (fun j k hj h3 h4 => by
       simp only [hj, if_true] at h3 ⊢
       split
       ·next hkn => exact ih j k hj hkn h3 h4
       ·rfl) k h1
      simp only [hk, if_true] at this
      rw [h2] at this; cases this
     ·exact .inr (by omega)
 rcases key n with h | h
 ·exact h
 ·exact fun j k _ hk _ _ => many_all h k hk
theorem reach_is (r : Rws) (n i k : Nat) (hi : i < n) (hk : k < n) : rnds (hs r) n (hs r i) n k = hs (clo r n) i k := by
 rw [Bool.eq_iff_iff]
 constructor
 ·intro h
  have := rnds_sound (hs r) n (hs r i) (fun k => if k < n then hs (clo r n) i k else true) n (fun k h => by
   split
   ·exact clo_has r n i k hi h
   ·rfl) (fun j k hj h3 h4 => by
   simp only [hj, if_true] at h3 ⊢
   split
   ·next hkn => exact clo_tr r n i j k hi hj hkn h3 (clo_has r n j k hj h4)
   ·rfl) k h
  simpa only [hk, if_true] using this
 ·intro h
  have hc := rnds_closed (hs r) n (hs r i)
  have := clo_least r n (fun x y => !(decide (x = i) || rnds (hs r) n (hs r i) n x) || rnds (hs r) n (hs r i) n y) (fun a b c ha hb hcn h1 h2 => by
   simp only [Bool.or_eq_true, Bool.not_eq_true', Bool.or_eq_false_iff, decide_eq_false_iff_not] at h1 h2 ⊢
   rcases h1 with h1 | h1
   ·exact .inl h1
   ·rcases h2 with h2 | h2
    ·rw [h2.2] at h1; cases h1
    ·exact .inr h2) (fun a b ha hb h1 => by
   simp only [Bool.or_eq_true, Bool.not_eq_true', Bool.or_eq_false_iff, decide_eq_false_iff_not]
   by_cases e : a = i
   ·subst e; exact .inr (rnds_mono _ _ _ _ _ h1)
   ·cases h2 : rnds (hs r) n (hs r i) n a
    ·exact .inl ⟨e, rfl⟩
    ·exact .inr (hc a b ha hb h2 h1)) i k hi hk h
  simpa using this
end Mx
end Go.Proofs.YtblfimobiibmjaaGreat
namespace Go.Proofs.YtblfimobiibmjaaGreat
namespace Ax
open En Gu Eg Mx
def Rel (l : List Ev) (r : Rws) : Prop := ∀ i k, i < l.length → k < l.length → (hs r i k = true ↔ ∃ x, isD l x ∧ x.f = i ∧ x.t = k)
def live (l : List Ev) (i : Nat) : Bool := match l[i]? with
 | some e => decide (e.k ≠ 13)
 | none => false
def gof (l : List Ev) (i : Nat) : Int := match l[i]? with
 | some e => e.g
 | none => -1
theorem live_at {l : List Ev} {i : Nat} {e : Ev} (h : l[i]? = some e) : live l i = true ↔ e.k ≠ 13 := by simp [live, h]
theorem gof_at {l : List Ev} {i : Nat} {e : Ev} (h : l[i]? = some e) : gof l i = e.g := by simp [gof, h]
theorem get_lt {l : List Ev} {i : Nat} (h : i < l.length) : ∃ e, l[i]? = some e := ⟨_, List.getElem?_eq_getElem h⟩
theorem lt_get {l : List Ev} {i : Nat} {e : Ev} (h : l[i]? = some e) : i < l.length := (List.getElem?_eq_some_iff.1 h).1
theorem tells_live {e : Ev} (h : tells e) : e.k ≠ 13 := by unfold tells at h; omega
theorem done_live {l : List Ev} (h : Tok l) {c : Int} {b : Bool} {n j : Nat} (hj : j ∈ done l c b n) : live l j = true := by
 unfold done at hj
 rw [List.mem_flatMap] at hj
 obtain ⟨i, -, hi⟩ := hj
 have hi' := hi
 obtain ⟨⟨x, hx, -⟩, z⟩ := one_at h hi
 rw [live_at hx]
 rcases z with z | ⟨-, y, hy, k⟩
 ·subst z
  unfold one at hi'
  rw [hx] at hi'
  simp only at hi'
  split at hi'
  ·simp at hi'
  ·rename_i h1
   have hm : moves x = true := by
    cases q : moves x
    ·exact absurd (.inr q) h1
    ·rfl
   unfold moves at hm
   simp at hm
   omega
 ·rw [hx] at hy
  cases hy
  omega
theorem mem_of_get {α : Type} {l : List α} {k : Nat} {x : α} (h : l[k]? = some x) : x ∈ l := List.mem_of_getElem? h
theorem isD_live {l : List Ev} (h : Tok l) {x : Ed} (hx : isD l x) : live l x.f = true ∧ live l x.t = true := by
 rcases hx with ⟨-, b, hb, hk, -, ⟨e, he, hek, -⟩, -⟩ | ⟨-, b, hb, hk, -, ⟨e, he, hek, -⟩, -⟩ | ⟨-, -, b, hb, hn, e, he, hek, -⟩ | ⟨b, hb, hc, k, q, hq, z⟩
 ·exact ⟨(live_at he).2 hek, (live_at hb).2 hk⟩
 ·exact ⟨(live_at he).2 (by omega), (live_at hb).2 hk⟩
 ·exact ⟨(live_at he).2 (by omega), (live_at hb).2 (by have := hn.1; omega)⟩
 ·rcases z with ⟨-, p, hp, rfl⟩ | ⟨p, hp, rfl⟩
  ·obtain ⟨e, he, ht⟩ := bg_tells h (mem_of_get hp)
   exact ⟨(live_at he).2 (tells_live ht), done_live h (mem_of_get hq)⟩
  ·obtain ⟨e, he, ht⟩ := bg_tells h (mem_of_get hq)
   exact ⟨(live_at he).2 (tells_live ht), done_live h (mem_of_get hp)⟩
section
variable {l : List Ev} {r : Rws}
theorem Rel.edge (R : Rel l r) (h : Tok l) {x : Ed} (hx : isD l x) : hs (clo r l.length) x.f x.t = true := by
 obtain ⟨h1, h2⟩ := isD_fwd h hx
 exact clo_has _ _ _ _ (by omega) ((R _ _ (by omega) h2).2 ⟨x, hx, rfl, rfl⟩)
theorem Rel.least (R : Rel l r) (g : Nat → Nat → Bool) (hg : Tr l.length g) (he : ∀ x, isD l x → g x.f x.t = true) {i k : Nat} (hi : i < l.length) (hk : k < l.length) (h : hs (clo r l.length) i k = true) : g i k = true :=
 clo_least r _ g hg (fun i k hi hk q => by
  obtain ⟨x, hx, rfl, rfl⟩ := (R i k hi hk).1 q
  exact he x hx) i k hi hk h
theorem Rel.fwd (R : Rel l r) (h : Tok l) {i k : Nat} (hi : i < l.length) (hk : k < l.length) (q : hs (clo r l.length) i k = true) : i < k := by
 have := R.least (fun i k => decide (i < k)) (fun i j k _ _ _ h1 h2 => by simp at *; omega) (fun x hx => by simpa using (isD_fwd h hx).1) hi hk q
 simpa using this
theorem Rel.live (R : Rel l r) (h : Tok l) {i k : Nat} (hi : i < l.length) (hk : k < l.length) (q : hs (clo r l.length) i k = true) : Ax.live l i = true ∧ Ax.live l k = true := by
 have := R.least (fun i k => Ax.live l i && Ax.live l k) (fun i j k _ _ _ h1 h2 => by simp only [Bool.and_eq_true] at *; exact ⟨h1.1, h2.2⟩) (fun x hx => by simp [(isD_live h hx).1, (isD_live h hx).2]) hi hk q
 simpa using this
theorem Rel.tr (i j k : Nat) (hi : i < l.length) (hj : j < l.length) (hk : k < l.length) (h1 : hs (clo r l.length) i j = true) (h2 : hs (clo r l.length) j k = true) : hs (clo r l.length) i k = true := clo_tr r _ i j k hi hj hk h1 h2
theorem Rel.own (R : Rel l r) (h : Tok l) : ∀ (d : Nat) {i k : Nat}, k = i + 1 + d → k < l.length → Ax.live l i = true → Ax.live l k = true → gof l i = gof l k → hs (clo r l.length) i k = true := by
 intro d
 induction d using Nat.strongRecOn with
 | ind d ih =>
   intro i k hd hk h1 h2 hg
   obtain ⟨a, ha⟩ := get_lt (l := l) (i := i) (by omega)
   obtain ⟨b, hb⟩ := get_lt hk
   rw [live_at ha] at h1
   rw [live_at hb] at h2
   rw [gof_at ha, gof_at hb] at hg
   by_cases q : btw l i k b.g
   ·obtain ⟨m, e, m1, m2, he, hg2, hk2⟩ := q
    exact Rel.tr i m k (by omega) (by omega) hk (ih (m - i - 1) (by omega) (by omega) (by omega) ((live_at ha).2 h1) ((live_at he).2 hk2) (by rw [gof_at ha, gof_at he]; omega)) (ih (k - m - 1) (by omega) (by omega) hk ((live_at he).2 hk2) ((live_at hb).2 h2) (by rw [gof_at hb, gof_at he]; omega))
   ·exact R.edge h (x := ⟨i, k, 1⟩) (.inl ⟨rfl, b, hb, h2, show i < k by omega, ⟨a, ha, h1, hg⟩, q⟩)
theorem Rel.own' (R : Rel l r) (h : Tok l) {i k : Nat} (hik : i < k) (hk : k < l.length) (h1 : Ax.live l i = true) (h2 : Ax.live l k = true) (hg : gof l i = gof l k) : hs (clo r l.length) i k = true :=
 R.own h (k - i - 1) (by omega) hk h1 h2 hg
end
def tl (e : Ev) : Bool := decide (e.k = 1) || (decide (3 ≤ e.k) && decide (e.k ≤ 6))
theorem tl_iff (e : Ev) : tl e = true ↔ tells e := by unfold tl tells; simp; omega
def num (l : List Ev) (i : Nat) (g : Int) : Nat := 1 + (l.take i).countP fun x => decide (x.g = g) && tl x
theorem num_succ {l : List Ev} {i : Nat} {e : Ev} (h : l[i]? = some e) (g : Int) : num l (i + 1) g = num l i g + if e.g = g ∧ tl e = true then 1 else 0 := by
 unfold num
 rw [take_succ h, List.countP_append]
 simp only [List.countP_cons, List.countP_nil, Bool.and_eq_true, decide_eq_true_eq]
 omega
theorem num_end {l : List Ev} {i : Nat} (h : l.length ≤ i) (g : Int) : num l (i + 1) g = num l i g := by
 unfold num
 rw [List.take_of_length_le h, List.take_of_length_le (by omega)]
theorem num_mono (l : List Ev) (g : Int) {i j : Nat} (h : i ≤ j) : num l i g ≤ num l j g := by
 induction j with
 | zero => rw [show i = 0 by omega]; exact Nat.le_refl _
 | succ j ih =>
   by_cases e : i = j + 1
   ·rw [e]; exact Nat.le_refl _
   ·refine Nat.le_trans (ih (by omega)) ?_
    by_cases q : j < l.length
    ·obtain ⟨x, hx⟩ := get_lt q
     rw [num_succ hx]; omega
    ·rw [num_end (by omega)]; exact Nat.le_refl _
theorem num_lt {l : List Ev} {k a : Nat} {e : Ev} (h : k < a) (he : l[k]? = some e) (ht : tells e) : num l k e.g < num l a e.g := by
 refine Nat.lt_of_lt_of_le ?_ (num_mono l e.g (show k + 1 ≤ a by omega))
 rw [num_succ he, if_pos ⟨rfl, (tl_iff e).2 ht⟩]; omega
def mostF (A : Nat → Nat → Bool) (l : List Ev) (i : Nat) (g : Int) : Nat → Nat
 | 0 => 0
 | m + 1 => if gof l m = g ∧ A m i = true then max (mostF A l i g m) (num l m g) else mostF A l i g m
def knF (A : Nat → Nat → Bool) (l : List Ev) (i : Nat) (g : Int) : Nat := if gof l i = g then num l i g else mostF A l i g l.length
theorem most_ge {A : Nat → Nat → Bool} {l : List Ev} {i : Nat} {g : Int} {m k : Nat} (h : k < m) (hg : gof l k = g) (hA : A k i = true) : num l k g ≤ mostF A l i g m := by
 induction m with
 | zero => omega
 | succ m ih =>
   simp only [mostF]
   by_cases e : k = m
   ·subst e
    rw [if_pos ⟨hg, hA⟩]; omega
   ·have := ih (by omega)
    split <;> omega
theorem most_at {A : Nat → Nat → Bool} {l : List Ev} {i : Nat} {g : Int} {m : Nat} (h : 0 < mostF A l i g m) : ∃ k, k < m ∧ gof l k = g ∧ A k i = true ∧ mostF A l i g m = num l k g := by
 induction m with
 | zero => simp [mostF] at h
 | succ m ih =>
   simp only [mostF] at h ⊢
   split at h
   ·rename_i q
    rw [if_pos q]
    by_cases e : mostF A l i g m ≤ num l m g
    ·exact ⟨m, by omega, q.1, q.2, by omega⟩
    ·obtain ⟨k, k1, k2, k3, k4⟩ := ih (by omega)
     exact ⟨k, by omega, k2, k3, by omega⟩
   ·rename_i q
    rw [if_neg q]
    obtain ⟨k, k1, k2, k3, k4⟩ := ih h
    exact ⟨k, by omega, k2, k3, k4⟩
theorem most_congr {A B : Nat → Nat → Bool} {l : List Ev} {i : Nat} {g : Int} {m : Nat} (h : ∀ k, k < m → A k i = B k i) : mostF A l i g m = mostF B l i g m := by
 induction m with
 | zero => rfl
 | succ m ih => simp only [mostF]; rw [ih fun k hk => h k (by omega), h m (by omega)]
theorem Rel.leave {l : List Ev} {r : Rws} (R : Rel l r) (h : Tok l) {i k : Nat} (hi : i < l.length) (hk : k < l.length) (q : hs (clo r l.length) i k = true) (hg : gof l i ≠ gof l k) :
 ∃ (m : Nat) (e : Ev), i ≤ m ∧ m < l.length ∧ l[m]? = some e ∧ tells e ∧ e.g = gof l i ∧ hs (clo r l.length) m k = true := by
 classical
 have := R.least (fun i k => decide (hs (clo r l.length) i k = true ∧ (gof l i = gof l k ∨ ∃ (m : Nat) (e : Ev), i ≤ m ∧ m < l.length ∧ l[m]? = some e ∧ tells e ∧ e.g = gof l i ∧ hs (clo r l.length) m k = true))) (fun a b c ha hb hc h1 h2 => by
  simp only [decide_eq_true_eq] at *
  obtain ⟨h1, z1⟩ := h1
  obtain ⟨h2, z2⟩ := h2
  refine ⟨Rel.tr a b c ha hb hc h1 h2, ?_⟩
  rcases z1 with z1 | ⟨m, e, m1, m2, m3, m4, m5, m6⟩
  ·rcases z2 with z2 | ⟨m, e, m1, m2, m3, m4, m5, m6⟩
   ·exact .inl (z1.trans z2)
   ·exact .inr ⟨m, e, by have := R.fwd h ha hb h1; omega, m2, m3, m4, by rw [m5, z1], m6⟩
  ·exact .inr ⟨m, e, m1, m2, m3, m4, m5, Rel.tr m b c m2 hb hc m6 h2⟩) (fun x hx => by
  simp only [decide_eq_true_eq]
  refine ⟨R.edge h hx, ?_⟩
  by_cases r1 : x.r = 1
  ·left
   rcases hx with ⟨-, b, hb, hk, -, ⟨e, he, -, hg⟩, -⟩ | ⟨r2, -⟩ | ⟨r2, -⟩ | ⟨b, hb, -, hc⟩
   ·rw [gof_at he, gof_at hb, hg]
   ·omega
   ·omega
   ·have := isC_r hc; omega
  ·right
   obtain ⟨e, he, ht⟩ := isD_tells h hx r1
   exact ⟨x.f, e, Nat.le_refl _, lt_get he, he, ht, (gof_at he).symm, R.edge h hx⟩) hi hk q
 simp only [decide_eq_true_eq] at this
 rcases this.2 with z | z
 ·exact absurd z hg
 ·exact z
theorem Rel.told {l : List Ev} {r : Rws} (R : Rel l r) (h : Tok l) {a b : Nat} (ha : a < l.length) (hb : b < l.length) (la : Ax.live l a = true) (hg : gof l a ≠ gof l b) :
 hs (clo r l.length) a b = decide (num l a (gof l a) ≤ knF (hs (clo r l.length)) l b (gof l a)) := by
 rw [Bool.eq_iff_iff, decide_eq_true_iff, knF, if_neg (fun e => hg e.symm)]
 constructor
 ·exact fun q => most_ge ha rfl q
 ·intro q
  obtain ⟨k, k1, k2, k3, k4⟩ := most_at (show 0 < mostF (hs (clo r l.length)) l b (gof l a) l.length by unfold num at q; omega)
  rw [k4] at q
  have lk := (R.live h k1 hb k3).1
  rcases Nat.lt_trichotomy a k with e | e | e
  ·exact Rel.tr a k b ha k1 hb (R.own' h e k1 la lk k2.symm) k3
  ·rw [e]; exact k3
  ·obtain ⟨m, x, m1, m2, m3, m4, m5, m6⟩ := R.leave h k1 hb k3 (by rw [k2]; exact hg)
   rcases Nat.lt_trichotomy a m with z | z | z
   ·exact Rel.tr a m b ha m2 hb (R.own' h z m2 la ((live_at m3).2 (tells_live m4)) (by rw [gof_at m3, m5, k2])) m6
   ·rw [z]; exact m6
   ·have := num_lt z m3 m4
    rw [m5, k2] at this
    have := num_mono l (gof l a) m1
    omega
end Ax
end Go.Proofs.YtblfimobiibmjaaGreat
namespace Go.Proofs.YtblfimobiibmjaaGreat
namespace Ax
open En Gu Eg Mx
def NoS (l : List Ev) (n : Nat) : Prop := ∀ m e, n = m + 1 → l[m]? = some e → moves e = true → e.m < 0
theorem done_end {l : List Ev} {n : Nat} (hn : n ≤ l.length) (s : NoS l n) (c : Int) (b : Bool) : done (l.take n) c b n = done l c b n := by
 cases n with
 | zero => rfl
 | succ m =>
   rw [done_succ, done_succ, done_take1 c b hn (Nat.lt_succ_self m)]
   congr 1
   unfold one
   rw [take_get (Nat.lt_succ_self m)]
   obtain ⟨e, he⟩ := get_lt (l := l) (i := m) (by omega)
   rw [he]
   simp only
   split
   ·rfl
   ·rename_i h1
    have hm : moves e = true := by
     cases q : moves e
     ·exact absurd (.inr q) h1
     ·rfl
    have := s m e rfl he hm
    rw [if_neg (show ¬ (0 ≤ e.m ∧ m + 1 < (l.take (m + 1)).length) by omega), if_neg (show ¬ (0 ≤ e.m ∧ m + 1 < l.length) by omega)]
theorem one_ge {l : List Ev} {c : Int} {b : Bool} {i j : Nat} (hj : j ∈ one l c b i) : i ≤ j := by
 unfold one at hj
 split at hj
 ·simp at hj
 ·split at hj
  ·simp at hj
  ·split at hj
   ·simp at hj; omega
   ·split at hj <;> simp at hj
    omega
theorem done_more {l : List Ev} (c : Int) (b : Bool) (n : Nat) : ∀ m, ∃ r, done l c b (n + m) = done l c b n ++ r ∧ ∀ j ∈ r, n ≤ j
 | 0 => ⟨[], by simp, by simp⟩
 | m + 1 => by
   obtain ⟨r, h, hr⟩ := done_more c b n m
   refine ⟨r ++ one l c b (n + m), by rw [← Nat.add_assoc, done_succ, h, List.append_assoc], fun j hj => ?_⟩
   rcases List.mem_append.1 hj with q | q
   ·exact hr j q
   ·have := one_ge q; omega
theorem back_get {l : List Ev} {n k p : Nat} {c : Int} {b : Bool} (hn : n ≤ l.length) (h : (done l c b l.length)[k]? = some p) (hp : p < n) : (done l c b n)[k]? = some p := by
 obtain ⟨r, h1, h2⟩ := done_more (l := l) c b n (l.length - n)
 rw [show n + (l.length - n) = l.length by omega] at h1
 rw [h1] at h
 rcases Nat.lt_or_ge k (done l c b n).length with q | q
 ·rwa [List.getElem?_append_left q] at h
 ·rw [List.getElem?_append_right q] at h
  have := h2 p (List.mem_of_getElem? h)
  omega
theorem done_pre {l : List Ev} {n k : Nat} {c : Int} {b : Bool} (hn : n ≤ l.length) (hk : k < (done l c b n).length) : (done l c b l.length)[k]? = (done l c b n)[k]? := by
 obtain ⟨r, h1, -⟩ := done_more (l := l) c b n (l.length - n)
 rw [show n + (l.length - n) = l.length by omega] at h1
 rw [h1, List.getElem?_append_left hk]
theorem isD_back {l : List Ev} (h : Tok l) {n : Nat} (hn : n ≤ l.length) (s : NoS l n) {x : Ed} (hx : isD l x) (ht : x.t < n) : isD (l.take n) x := by
 by_cases hl : n = l.length
 ·rw [hl, List.take_length]; exact hx
 have hl' : (l.take n).length = n := by rw [List.length_take]; omega
 have hf := isD_fwd h hx
 rcases hx with ⟨r, b, hb, h13, q1, ⟨e, e1, e2⟩, q3⟩ | ⟨r, b, hb, h13, q1, ⟨e, e1, e2⟩, q3⟩ | ⟨r, q1, b, hb, hk, e, e1, e2⟩ | ⟨b, hb, h0, k, q, hq, z⟩
 ·exact .inl ⟨r, b, by rw [take_get ht]; exact hb, h13, q1, ⟨e, by rw [take_get (by omega)]; exact e1, e2⟩, fun w => q3 ((btw_take (by omega)).1 w)⟩
 ·exact .inr (.inl ⟨r, b, by rw [take_get ht]; exact hb, h13, q1, ⟨e, by rw [take_get (by omega)]; exact e1, e2⟩, fun w => q3 ((btw_take (by omega)).1 w)⟩)
 ·exact .inr (.inr (.inl ⟨r, q1, b, by rw [take_get ht]; exact hb, hk, e, by rw [take_get (by omega)]; exact e1, e2⟩))
 ·have J := h.jc b.c n hn
  have J1 := J.cnt (by omega)
  have J2 := J.bnd
  have dt := done_end hn s b.c true
  have df := done_end hn s b.c false
  refine .inr (.inr (.inr ⟨b, by rw [take_get ht]; exact hb, h0, k, q, ?_⟩))
  rw [hl', dt, df]
  rcases z with ⟨r, p, hp, rfl⟩ | ⟨p, hp, rfl⟩
  ·have hq' := back_get hn hq ht
   have hkl := (List.getElem?_eq_some_iff.1 hq').1
   rw [done_pre hn (by omega)] at hp
   have pn : p < n := by
    have := hp
    rw [← dt] at this
    obtain ⟨⟨y, hy, -⟩, -⟩ := done_lt (h.take n) _ _ (List.mem_of_getElem? this)
    exact (take_some hy).1
   exact ⟨hq', .inl ⟨r, p, hp, by rw [bg_take pn]⟩⟩
  ·have hp' := back_get hn hp ht
   have hkl := (List.getElem?_eq_some_iff.1 hp').1
   have hp2 := hp'
   rw [← dt] at hp2
   have mk := (done_made (h.take n) (List.mem_of_getElem? hp2)).2
   have sc := size_const h (n := n) (c := b.c) mk (l.length - n) (by omega)
   rw [show n + (l.length - n) = l.length by omega] at sc
   have ss : szF l b.c = (inn l n b.c).size.toNat := by unfold szF; rw [sc]
   have st : szF (l.take n) b.c = szF l b.c := sz_take h (j := p) (b := true) (by rw [hl']; exact List.mem_of_getElem? hp2)
   rw [done_pre hn (by omega)] at hq
   have qn : q < n := by
    have := hq
    rw [← df] at this
    obtain ⟨⟨y, hy, -⟩, -⟩ := done_lt (h.take n) _ _ (List.mem_of_getElem? this)
    exact (take_some hy).1
   exact ⟨hq, .inr ⟨p, by rw [st]; exact hp', by rw [bg_take qn, st]⟩⟩
theorem Rel.grows {l : List Ev} {r r2 : Rws} (R : Rel l r) (h : Tok l) {n : Nat} (hn : n ≤ l.length) (s : NoS l n) (R2 : Rel (l.take n) r2) {i k : Nat} (hi : i < n) (hk : k < n) : hs (clo r l.length) i k = hs (clo r2 n) i k := by
 have hl' : (l.take n).length = n := by rw [List.length_take]; omega
 rw [Bool.eq_iff_iff]
 constructor
 ·intro q
  have := R.least (fun i k => hs (clo r l.length) i k && (!decide (k < n) || hs (clo r2 n) i k)) (fun a b c ha hb hc h1 h2 => by
   simp only [Bool.and_eq_true, Bool.or_eq_true, Bool.not_eq_true', decide_eq_false_iff_not] at *
   refine ⟨Rel.tr a b c ha hb hc h1.1 h2.1, ?_⟩
   by_cases e : c < n
   ·right
    have ab := R.fwd h ha hb h1.1
    have bc := R.fwd h hb hc h2.1
    have z1 := h1.2.resolve_left (by omega)
    have z2 := h2.2.resolve_left (by omega)
    exact clo_tr r2 n a b c (by omega) (by omega) e z1 z2
   ·exact .inl e) (fun x hx => by
   simp only [Bool.and_eq_true, Bool.or_eq_true, Bool.not_eq_true', decide_eq_false_iff_not]
   refine ⟨R.edge h hx, ?_⟩
   by_cases e : x.t < n
   ·have := R2.edge (h.take n) (isD_back h hn s hx e)
    rw [hl'] at this
    exact .inr this
   ·exact .inl e) (by omega) (by omega) q
  simp only [Bool.and_eq_true, Bool.or_eq_true, Bool.not_eq_true', decide_eq_false_iff_not] at this
  exact this.2.resolve_left (by omega)
 ·intro q
  have := R2.least (fun i k => hs (clo r l.length) i k) (fun a b c ha hb hc h1 h2 => Rel.tr a b c (by omega) (by omega) (by omega) h1 h2) (fun x hx => R.edge h (isD_take h hn hx)) (i := i) (k := k) (by omega) (by omega) (by rw [hl']; exact q)
  exact this
def acc (e : Ev) (cell : Int) : Bool := (decide (e.k = 9) || decide (e.k = 10)) && decide (e.v = cell)
def raceF (A : Nat → Nat → Bool) (l : List Ev) (a b : Nat) : Bool := match l[a]?, l[b]? with
 | some x, some y => (decide (x.k = 10) || decide (y.k = 10)) && decide (x.g ≠ y.g) && !A a b && !A b a
 | _, _ => false
def hitF (A : Nat → Nat → Bool) (l : List Ev) (cell : Int) (b m : Nat) : Bool := (List.range m).any fun a => (match l[a]? with
 | some x => acc x cell
 | none => false) && raceF A l a b
def atF (A : Nat → Nat → Bool) (l : List Ev) (cell : Int) (b : Nat) : Bool := (match l[b]? with
 | some y => acc y cell
 | none => false) && hitF A l cell b b
def firF (A : Nat → Nat → Bool) (l : List Ev) (cell : Int) (m : Nat) : Option Nat := (List.range m).find? (atF A l cell)
theorem range_succ_find (p : Nat → Bool) (m : Nat) : (List.range (m + 1)).find? p = ((List.range m).find? p).or (if p m then some m else none) := by
 rw [List.range_succ, List.find?_append]
 simp only [List.find?_cons, List.find?_nil]
 cases p m <;> rfl
theorem fir_succ (A : Nat → Nat → Bool) (l : List Ev) (cell : Int) (m : Nat) : firF A l cell (m + 1) = (firF A l cell m).or (if atF A l cell m then some m else none) := range_succ_find _ m
theorem hit_succ (A : Nat → Nat → Bool) (l : List Ev) (cell : Int) (b m : Nat) : hitF A l cell b (m + 1) = (hitF A l cell b m || ((match l[m]? with
 | some x => acc x cell
 | none => false) && raceF A l m b)) := by
 unfold hitF
 rw [List.range_succ, List.any_append]
 simp
theorem at_congr {A B : Nat → Nat → Bool} {l m : List Ev} {cell : Int} {b : Nat} (h : ∀ i k, i ≤ b → k ≤ b → A i k = B i k) (hl : ∀ i, i ≤ b → l[i]? = m[i]?) : atF A l cell b = atF B m cell b := by
 unfold atF hitF
 rw [hl b (Nat.le_refl _)]
 congr 1
 rw [Bool.eq_iff_iff, List.any_eq_true, List.any_eq_true]
 have key : ∀ a ∈ List.range b, ((match l[a]? with | some x => acc x cell | none => false) && raceF A l a b) = ((match m[a]? with | some x => acc x cell | none => false) && raceF B m a b) := by
  intro a ha
  rw [List.mem_range] at ha
  unfold raceF
  rw [hl a (by omega), hl b (Nat.le_refl _), h a b (by omega) (Nat.le_refl _), h b a (Nat.le_refl _) (by omega)]
 constructor
 ·rintro ⟨a, ha, q⟩; exact ⟨a, ha, by rw [← key a ha]; exact q⟩
 ·rintro ⟨a, ha, q⟩; exact ⟨a, ha, by rw [key a ha]; exact q⟩
theorem fir_at {A : Nat → Nat → Bool} {l : List Ev} {cell : Int} {m a : Nat} (h : firF A l cell m = some a) : a < m ∧ atF A l cell a = true := by
 unfold firF at h
 exact ⟨List.mem_range.1 (List.mem_of_find?_eq_some h), List.find?_some h⟩
theorem fir_grows {A B : Nat → Nat → Bool} {l : List Ev} {cell : Int} {n : Nat} (hn : n ≤ l.length) (h : ∀ i k, i < n → k < n → A i k = B i k) :
 firF B (l.take n) cell n = match firF A l cell l.length with
  | some a => if a < n then some a else none
  | none => none := by
 have e : ∀ m, m ≤ n → firF B (l.take n) cell m = firF A l cell m := by
  intro m hm
  induction m with
  | zero => rfl
  | succ m ih =>
    rw [fir_succ, fir_succ, ih (by omega), at_congr (B := A) (m := l) (fun i k hi hk => (h i k (by omega) (by omega)).symm) (fun i hi => take_get (by omega))]
 rw [e n (Nat.le_refl _)]
 have g : ∀ d, firF A l cell n = match firF A l cell (n + d) with
  | some a => if a < n then some a else none
  | none => none := by
  intro d
  induction d with
  | zero =>
    cases q : firF A l cell n with
    | none => simp
    | some a => simp [(fir_at q).1]
  | succ d ih =>
    rw [ih, ← Nat.add_assoc, fir_succ]
    cases q : firF A l cell (n + d) with
    | some a => simp
    | none =>
      simp only [Option.none_or]
      cases atF A l cell (n + d) <;> simp
 have := g (l.length - n)
 rwa [show n + (l.length - n) = l.length by omega] at this
end Ax
end Go.Proofs.YtblfimobiibmjaaGreat
namespace Go.Proofs.YtblfimobiibmjaaGreat
namespace Ax
open En Gu Eg Mx
def latF (l : List Ev) (g : Int) : Nat → Option Nat
 | 0 => none
 | n + 1 => match l[n]? with
   | some e => if (e.k ≠ 13 ∧ e.g = g) ∨ (e.k = 1 ∧ e.m = g) then some n else latF l g n
   | none => latF l g n
def exF (l : List Ev) (g : Int) : Nat → Bool
 | 0 => false
 | n + 1 => match l[n]? with
   | some e => if e.k ≠ 13 ∧ e.g = g then decide (e.k = 11) else exF l g n
   | none => exF l g n
theorem lat_succ {l : List Ev} {n : Nat} {e : Ev} (h : l[n]? = some e) (g : Int) : latF l g (n + 1) = if (e.k ≠ 13 ∧ e.g = g) ∨ (e.k = 1 ∧ e.m = g) then some n else latF l g n := by simp only [latF, h]
theorem ex_succ {l : List Ev} {n : Nat} {e : Ev} (h : l[n]? = some e) (g : Int) : exF l g (n + 1) = if e.k ≠ 13 ∧ e.g = g then decide (e.k = 11) else exF l g n := by simp only [exF, h]
theorem lat_lt {l : List Ev} {g : Int} : ∀ {n p : Nat}, latF l g n = some p → p < n ∧ ∃ e, l[p]? = some e ∧ ((e.k ≠ 13 ∧ e.g = g) ∨ (e.k = 1 ∧ e.m = g))
 | 0, p, h => by cases h
 | n + 1, p, h => by
   simp only [latF] at h
   cases q : l[n]? with
   | none =>
     rw [q] at h
     obtain ⟨h1, h2⟩ := lat_lt h
     exact ⟨by omega, h2⟩
   | some e =>
     rw [q] at h
     simp only at h
     split at h
     ·rename_i z
      cases h
      exact ⟨by omega, e, q, z⟩
     ·obtain ⟨h1, h2⟩ := lat_lt h
      exact ⟨by omega, h2⟩
theorem lat_there {l : List Ev} (h : Tok l) {g : Int} : ∀ {n p : Nat}, n ≤ l.length → latF l g n = some p → g < there (l.take n)
 | 0, p, _, q => by cases q
 | n + 1, p, hn, q => by
   obtain ⟨e, he⟩ := get_lt (l := l) (i := n) (by omega)
   rw [lat_succ he] at q
   rw [there_take he]
   split at q
   ·rename_i z
    rcases z with ⟨k, rfl⟩ | ⟨k, rfl⟩
    ·have := h.cw.lt he k; split <;> omega
    ·have := h.cw.m he k; rw [if_pos k]; omega
   ·have := lat_there h (by omega) q; split <;> omega
theorem ex_there {l : List Ev} (h : Tok l) {g : Int} : ∀ {n : Nat}, n ≤ l.length → exF l g n = true → g < there (l.take n)
 | 0, _, q => by cases q
 | n + 1, hn, q => by
   obtain ⟨e, he⟩ := get_lt (l := l) (i := n) (by omega)
   rw [ex_succ he] at q
   rw [there_take he]
   split at q
   ·rename_i z
    have := h.cw.lt he z.1; rw [← z.2]; split <;> omega
   ·have := ex_there h (by omega) q; split <;> omega
theorem lat_zero {l : List Ev} (h : Tok l) : ∀ {n : Nat}, n ≤ l.length → latF l 0 n = none → there (l.take n) = 1 ∧ ∀ g, exF l g n = false
 | 0, _, _ => ⟨rfl, fun _ => rfl⟩
 | n + 1, hn, q => by
   obtain ⟨e, he⟩ := get_lt (l := l) (i := n) (by omega)
   rw [lat_succ he] at q
   split at q
   ·cases q
   ·rename_i z
    obtain ⟨t1, t2⟩ := lat_zero h (by omega) q
    by_cases k : e.k = 13
    ·exact ⟨by rw [there_take he, t1]; simp [k], fun g => by rw [ex_succ he, if_neg (by simp [k])]; exact t2 g⟩
    ·have a := h.cw.lt he k
     have b := (h.at he).fit.g k
     exact absurd (.inl ⟨k, by omega⟩) z
theorem lat_some {l : List Ev} (h : Tok l) {g : Int} (h0 : 0 < g) : ∀ {n : Nat}, n ≤ l.length → g < there (l.take n) → ∃ p, latF l g n = some p
 | 0, _, q => by have : there (l.take 0) = 1 := rfl; omega
 | n + 1, hn, q => by
   obtain ⟨e, he⟩ := get_lt (l := l) (i := n) (by omega)
   rw [lat_succ he]
   split
   ·exact ⟨n, rfl⟩
   ·rename_i z
    rw [there_take he] at q
    refine lat_some h h0 (by omega) ?_
    by_cases k : e.k = 1
    ·rw [if_pos k] at q
     have := h.cw.m he k
     have : e.m ≠ g := fun w => z (.inr ⟨k, w⟩)
     omega
    ·rw [if_neg k] at q; omega
theorem pan_take {l : List Ev} {i j : Nat} (h : i ≤ j) (q : panF (l.take j) = false) : panF (l.take i) = false := by
 unfold panF at *
 rw [List.any_eq_false] at *
 intro x hx
 refine q x ?_
 rw [show l.take i = (l.take j).take i by rw [List.take_take, Nat.min_eq_left h]] at hx
 exact List.mem_of_mem_take hx
theorem lat_park {l : List Ev} (h : Tok l) {g : Int} : ∀ {n : Nat}, n ≤ l.length → panF (l.take n) = false → waitsF g (l.take n) = true → latF l g n = pkF l g n ∧ g < there (l.take n)
 | 0, _, _, q => by cases q
 | n + 1, hn, hp, q => by
   obtain ⟨e, he⟩ := get_lt (l := l) (i := n) (by omega)
   have cw := (h.at he).cw
   have p0 : panF (l.take n) = false := pan_take (by omega) hp
   have k12 : e.k ≠ 12 := by
    rw [take_succ he, pan_app] at hp
    simp at hp
    exact hp.2
   rw [lat_succ he, there_take he]
   have pk : pkF l g (n + 1) = if e.k = 6 ∧ e.g = g then some n else pkF l g n := by simp only [pkF, he]
   rw [pk]
   rw [take_succ he, waits_app] at q
   unfold wstep at q
   have lt : g < there (l.take n) → g < ((there (l.take n) + if e.k = 1 then 1 else 0 : Nat) : Int) := fun w => by split <;> omega
   have nm : g < there (l.take n) → ¬ (e.k = 1 ∧ e.m = g) := fun w z => by have := h.cw.m he z.1; omega
   by_cases eg : e.g = g
   ·rw [if_neg (by simp [eg])] at q
    by_cases k6 : e.k = 6
    ·have := h.cw.lt he (by omega)
     exact ⟨by rw [if_pos (.inl ⟨by omega, eg⟩), if_pos ⟨k6, eg⟩], lt (by omega)⟩
    ·rw [if_neg k6] at q
     by_cases k7 : e.k = 7
     ·rw [if_pos k7] at q; cases q
     ·rw [if_neg k7] at q
      by_cases k13 : e.k = 13
      ·obtain ⟨i1, i2⟩ := lat_park h (by omega) p0 q
       exact ⟨by rw [if_neg (by rintro (z | z); exact z.1 k13; omega), if_neg (by omega)]; exact i1, lt i2⟩
      ·exfalso
       unfold crew at cw
       rw [eg, q] at cw
       simp [k13, k12, k7] at cw
   ·rw [if_pos eg] at q
    obtain ⟨i1, i2⟩ := lat_park h (by omega) p0 q
    exact ⟨by rw [if_neg (by rintro (z | z); exact eg z.2; exact nm i2 z), if_neg (fun z => eg z.2)]; exact i1, lt i2⟩
theorem lat_bg {l : List Ev} (h : Tok l) {i : Nat} {e : Ev} (he : l[i]? = some e) (hk : e.k = 7) : latF l e.g i = some (bg l i) := by
 have w := h.waits he hk
 have cw := (h.at he).cw
 have p0 : panF (l.take i) = false := by
  unfold crew at cw
  simp at cw
  exact cw.1
 obtain ⟨p, x, e1, -, e3, -⟩ := bg_wake h he hk
 rw [(lat_park h (Nat.le_of_lt (lt_get he)) p0 w).1, e3, e1]
def cmp (l : List Ev) (c : Int) (b : Bool) (i : Nat) : Bool := match l[i]? with
 | some e => decide (e.c = c) && if b then decide (e.k = 3) || (decide (e.k = 7) && e.s) else !(decide (e.k = 3) || (decide (e.k = 7) && e.s)) && ((decide (e.k = 4) && e.o) || (decide (e.k = 7) && e.o))
 | none => false
def cmpL (l : List Ev) (c : Int) (b : Bool) (n : Nat) : List Nat := (List.range n).filter (cmp l c b)
theorem cmp_succ (l : List Ev) (c : Int) (b : Bool) (n : Nat) : cmpL l c b (n + 1) = cmpL l c b n ++ if cmp l c b n then [n] else [] := by
 unfold cmpL
 rw [List.range_succ, List.filter_append]
 congr 1
 simp only [List.filter_cons, List.filter_nil]
theorem Tok.server {l : List Ev} (h : Tok l) {i : Nat} {e : Ev} (he : l[i]? = some e) (hk : e.k = 7) (ho : e.o = true ∨ e.s = true) : ∃ j x, i = j + 1 ∧ l[j]? = some x ∧ serves x = true ∧ e.c = x.c ∧ e.s = !x.s ∧ e.o = true := by
 have sv := (h.at he).sv
 cases i with
 | zero =>
   unfold Gu.served wakeF at sv
   simp [hk] at sv
   rcases ho with q | q <;> simp [q] at sv
 | succ j =>
   obtain ⟨x, hx⟩ := get_lt (l := l) (i := j) (by have := lt_get he; omega)
   rw [take_succ hx, List.reverse_append] at sv
   simp only [List.reverse_cons, List.reverse_nil, List.nil_append, List.singleton_append, Gu.served] at sv
   by_cases q : serves x = true
   ·obtain ⟨-, -, -, z4, z5, z6⟩ := h.served hx q he
    exact ⟨j, x, rfl, hx, q, z4, z5, z6⟩
   ·rw [if_neg q] at sv
    unfold wakeF at sv
    rw [if_neg (by simp [hk])] at sv
    rcases ho with z | z <;> simp [z] at sv
structure Fc (e : Ev) : Prop where
 k : 1 ≤ e.k ∧ e.k ≤ 13
 g : e.k = 13 → e.g = -1 ∧ e.c = -1
 c1 : e.k = 1 ∨ 8 ≤ e.k → e.c = -1
 c7 : e.k = 7 → 0 ≤ e.c
 c6 : -1 ≤ e.c
 m4 : e.k = 4 → e.o = false → e.m = -1
 o3 : e.k = 3 → e.o = false
 g5 : e.g ≤ 511
theorem fc_of {e : Ev} (h : chk e = 0) : Fc e := by
 have hk : ¬ (e.k < 1 ∨ 13 < e.k) := fun q => by simp [chk, q] at h
 have hb : (ff e && okF e) = true := by
  apply Classical.byContradiction
  intro q
  simp [chk, hk, q] at h
 have hf : ff e = true := by revert hb; cases ff e <;> simp
 have ho : okF e = true := by revert hb; rw [hf]; simp
 have o0 := okF_at ho 0 (by decide)
 have o1 := okF_at ho 1 (by decide)
 have o4 := okF_at ho 4 (by decide)
 obtain ⟨k, g, c, a, v, m, s, o⟩ := e
 simp only at hk
 have hc : k = 1 ∨ k = 2 ∨ k = 3 ∨ k = 4 ∨ k = 5 ∨ k = 6 ∨ k = 7 ∨ k = 8 ∨ k = 9 ∨ k = 10 ∨ k = 11 ∨ k = 12 ∨ k = 13 := by omega
 clear h hk hb ho
 rcases hc with rfl | rfl | rfl | rfl | rfl | rfl | rfl | rfl | rfl | rfl | rfl | rfl | rfl <;>
  simp [okA, spn, fl, Ba.nth, inS, ml, mh, ff] at o0 o1 o4 hf <;>
  (try (by_cases ha : a = -1 <;> simp [ha] at o0 o1 o4)) <;>
  exact ⟨by simp, fun q => by simp at q ⊢ <;> omega, fun q => by simp at q ⊢ <;> omega, fun q => by simp at q ⊢ <;> omega, by simp; omega, fun q r => by simp at q r ⊢ <;> simp_all <;> omega, fun q => by simp at q ⊢ <;> simp_all, by simp; omega⟩
theorem Tok.fc {l : List Ev} (h : Tok l) {i : Nat} {e : Ev} (he : l[i]? = some e) : Fc e := by
 have q := h i e he
 unfold ruleD at q
 split at q
 ·omega
 ·exact fc_of (by omega)
theorem serves_moves {l : List Ev} (h : Tok l) {i : Nat} {e : Ev} (he : l[i]? = some e) (hs : serves e = true) : moves e = true := by
 unfold serves at hs
 unfold moves
 simp at hs ⊢
 rcases hs.1 with k | k
 ·exact .inl k
 ·right
  refine ⟨k, ?_⟩
  cases q : e.o
  ·have := (Tok.fc h he).m4 k q; omega
  ·rfl
theorem mem_done {l : List Ev} (h : Tok l) {c : Int} {b : Bool} {j : Nat} : j ∈ done l c b l.length ↔ j < l.length ∧ cmp l c b j = true := by
 constructor
 ·intro hj
  obtain ⟨⟨y, hy, hc⟩, -⟩ := done_lt h _ _ hj
  refine ⟨lt_get hy, ?_⟩
  unfold done at hj
  rw [List.mem_flatMap] at hj
  obtain ⟨i, -, hi⟩ := hj
  unfold one at hi
  split at hi
  ·simp at hi
  ·rename_i e he
   split at hi
   ·simp at hi
   ·rename_i h1
    have hm : moves e = true := by
     cases q : moves e
     ·exact absurd (.inr q) h1
     ·rfl
    have hec : e.c = c := Classical.byContradiction fun q => h1 (.inl q)
    have f := (h.at he).fit
    have fc := Tok.fc h he
    split at hi
    ·rename_i es
     obtain rfl : j = i := by simpa using hi
     unfold cmp
     rw [he]
     simp only
     unfold moves at hm
     simp at hm
     rcases hm with k | ⟨k, o⟩
     ·have := f.s3 k
      rw [this] at es
      simp [hec, ← es, k]
     ·have := f.s4 k
      rw [this] at es
      simp [hec, ← es, k, o]
    ·rename_i es
     split at hi
     ·rename_i z
      obtain rfl : j = i + 1 := by simpa using hi
      have sv : serves e = true := by
       unfold serves
       unfold moves at hm
       simp at hm ⊢
       exact ⟨by omega, z.1⟩
      obtain ⟨z1, -, -, z4, z5, z6⟩ := h.served he sv hy
      have eb : y.s = b := by rw [z5]; revert es; cases e.s <;> cases b <;> simp
      unfold cmp
      rw [hy]
      simp only
      cases b <;> simp [z1, z6, eb, hc]
     ·simp at hi
 ·rintro ⟨hj, hc⟩
  unfold cmp at hc
  obtain ⟨y, hy⟩ := get_lt hj
  rw [hy] at hc
  simp only [Bool.and_eq_true, decide_eq_true_eq] at hc
  obtain ⟨hc, hb⟩ := hc
  have f := (h.at hy).fit
  unfold done
  rw [List.mem_flatMap]
  by_cases k7 : y.k = 7
  ·have hs : y.s = b ∧ (y.o = true ∨ y.s = true) := by
    revert hb
    cases b <;> cases y.s <;> simp [k7]
   obtain ⟨i, x, rfl, hx, sx, z4, z5, z6⟩ := Tok.server h hy k7 hs.2
   refine ⟨i, List.mem_range.2 (by omega), ?_⟩
   have hm := serves_moves h hx sx
   unfold one
   rw [hx]
   simp only
   rw [if_neg (by rw [hm, ← z4, hc]; simp), if_neg (by rw [← hs.1, z5]; cases x.s <;> simp)]
   unfold serves at sx
   simp at sx
   rw [if_pos ⟨sx.2, hj⟩]
   simp
  ·refine ⟨j, List.mem_range.2 hj, ?_⟩
   unfold one
   rw [hy]
   simp only
   have : moves y = true ∧ y.s = b := by
    unfold moves
    cases b
    ·simp [k7] at hb
     exact ⟨by simp [hb.2.1, hb.2.2], f.s4 hb.2.1⟩
    ·simp [k7] at hb
     exact ⟨by simp [hb], f.s3 hb⟩
   rw [if_neg (by rw [this.1]; simp [hc]), if_pos this.2]
   simp
theorem rises_eq : ∀ (a b : List Nat), a.Pairwise (· < ·) → b.Pairwise (· < ·) → (∀ x, x ∈ a ↔ x ∈ b) → a = b
 | [], [], _, _, _ => rfl
 | [], y :: b, _, _, h => by have := (h y).2 (by simp); simp at this
 | x :: a, [], _, _, h => by have := (h x).1 (by simp); simp at this
 | x :: a, y :: b, ha, hb, h => by
   rw [List.pairwise_cons] at ha hb
   have e : x = y := by
    rcases Nat.lt_trichotomy x y with q | q | q
    ·rcases List.mem_cons.1 ((h x).1 (by simp)) with z | z
     ·omega
     ·have := hb.1 x z; omega
    ·exact q
    ·rcases List.mem_cons.1 ((h y).2 (by simp)) with z | z
     ·omega
     ·have := ha.1 y z; omega
   subst e
   rw [rises_eq a b ha.2 hb.2 fun z => ?_]
   constructor
   ·intro hz
    rcases List.mem_cons.1 ((h z).1 (by simp [hz])) with q | q
    ·have := ha.1 z hz; omega
    ·exact q
   ·intro hz
    rcases List.mem_cons.1 ((h z).2 (by simp [hz])) with q | q
    ·have := hb.1 z hz; omega
    ·exact q
theorem done_cmp {l : List Ev} (h : Tok l) (c : Int) (b : Bool) : done l c b l.length = cmpL l c b l.length := by
 refine rises_eq _ _ (done_rises h _) ?_ fun x => ?_
 ·exact (range_rises _).sublist List.filter_sublist
 ·rw [mem_done h, cmpL, List.mem_filter, List.mem_range]
end Ax
end Go.Proofs.YtblfimobiibmjaaGreat
namespace Go.Proofs.YtblfimobiibmjaaGreat
namespace Ax
open En Gu Eg Mx
theorem mk_succ {l : List Ev} {n : Nat} {e : Ev} (he : l[n]? = some e) : mkN (l.take (n + 1)) = mkN (l.take n) + if e.k = 2 then 1 else 0 := by
 unfold mkN
 rw [take_succ he, List.countP_append]
 simp only [List.countP_cons, List.countP_nil, decide_eq_true_eq]
 omega
theorem make_chan {l : List Ev} (h : Tok l) {i : Nat} {e : Ev} (he : l[i]? = some e) (k : e.k = 2) : e.c = (mkN (l.take i) : Int) := by
 have := (h.at he).md
 unfold made at this
 rw [if_pos k] at this
 simp only [decide_eq_true_eq] at this
 exact this
theorem make_at {l : List Ev} (h : Tok l) {c : Nat} : ∀ {n : Nat}, n ≤ l.length → c < mkN (l.take n) → ∃ i e, i < n ∧ l[i]? = some e ∧ e.k = 2 ∧ e.c = (c : Int)
 | 0, _, q => by simp [mkN] at q
 | n + 1, hn, q => by
   obtain ⟨e, he⟩ := get_lt (l := l) (i := n) (by omega)
   rw [mk_succ he] at q
   by_cases z : c < mkN (l.take n)
   ·obtain ⟨i, x, h1, h2⟩ := make_at h (by omega) z
    exact ⟨i, x, by omega, h2⟩
   ·by_cases k : e.k = 2
    ·rw [if_pos k] at q
     exact ⟨n, e, by omega, he, k, by rw [make_chan h he k]; omega⟩
    ·rw [if_neg k] at q; omega
theorem make_size {l : List Ev} (h : Tok l) {i : Nat} {e : Ev} (he : l[i]? = some e) (k : e.k = 2) : (szF l e.c : Int) = e.v ∧ 0 ≤ e.c ∧ e.c < (mkN l : Int) := by
 have c := make_chan h he k
 have hl := lt_get he
 have m := mk_succ he
 rw [if_pos k] at m
 have mm := mkN_mono l (i := i + 1) (j := l.length) (by omega)
 rw [List.take_length] at mm
 have s := size_const h (n := i + 1) (c := e.c) (by omega) (l.length - (i + 1)) (by omega)
 rw [show i + 1 + (l.length - (i + 1)) = l.length by omega, inn_succ he] at s
 have hm : moves e = false := by unfold moves; simp [k]
 simp only [ins, hm, k, if_true] at s
 simp at s
 have v := (h.at he).fit.v k
 exact ⟨by unfold szF; omega, by omega, by omega⟩
def shutL (l : List Ev) (c : Int) (n : Nat) : List Nat := (List.range n).filter fun i => match l[i]? with
 | some e => decide (e.k = 5) && decide (e.c = c)
 | none => false
def chP (l : List Ev) (c : Nat) : List Nat :=
 shutL l c l.length ++ ((cmpL l c true l.length).map (bg l)).drop (cmpL l c false l.length).length ++
  if 0 < szF l c then ((cmpL l c false l.length).map (bg l)).drop ((cmpL l c true l.length).length - szF l c) else []
def parkP (l : List Ev) (g : Nat) : List Nat := match l[(latF l g l.length).getD 0]? with
 | some e => if e.k = 6 then [(latF l g l.length).getD 0] else []
 | none => []
def heldP (l : List Ev) : List Nat := (List.range (mkN l)).flatMap (chP l) ++ (List.range (there l)).flatMap (parkP l)
def heldI (l : List Ev) (i : Nat) : List Nat := match l[i]? with
 | none => []
 | some e => (if e.k = 5 then [i] else []) ++ (if e.k = 6 ∧ latF l e.g l.length = some i then [i] else []) ++
   if e.k = 2 then ((done l e.c true l.length).map (bg l)).drop (done l e.c false l.length).length ++ (if 0 < e.v then ((done l e.c false l.length).map (bg l)).drop ((done l e.c true l.length).length - e.v.toNat) else []) else []
def heldR (l : List Ev) : List Nat := (List.range l.length).flatMap (heldI l)
theorem shut_mem {l : List Ev} {c : Int} {n p : Nat} : p ∈ shutL l c n ↔ p < n ∧ ∃ e, l[p]? = some e ∧ e.k = 5 ∧ e.c = c := by
 unfold shutL
 rw [List.mem_filter, List.mem_range]
 constructor
 ·rintro ⟨h1, h2⟩
  split at h2
  ·rename_i e he
   simp at h2
   exact ⟨h1, e, he, h2⟩
  ·cases h2
 ·rintro ⟨h1, e, he, h2, h3⟩
  rw [he]
  exact ⟨h1, by simp [h2, h3]⟩
theorem held_same {l : List Ev} (h : Tok l) (h0 : latF l 0 l.length ≠ none) (p : Nat) : p ∈ heldP l ↔ p ∈ heldR l := by
 unfold heldP heldR
 rw [List.mem_append, List.mem_flatMap, List.mem_flatMap, List.mem_flatMap]
 constructor
 ·rintro (⟨c, hc, hp⟩ | ⟨g, hg, hp⟩)
  ·rw [List.mem_range] at hc
   obtain ⟨i, e, hi, he, k, ec⟩ := make_at h (Nat.le_refl l.length) (by rw [List.take_length]; exact hc)
   have ms := (make_size h he k).1
   unfold chP at hp
   rw [List.mem_append, List.mem_append, ← done_cmp h, ← done_cmp h] at hp
   rw [ec] at ms
   rcases hp with (hp | hp) | hp
   ·obtain ⟨h1, x, h2, h3, -⟩ := shut_mem.1 hp
    exact ⟨p, List.mem_range.2 h1, by unfold heldI; rw [h2]; simp [h3]⟩
   ·refine ⟨i, List.mem_range.2 hi, ?_⟩
    unfold heldI
    rw [he]
    simp only
    rw [if_pos k, ec]
    exact List.mem_append.2 (.inr (List.mem_append.2 (.inl hp)))
   ·refine ⟨i, List.mem_range.2 hi, ?_⟩
    unfold heldI
    rw [he]
    simp only
    rw [if_pos k, ec]
    refine List.mem_append.2 (.inr (List.mem_append.2 (.inr ?_)))
    split at hp
    ·rename_i z
     rw [if_pos (by omega), show e.v.toNat = szF l c by omega]
     exact hp
    ·simp at hp
  ·rw [List.mem_range] at hg
   unfold parkP at hp
   split at hp
   ·rename_i e he
    split at hp
    ·rename_i k
     simp only [List.mem_singleton] at hp
     have q : ∃ q, latF l g l.length = some q := by
      rcases Nat.eq_zero_or_pos g with z | z
      ·subst z
       cases z : latF l ((0 : Nat) : Int) l.length with
       | none => exact absurd z h0
       | some y => exact ⟨y, rfl⟩
      ·exact lat_some h (by omega) (Nat.le_refl _) (by rw [List.take_length]; omega)
     obtain ⟨q, hq⟩ := q
     rw [hq] at hp he
     simp only [Option.getD_some] at hp he
     subst hp
     obtain ⟨h1, x, h2, h3⟩ := lat_lt hq
     rw [he] at h2
     cases h2
     refine ⟨p, List.mem_range.2 h1, ?_⟩
     unfold heldI
     rw [he]
     have eg : e.g = g := by rcases h3 with z | z; exact z.2; omega
     simp [k, eg, hq]
    ·simp at hp
   ·simp at hp
 ·rintro ⟨i, hi, hp⟩
  rw [List.mem_range] at hi
  unfold heldI at hp
  split at hp
  ·simp at hp
  ·rename_i e he
   rw [List.mem_append, List.mem_append] at hp
   rcases hp with (hp | hp) | hp
   ·split at hp
    ·rename_i k
     obtain rfl : p = i := by simpa using hp
     have md := (h.at he).md
     unfold made at md
     rw [if_neg (by omega)] at md
     simp at md
     have c0 := (h.at he).fit.c (by omega)
     have mm := mkN_mono l (i := p) (j := l.length) (by omega)
     rw [List.take_length] at mm
     refine .inl ⟨e.c.toNat, List.mem_range.2 (by unfold mkN at mm ⊢; omega), ?_⟩
     unfold chP
     refine List.mem_append.2 (.inl (List.mem_append.2 (.inl (shut_mem.2 ⟨hi, e, he, k, by omega⟩))))
    ·simp at hp
   ·split at hp
    ·rename_i z
     obtain rfl : p = i := by simpa using hp
     have g0 := (h.at he).fit.g (by omega)
     have lt := lat_there h (Nat.le_refl _) z.2
     rw [List.take_length] at lt
     refine .inr ⟨e.g.toNat, List.mem_range.2 (by omega), ?_⟩
     unfold parkP
     rw [show ((e.g.toNat : Nat) : Int) = e.g by omega, z.2]
     simp only [Option.getD_some, he, if_pos z.1, List.mem_singleton]
    ·simp at hp
   ·split at hp
    ·rename_i k
     obtain ⟨ms, c0, c1⟩ := make_size h he k
     refine .inl ⟨e.c.toNat, List.mem_range.2 (by omega), ?_⟩
     unfold chP
     rw [show ((e.c.toNat : Nat) : Int) = e.c by omega, ← done_cmp h, ← done_cmp h]
     rw [List.mem_append] at hp
     rcases hp with hp | hp
     ·exact List.mem_append.2 (.inl (List.mem_append.2 (.inr hp)))
     ·split at hp
      ·rename_i z
       refine List.mem_append.2 (.inr ?_)
       rw [if_pos (by omega), show szF l e.c = e.v.toNat by omega]
       exact hp
      ·simp at hp
    ·simp at hp
def livesL (l : List Ev) (n : Nat) : List Nat := (List.range n).filter fun (h : Nat) => !exF l (h : Int) l.length
def knL (A : Nat → Nat → Bool) (l : List Ev) (g : Int) (n : Nat) : List Nat := (livesL l n).map fun (h : Nat) => knF A l ((latF l (h : Int) l.length).getD 0) g
def more (A : Nat → Nat → Bool) (l : List Ev) (g : Int) (c : Nat) : Bool := (heldP l).any fun p => decide (c < knF A l p g)
def setF (A : Nat → Nat → Bool) (l : List Ev) (g : Int) : Option Nat :=
 if exF l g l.length then match knL A l g (there l) with
  | [] => none
  | c :: cs => if cs.all (fun x => decide (x = c)) && !more A l g c then some c else none
 else none
theorem lives_succ (l : List Ev) (n : Nat) : livesL l (n + 1) = livesL l n ++ if exF l (n : Int) l.length then [] else [n] := by
 unfold livesL
 rw [List.range_succ, List.filter_append]
 congr 1
 simp only [List.filter_cons, List.filter_nil]
 cases exF l (n : Int) l.length <;> rfl
theorem knl_succ (A : Nat → Nat → Bool) (l : List Ev) (g : Int) (n : Nat) : knL A l g (n + 1) = knL A l g n ++ if exF l (n : Int) l.length then [] else [knF A l ((latF l (n : Int) l.length).getD 0) g] := by
 unfold knL
 rw [lives_succ, List.map_append]
 congr 1
 split <;> rfl
end Ax
end Go.Proofs.YtblfimobiibmjaaGreat
namespace Go.Proofs.YtblfimobiibmjaaGreat
open Go.ChangeShapes Go.WideShapes Go.ChangeAt Go.RowKit
namespace Gu
open En Ba
def EsAt (w : World) (oa : Option Addr) (l : List Ev) : Prop :=
 ∀ k e, l[k]? = some e → ∃ b off, oa = some ⟨b, off, none⟩ ∧ ∀ j, j < 8 → w.cell? ⟨b, off + k * 8 + j, none⟩ = (En.evc e)[j]?
theorem EsAt.nil (w : World) (oa : Option Addr) : EsAt w oa [] := fun _ _ h => by simp at h
theorem evc_some (e : Ev) (j : Nat) (h : j < 8) : ∃ v, (En.evc e)[j]? = some v := ⟨_, Array.getElem?_eq_getElem h⟩
theorem EsAt.below {w w' : World} {oa : Option Addr} {l : List Ev} (h : EsAt w oa l) (hb : Below w.heap.size w w') : EsAt w' oa l := by
 intro k e hk
 obtain ⟨b, off, he, hc⟩ := h k e hk
 refine ⟨b, off, he, fun j hj => ?_⟩
 obtain ⟨v, hv⟩ := evc_some e j hj
 have := hc j hj
 rw [hv] at this ⊢
 exact (hb.cell (World.block_lt_of_cell? w _ this)).trans this
theorem EsAt.read {w : World} {b off : Nat} {l : List Ev} {k : Nat} {e : Ev} (h : EsAt w (some ⟨b, off, none⟩) l) (hk : l[k]? = some e) : w.cell? ⟨b, off + k * 8, none⟩ = some (.int .i64 e.k) ∧ w.cell? ⟨b, off + k * 8 + 1, none⟩ = some (.int .i64 e.g) ∧ w.cell? ⟨b, off + k * 8 + 2, none⟩ = some (.int .i64 e.c) ∧ w.cell? ⟨b, off + k * 8 + 3, none⟩ = some (.int .i64 e.a) ∧ w.cell? ⟨b, off + k * 8 + 4, none⟩ = some (.int .i64 e.v) ∧ w.cell? ⟨b, off + k * 8 + 5, none⟩ = some (.int .i64 e.m) ∧ w.cell? ⟨b, off + k * 8 + 6, none⟩ = some (.bool e.s) ∧ w.cell? ⟨b, off + k * 8 + 7, none⟩ = some (.bool e.o) := by
 obtain ⟨b', off', he, hc⟩ := h k e hk
 cases he
 exact ⟨hc 0 (by decide), hc 1 (by decide), hc 2 (by decide), hc 3 (by decide), hc 4 (by decide), hc 5 (by decide), hc 6 (by decide), hc 7 (by decide)⟩
theorem rserves_any (e : Ev) (w : World) :
 Calls Tryz.prog 78 #[evv e] w fun r w' => r = .returned (.bool (serves e)) ∧ Below w.heap.size w w' := by
 unfold evv evc serves
 obtain ⟨k, g, c, a, v, m, s, o⟩ := e
 simp only
 cases h3 : decide (k = 3) <;> cases h4 : decide (k = 4) <;> cases hm : decide (0 ≤ m) <;>
  (have a3 := h3
   have a4 := h4
   have am := hm
   simp only [decide_eq_true_eq, decide_eq_false_iff_not] at a3 a4 am
   first
   | (exfalso; omega)
   | (go_enter Tryz.func78, Tryz.ntmps78
      go_wp2_with fail
      go_ret
      exact ⟨rfl, below_alloc _ _⟩))
def mk (p : List Ev) : Nat := p.countP fun x => decide (x.k = 2)
theorem mk_take {l : List Ev} {k : Nat} {e : Ev} (h : l[k]? = some e) : mk (l.take (k + 1)) = mk (l.take k) + if e.k = 2 then 1 else 0 := by
 rw [List.take_add_one, h]
 by_cases q : e.k = 2 <;> simp [mk, q]
theorem mk_le (l : List Ev) (k : Nat) : mk (l.take k) ≤ k := by
 have := List.countP_le_length (p := fun x : Ev => decide (x.k = 2)) (l := l.take k)
 simp only [List.length_take] at this
 unfold mk; omega
set_option maxHeartbeats 1600000 in
theorem rmade_any (oa : Option Addr) (l : List Ev) (c i : Nat) (e : Ev) (w : World) (hA : EsAt w oa l) (hi : l[i]? = some e) (hl : l.length ≤ 100000) (hc : l.length ≤ c) :
 Calls Tryz.prog 74 #[.slice oa l.length c, .int .i64 i] w fun r w' => r = .returned (.bool (made (l.take i) e)) ∧ Below w.heap.size w w' := by
 have HA := hide hA
 have hil : i < l.length := (List.getElem?_eq_some_iff.1 hi).1
 obtain ⟨b1, o1, rfl, _⟩ := hA i e hi
 clear hA
 obtain ⟨N, hN⟩ : ∃ N, l.length = N := ⟨_, rfl⟩
 rw [hN] at hl hc hil ⊢
 have HI := hide hi
 have HN := hide hN
 clear hi hN
 have h1 : (i : Int) < (N : Int) := by omega
 have h2 : (i : Int) ≤ (c : Int) := by omega
 have h3 : i ≤ c := by omega
 have MD : Hid (made (l.take i) e = if e.k = 2 then decide (e.c = (mk (l.take i) : Nat)) else decide (e.c < (mk (l.take i) : Nat))) := rfl
 rw [MD.out]
 clear MD
 go_enter Tryz.func74, Tryz.ntmps74
 go_wp2_with fail
 go_loopw [5, 12] (fun n s wr => ∃ k : Nat, k ≤ i ∧ s = .int .i64 (k : Int) ∧ n = .int .i64 ((mk (l.take k) : Nat) : Int) ∧ Below w.heap.size w wr) (fun _ s _ => i - (intOf s).toNat)
 case atStart => exact ⟨0, Nat.zero_le _, rfl, rfl, Below.refl _ _⟩
 case round =>
  obtain ⟨k, hk, rfl, rfl, hb⟩ := hrel
  have HB := hide hb
  clear hb
  have ML := hide (mk_le l k)
  by_cases hlt : k < i
  ·have hlt' : (k : Int) < (i : Int) := by omega
   obtain ⟨x, hx⟩ : ∃ x, l[k]? = some x := ⟨_, List.getElem?_eq_getElem (by have := HN.out; omega)⟩
   obtain ⟨p0, p1, p2, p3, p4, p5, p6, p7⟩ := (HA.out.below HB.out).read hx
   have MT := hide (mk_take hx)
   clear hx
   obtain ⟨n0, hn0⟩ : ∃ n0, mk (l.take k) = n0 := ⟨_, rfl⟩
   rw [hn0] at MT ML ⊢
   have hn1 : (n0 : Int) ≤ 100000 := by have := ML.out; omega
   clear hn0
   by_cases h2 : x.k = 2
   ·have hd : (x.k == 2) = true := by simp [h2]
    have M1 : Hid (mk (l.take (k + 1)) = n0 + 1) := by show _ = _; rw [MT.out, if_pos h2]
    clear MT
    go_wp2_with fail
    go_roundw
    case rel => exact ⟨k + 1, by omega, by go_num, by rw [M1.out]; go_num, btr HB.out (below_alloc _ _)⟩
    case measure => simp [intOf]; omega
   ·have hd : (x.k == 2) = false := by simp [h2]
    have M1 : Hid (mk (l.take (k + 1)) = n0) := by show _ = _; rw [MT.out, if_neg h2]; rfl
    clear MT
    go_wp2_with fail
    go_roundw
    case rel => exact ⟨k + 1, by omega, by go_num, by rw [M1.out], btr HB.out (below_alloc _ _)⟩
    case measure => simp [intOf]; omega
  ·have hki : k = i := by omega
   subst hki
   have hlt' : ¬ ((k : Int) < (k : Int)) := by omega
   obtain ⟨p0, p1, p2, p3, p4, p5, p6, p7⟩ := (HA.out.below HB.out).read HI.out
   by_cases h2 : e.k = 2
   ·have hd : (e.k == 2) = true := by simp [h2]
    go_wp2_with fail
    go_ret
    exact ⟨ret_bool (by first | rfl | simp | (rw [Bool.eq_iff_iff]; simp)), HB.out⟩
   ·have hd : (e.k == 2) = false := by simp [h2]
    go_wp2_with fail
    go_ret
    exact ⟨ret_bool (by first | rfl | simp | (rw [Bool.eq_iff_iff]; simp)), HB.out⟩
end Gu
end Go.Proofs.YtblfimobiibmjaaGreat
namespace Go.Proofs.YtblfimobiibmjaaGreat
open Go.ChangeShapes Go.WideShapes Go.ChangeAt Go.RowKit
namespace Eg
open En Gu Ba
def tellB (e : Ev) : Bool := decide (e.k = 1) || decide (e.k = 3) || decide (e.k = 4) || decide (e.k = 5) || decide (e.k = 6)
theorem tellB_iff (e : Ev) : tellB e = true ↔ tells e := by
 unfold tellB tells
 simp
 omega
theorem tells_any (e : Ev) (w : World) : Calls Tryz.prog 86 #[evv e] w fun r w' => r = .returned (.bool (tellB e)) ∧ Below w.heap.size w w' := by
 unfold evv evc tellB
 obtain ⟨k, g, c, a, v, m, s, o⟩ := e
 simp only
 by_cases h1 : k = 1
 ·subst h1
  go_enter Tryz.func86, Tryz.ntmps86
  go_wp2_with fail
  go_ret
  exact ⟨rfl, below_alloc _ _⟩
 by_cases h3 : k = 3
 ·subst h3
  go_enter Tryz.func86, Tryz.ntmps86
  go_wp2_with fail
  go_ret
  exact ⟨rfl, below_alloc _ _⟩
 by_cases h4 : k = 4
 ·subst h4
  go_enter Tryz.func86, Tryz.ntmps86
  go_wp2_with fail
  go_ret
  exact ⟨rfl, below_alloc _ _⟩
 by_cases h5 : k = 5
 ·subst h5
  go_enter Tryz.func86, Tryz.ntmps86
  go_wp2_with fail
  go_ret
  exact ⟨rfl, below_alloc _ _⟩
 by_cases h6 : k = 6
 ·subst h6
  go_enter Tryz.func86, Tryz.ntmps86
  go_wp2_with fail
  go_ret
  exact ⟨rfl, below_alloc _ _⟩
 have b1 : (k == 1) = false := by simp [h1]
 have b3 : (k == 3) = false := by simp [h3]
 have b4 : (k == 4) = false := by simp [h4]
 have b5 : (k == 5) = false := by simp [h5]
 have b6 : (k == 6) = false := by simp [h6]
 have e : (decide (k = 1) || decide (k = 3) || decide (k = 4) || decide (k = 5) || decide (k = 6)) = false := by simp [h1, h3, h4, h5, h6]
 rw [e]
 clear e h1 h3 h4 h5 h6
 go_enter Tryz.func86, Tryz.ntmps86
 go_wp2_with fail
 go_ret
 exact ⟨rfl, below_alloc _ _⟩
theorem pk_last {l : List Ev} {g : Int} : ∀ {n p : Nat}, pkF l g n = some p → ∀ (j : Nat) (e : Ev), p < j → j < n → l[j]? = some e → ¬ (e.k = 6 ∧ e.g = g)
 | 0, p, h => by cases h
 | n + 1, p, h => by
   intro j e h1 h2 h3 h4
   unfold pkF at h
   cases he : l[n]? with
   | none =>
     rw [he] at h
     rcases Nat.lt_or_ge j n with q | q
     ·exact pk_last h j e h1 q h3 h4
     ·have : j = n := by omega
      subst this
      rw [he] at h3
      cases h3
   | some x =>
     rw [he] at h
     simp only at h
     split at h
     ·cases h
      omega
     ·rename_i h5
      rcases Nat.lt_or_ge j n with q | q
      ·exact pk_last h j e h1 q h3 h4
      ·have : j = n := by omega
       subst this
       rw [he] at h3
       cases h3
       exact h5 h4
set_option maxRecDepth 100000 in
set_option maxHeartbeats 1600000 in
theorem begins_any (oa : Option Addr) (l : List Ev) (cp i : Nat) (w : World) (hE : Gu.EsAt w oa l) (h : Tok l) (hi : i < l.length) (hl : l.length ≤ 1000000) :
 Calls Tryz.prog 43 #[.slice oa l.length cp, .int .i64 (i : Int)] w fun r w' => r = .returned (.int .i64 (bg l i : Int)) ∧ Below w.heap.size w w' := by
 obtain ⟨x, hx⟩ : ∃ x, l[i]? = some x := ⟨_, List.getElem?_eq_getElem hi⟩
 obtain ⟨b, off, rfl, -⟩ := hE i x hx
 have HE := hide hE
 have i0 : (0 : Int) ≤ (i : Int) := by omega
 have i1 : (i : Int) < (l.length : Int) := by omega
 by_cases k7 : x.k = 7
 ·obtain ⟨p, y, e1, e2, e3, e4, e5, e6⟩ := bg_wake h hx k7
  rw [e1]
  have LAST := hide (pk_last e3)
  have PY := hide e4
  have PK := hide (And.intro e5 e6)
  have HX := hide hx
  obtain ⟨z0, z1, -⟩ := hE.read hx
  have kk : (x.k != 7) = false := by simp [k7]
  have K7 := hide k7
  clear hE h hx e1 e3 e4 e5 e6 k7
  go_enter Tryz.func43, Tryz.ntmps43
  go_wp2_with fail
  go_loopw [5] (fun iv wr => ∃ k : Nat, p ≤ k ∧ k ≤ i ∧ iv = .int .i64 k ∧ Below w.heap.size w wr) (fun iv _ => (intOf iv).toNat)
  case atStart => exact ⟨i, by omega, Nat.le_refl _, rfl, Below.refl _ _⟩
  case round =>
   obtain ⟨k, hk1, hk2, rfl, hb⟩ := hrel
   have HB := hide hb
   obtain ⟨e, he⟩ : ∃ e, l[k]? = some e := ⟨_, List.getElem?_eq_getElem (by omega)⟩
   obtain ⟨y0, y1, -⟩ := (HE.out.below hb).read he
   obtain ⟨x0, x1, -⟩ := (HE.out.below hb).read HX.out
   have k0 : (0 : Int) ≤ (k : Int) := by omega
   have k1 : (k : Int) < (l.length : Int) := by omega
   have HEE := hide he
   clear hb he z0 z1
   by_cases hkp : k = p
   ·have ee : Hid (e = y) := by
     have q := HEE.out
     rw [hkp, PY.out] at q
     show e = y
     cases q
     rfl
    have c1 : (e.k != 6) = false := by rw [ee.out]; simp [PK.out.1]
    have c2 : (e.g != x.g) = false := by rw [ee.out]; simp [PK.out.2]
    have HKP := hide hkp
    clear hkp
    go_wp2_with fail
    go_quiet (fail)
    go_wp2_with fail
    go_ret
    exact ⟨by (rw [← HKP.out]) <;> rfl, btr HB.out (bdrew _ _)⟩
   ·have hno : ¬ (e.k = 6 ∧ e.g = x.g) := by
     rcases Nat.lt_or_ge k i with q | q
     ·exact LAST.out k e (by omega) q HEE.out
     ·have : k = i := by omega
      have q2 := HEE.out
      rw [this, HX.out] at q2
      cases q2
      intro z
      have := K7.out
      omega
    have hk3 : 1 ≤ k := by omega
    by_cases h6 : e.k = 6
    ·have c1 : (e.k != 6) = false := by simp [h6]
     have c2 : (e.g != x.g) = true := by
      simp
      exact fun z => hno ⟨h6, z⟩
     clear h6 hno
     go_wp2_with fail
     go_quiet (fail)
     go_wp2_with fail
     go_roundw
     case rel => exact ⟨k - 1, by omega, by omega, by go_num, btr HB.out (bdrew _ _)⟩
     case measure => simp [intOf]; omega
    ·have c1 : (e.k != 6) = true := by simp [h6]
     clear h6 hno
     go_wp2_with fail
     go_quiet (fail)
     go_wp2_with fail
     go_roundw
     case rel => exact ⟨k - 1, by omega, by omega, by go_num, btr HB.out (bdrew _ _)⟩
     case measure => simp [intOf]; omega
 ·have e0 : bg l i = i := by
   unfold bg
   rw [hx]
   simp [k7]
  rw [e0]
  have kk : (x.k != 7) = true := by simp [k7]
  obtain ⟨z0, -⟩ := hE.read hx
  clear hE h hx k7 e0
  go_enter Tryz.func43, Tryz.ntmps43
  go_wp2_with fail
  go_ret
  exact ⟨rfl, Below.refl _ _⟩
end Eg
end Go.Proofs.YtblfimobiibmjaaGreat
namespace Go.Proofs.YtblfimobiibmjaaGreat
open Go.ChangeShapes Go.WideShapes Go.ChangeAt Go.RowKit
namespace Gu
open En Ba
theorem there_take {l : List Ev} {k : Nat} {e : Ev} (h : l[k]? = some e) : there (l.take (k + 1)) = there (l.take k) + if e.k = 1 then 1 else 0 := by
 rw [List.take_add_one, h]; exact there_app _ _
theorem exit_take {l : List Ev} {k : Nat} {e : Ev} (h : l[k]? = some e) (g : Int) : exitF g (l.take (k + 1)) = (exitF g (l.take k) || (decide (e.g = g) && decide (e.k = 11))) := by
 rw [List.take_add_one, h]; exact exit_app _ _ _
theorem waits_take {l : List Ev} {k : Nat} {e : Ev} (h : l[k]? = some e) (g : Int) : waitsF g (l.take (k + 1)) = wstep g (waitsF g (l.take k)) e := by
 rw [List.take_add_one, h]; exact waits_app _ _ _
theorem pan_take {l : List Ev} {k : Nat} {e : Ev} (h : l[k]? = some e) : panF (l.take (k + 1)) = (panF (l.take k) || decide (e.k = 12)) := by
 rw [List.take_add_one, h]; exact pan_app _ _
theorem pan_more {l : List Ev} {k i : Nat} (h : k ≤ i) (hp : panF (l.take k) = true) : panF (l.take i) = true := by
 have : l.take i = l.take k ++ (l.take i).drop k := by
  rw [show l.take k = (l.take i).take k by rw [List.take_take, Nat.min_eq_left h]]
  exact (List.take_append_drop _ _).symm
 rw [this]; simp only [panF, List.any_append] at hp ⊢; rw [hp]; rfl
theorem there_le (l : List Ev) (k : Nat) : there (l.take k) ≤ k + 1 := by
 have := List.countP_le_length (p := fun x : Ev => decide (x.k = 1)) (l := l.take k)
 simp only [List.length_take] at this
 unfold there; omega
set_option maxRecDepth 100000 in
set_option maxHeartbeats 6400000 in
theorem rcrew_any (oa : Option Addr) (l : List Ev) (c i : Nat) (e : Ev) (w : World) (hA : EsAt w oa l) (hi : l[i]? = some e) (hl : l.length ≤ 100000) (hc : l.length ≤ c) :
 Calls Tryz.prog 73 #[.slice oa l.length c, .int .i64 i] w fun r w' => r = .returned (.bool (crew (l.take i) e)) ∧ Below w.heap.size w w' := by
 have hil : i < l.length := (List.getElem?_eq_some_iff.1 hi).1
 obtain ⟨b1, o1, rfl, -⟩ := hA i e hi
 obtain ⟨p0, p1, p2, p3, p4, p5, p6, p7⟩ := hA.read hi
 obtain ⟨N, hN⟩ : ∃ N, l.length = N := ⟨_, rfl⟩
 rw [hN] at hl hc hil ⊢
 have HN := hide hN
 clear hN hi
 have h1 : (i : Int) < (N : Int) := by omega
 have h2 : (i : Int) ≤ (c : Int) := by omega
 have h3 : i ≤ c := by omega
 obtain ⟨res, hres⟩ : ∃ res, crew (l.take i) e = res := ⟨_, rfl⟩
 rw [hres]
 have HR := hide hres
 clear hres
 have B0 := hide (below_alloc w (.cells #[.int .i64 e.k, .int .i64 e.g, .int .i64 e.c, .int .i64 e.a, .int .i64 e.v, .int .i64 e.m, .bool e.s, .bool e.o] 50))
 have H0 := hide (heap_new w (.cells #[.int .i64 e.k, .int .i64 e.g, .int .i64 e.c, .int .i64 e.a, .int .i64 e.v, .int .i64 e.m, .bool e.s, .bool e.o] 50))
 have HA := hide (hA.below (below_alloc w (.cells #[.int .i64 e.k, .int .i64 e.g, .int .i64 e.c, .int .i64 e.a, .int .i64 e.v, .int .i64 e.m, .bool e.s, .bool e.o] 50)))
 clear hA
 go_enter Tryz.func73, Tryz.ntmps73
 go_wp2_with fail
 clear p0 p1 p2 p3 p4 p5 p6 p7
 generalize w.alloc (.cells #[.int .i64 e.k, .int .i64 e.g, .int .i64 e.c, .int .i64 e.a, .int .i64 e.v, .int .i64 e.m, .bool e.s, .bool e.o] 50) = W at H0 B0 HA ⊢
 generalize w.heap.size = E at H0 ⊢
 go_loopw [6, 7, 8, 19] (fun t a x s wr => ∃ k : Nat, k ≤ i ∧ s = .int .i64 (k : Int) ∧ t = .int .i64 ((there (l.take k) : Nat) : Int) ∧ a = .bool (waitsF e.g (l.take k)) ∧ x = .bool (exitF e.g (l.take k)) ∧ panF (l.take k) = false ∧ Below W.heap.size W wr) (fun _ _ _ s _ => i - (intOf s).toNat)
 case atStart => exact ⟨0, Nat.zero_le _, rfl, rfl, rfl, rfl, rfl, Below.refl _ _⟩
 case round =>
  obtain ⟨k, hk, rfl, rfl, rfl, rfl, hpan, hb⟩ := hrel
  have HB := hide hb
  have HE := hide (heap_below H0.out hb)
  have HP := hide hpan
  clear hb hpan
  have q0 : wr.cell? ⟨E, 0, none⟩ = some (.int .i64 e.k) := cell_of HE.out 0
  have q1 : wr.cell? ⟨E, 1, none⟩ = some (.int .i64 e.g) := cell_of HE.out 1
  have q5 : wr.cell? ⟨E, 5, none⟩ = some (.int .i64 e.m) := cell_of HE.out 5
  have hE : E < wr.heap.size := Ba.heap_lt HE.out
  have hE' : E ≠ wr.heap.size := by omega
  have ML := hide (there_le l k)
  by_cases hlt : k < i
  ·have hlt' : (k : Int) < (i : Int) := by omega
   obtain ⟨x, hx⟩ : ∃ x, l[k]? = some x := ⟨_, List.getElem?_eq_getElem (by have := HN.out; omega)⟩
   obtain ⟨p0, p1, p2, p3, p4, p5, p6, p7⟩ := (HA.out.below HB.out).read hx
   have T1 := hide (there_take hx)
   have X1 := hide (exit_take hx e.g)
   have W1 := hide (waits_take hx e.g)
   have P1 := hide (pan_take hx)
   clear hx
   rw [HP.out] at P1
   have PM := hide (fun q => pan_more (l := l) (k := k + 1) (i := i) hlt q)
   obtain ⟨n0, hn0⟩ : ∃ n0, there (l.take k) = n0 := ⟨_, rfl⟩
   obtain ⟨a0, ha0⟩ : ∃ a0, waitsF e.g (l.take k) = a0 := ⟨_, rfl⟩
   obtain ⟨x0, hx0⟩ : ∃ x0, exitF e.g (l.take k) = x0 := ⟨_, rfl⟩
   rw [hn0] at T1 ML ⊢
   rw [ha0] at W1 ⊢
   rw [hx0] at X1 ⊢
   have hn1 : (n0 : Int) ≤ 200000 := by have := ML.out; omega
   clear hn0 ha0 hx0
   obtain ⟨xk, xg, xc, xa, xv, xm, xs, xo⟩ := x
   simp only at p0 p1 p2 p3 p4 p5 p6 p7 T1 X1 P1
   unfold wstep at W1
   simp only at W1
   by_cases h12 : xk = 12
   ·subst h12
    have C0 : Hid (crew (l.take i) e = false) := by
     show _ = _
     unfold crew
     rw [PM.out (by rw [P1.out]; rfl)]; rfl
    rw [HR.out] at C0
    go_wp2_with fail
    go_ret
    exact ⟨ret_bool C0.out.symm, btr B0.out (btr HB.out (below_alloc _ _))⟩
   have d12 : (xk == 12) = false := by simp [h12]
   by_cases hg : xg = e.g
   ·have dg : (xg != e.g) = false := by simp [hg]
    by_cases h13 : xk = 13
    ·subst h13
     have T2 : Hid (there (l.take (k + 1)) = n0) := by show _ = _; rw [T1.out]; first | rfl | (simp; done) | (simp [h1]; done)
     have W2 : Hid (waitsF e.g (l.take (k + 1)) = a0) := by show _ = _; rw [W1.out]; first | rfl | (simp; done) | (simp [hg]; done) | (simp [hg, h6, h7]; done)
     have X2 : Hid (exitF e.g (l.take (k + 1)) = x0) := by show _ = _; rw [X1.out]; first | rfl | (simp; done) | (simp [hg]; done) | (simp [h11]; done)
     have P2 : Hid (panF (l.take (k + 1)) = false) := by show _ = _; rw [P1.out]; first | rfl | (simp; done) | (simp [h12]; done)
     clear T1 W1 X1 P1
     go_wp2_with fail
     go_roundw
     case rel => exact ⟨k + 1, by omega, by go_num, by first | (rw [T2.out]; done) | (rw [T2.out]; go_num), by rw [W2.out], by rw [X2.out], P2.out, btr HB.out (below_alloc _ _)⟩
     case measure => simp [intOf]; omega
    have d13 : (xk == 13) = false := by simp [h13]
    by_cases h1 : xk = 1
    ·subst h1
     have T2 : Hid (there (l.take (k + 1)) = n0 + 1) := by show _ = _; rw [T1.out]; first | rfl | (simp; done) | (simp [h1]; done)
     have W2 : Hid (waitsF e.g (l.take (k + 1)) = a0) := by show _ = _; rw [W1.out]; first | rfl | (simp; done) | (simp [hg]; done) | (simp [hg, h6, h7]; done)
     have X2 : Hid (exitF e.g (l.take (k + 1)) = x0) := by show _ = _; rw [X1.out]; first | rfl | (simp; done) | (simp [hg]; done) | (simp [h11]; done)
     have P2 : Hid (panF (l.take (k + 1)) = false) := by show _ = _; rw [P1.out]; first | rfl | (simp; done) | (simp [h12]; done)
     clear T1 W1 X1 P1
     go_wp2_with fail
     go_roundw
     case rel => exact ⟨k + 1, by omega, by go_num, by first | (rw [T2.out]; done) | (rw [T2.out]; go_num), by rw [W2.out], by rw [X2.out], P2.out, btr HB.out (below_alloc _ _)⟩
     case measure => simp [intOf]; omega
    have d1 : (xk == 1) = false := by simp [h1]
    by_cases h6 : xk = 6
    ·subst h6
     have T2 : Hid (there (l.take (k + 1)) = n0) := by show _ = _; rw [T1.out]; first | rfl | (simp; done) | (simp [h1]; done)
     have W2 : Hid (waitsF e.g (l.take (k + 1)) = true) := by show _ = _; rw [W1.out]; first | rfl | (simp; done) | (simp [hg]; done) | (simp [hg, h6, h7]; done)
     have X2 : Hid (exitF e.g (l.take (k + 1)) = x0) := by show _ = _; rw [X1.out]; first | rfl | (simp; done) | (simp [hg]; done) | (simp [h11]; done)
     have P2 : Hid (panF (l.take (k + 1)) = false) := by show _ = _; rw [P1.out]; first | rfl | (simp; done) | (simp [h12]; done)
     clear T1 W1 X1 P1
     go_wp2_with fail
     go_roundw
     case rel => exact ⟨k + 1, by omega, by go_num, by first | (rw [T2.out]; done) | (rw [T2.out]; go_num), by rw [W2.out], by rw [X2.out], P2.out, btr HB.out (below_alloc _ _)⟩
     case measure => simp [intOf]; omega
    have d6 : (xk == 6) = false := by simp [h6]
    by_cases h7 : xk = 7
    ·subst h7
     have T2 : Hid (there (l.take (k + 1)) = n0) := by show _ = _; rw [T1.out]; first | rfl | (simp; done) | (simp [h1]; done)
     have W2 : Hid (waitsF e.g (l.take (k + 1)) = false) := by show _ = _; rw [W1.out]; first | rfl | (simp; done) | (simp [hg]; done) | (simp [hg, h6, h7]; done)
     have X2 : Hid (exitF e.g (l.take (k + 1)) = x0) := by show _ = _; rw [X1.out]; first | rfl | (simp; done) | (simp [hg]; done) | (simp [h11]; done)
     have P2 : Hid (panF (l.take (k + 1)) = false) := by show _ = _; rw [P1.out]; first | rfl | (simp; done) | (simp [h12]; done)
     clear T1 W1 X1 P1
     go_wp2_with fail
     go_roundw
     case rel => exact ⟨k + 1, by omega, by go_num, by first | (rw [T2.out]; done) | (rw [T2.out]; go_num), by rw [W2.out], by rw [X2.out], P2.out, btr HB.out (below_alloc _ _)⟩
     case measure => simp [intOf]; omega
    have d7 : (xk == 7) = false := by simp [h7]
    by_cases h11 : xk = 11
    ·subst h11
     have T2 : Hid (there (l.take (k + 1)) = n0) := by show _ = _; rw [T1.out]; first | rfl | (simp; done) | (simp [h1]; done)
     have W2 : Hid (waitsF e.g (l.take (k + 1)) = a0) := by show _ = _; rw [W1.out]; first | rfl | (simp; done) | (simp [hg]; done) | (simp [hg, h6, h7]; done)
     have X2 : Hid (exitF e.g (l.take (k + 1)) = true) := by show _ = _; rw [X1.out]; first | rfl | (simp; done) | (simp [hg]; done) | (simp [h11]; done)
     have P2 : Hid (panF (l.take (k + 1)) = false) := by show _ = _; rw [P1.out]; first | rfl | (simp; done) | (simp [h12]; done)
     clear T1 W1 X1 P1
     go_wp2_with fail
     go_roundw
     case rel => exact ⟨k + 1, by omega, by go_num, by first | (rw [T2.out]; done) | (rw [T2.out]; go_num), by rw [W2.out], by rw [X2.out], P2.out, btr HB.out (below_alloc _ _)⟩
     case measure => simp [intOf]; omega
    have d11 : (xk == 11) = false := by simp [h11]
    have T2 : Hid (there (l.take (k + 1)) = n0) := by show _ = _; rw [T1.out]; first | rfl | (simp; done) | (simp [h1]; done)
    have W2 : Hid (waitsF e.g (l.take (k + 1)) = a0) := by show _ = _; rw [W1.out]; first | rfl | (simp; done) | (simp [hg]; done) | (simp [hg, h6, h7]; done)
    have X2 : Hid (exitF e.g (l.take (k + 1)) = x0) := by show _ = _; rw [X1.out]; first | rfl | (simp; done) | (simp [hg]; done) | (simp [h11]; done)
    have P2 : Hid (panF (l.take (k + 1)) = false) := by show _ = _; rw [P1.out]; first | rfl | (simp; done) | (simp [h12]; done)
    clear T1 W1 X1 P1
    go_wp2_with fail
    go_roundw
    case rel => exact ⟨k + 1, by omega, by go_num, by first | (rw [T2.out]; done) | (rw [T2.out]; go_num), by rw [W2.out], by rw [X2.out], P2.out, btr HB.out (below_alloc _ _)⟩
    case measure => simp [intOf]; omega
   ·have dg : (xg != e.g) = true := by simp [hg]
    by_cases h1 : xk = 1
    ·subst h1
     have T2 : Hid (there (l.take (k + 1)) = n0 + 1) := by show _ = _; rw [T1.out]; first | rfl | (simp; done) | (simp [h1]; done)
     have W2 : Hid (waitsF e.g (l.take (k + 1)) = a0) := by show _ = _; rw [W1.out]; first | rfl | (simp; done) | (simp [hg]; done) | (simp [hg, h6, h7]; done)
     have X2 : Hid (exitF e.g (l.take (k + 1)) = x0) := by show _ = _; rw [X1.out]; first | rfl | (simp; done) | (simp [hg]; done) | (simp [h11]; done)
     have P2 : Hid (panF (l.take (k + 1)) = false) := by show _ = _; rw [P1.out]; first | rfl | (simp; done) | (simp [h12]; done)
     clear T1 W1 X1 P1
     go_wp2_with fail
     go_roundw
     case rel => exact ⟨k + 1, by omega, by go_num, by first | (rw [T2.out]; done) | (rw [T2.out]; go_num), by rw [W2.out], by rw [X2.out], P2.out, btr HB.out (below_alloc _ _)⟩
     case measure => simp [intOf]; omega
    have d1 : (xk == 1) = false := by simp [h1]
    have T2 : Hid (there (l.take (k + 1)) = n0) := by show _ = _; rw [T1.out]; first | rfl | (simp; done) | (simp [h1]; done)
    have W2 : Hid (waitsF e.g (l.take (k + 1)) = a0) := by show _ = _; rw [W1.out]; first | rfl | (simp; done) | (simp [hg]; done) | (simp [hg, h6, h7]; done)
    have X2 : Hid (exitF e.g (l.take (k + 1)) = x0) := by show _ = _; rw [X1.out]; first | rfl | (simp; done) | (simp [hg]; done) | (simp [h11]; done)
    have P2 : Hid (panF (l.take (k + 1)) = false) := by show _ = _; rw [P1.out]; first | rfl | (simp; done) | (simp [h12]; done)
    clear T1 W1 X1 P1
    go_wp2_with fail
    go_roundw
    case rel => exact ⟨k + 1, by omega, by go_num, by first | (rw [T2.out]; done) | (rw [T2.out]; go_num), by rw [W2.out], by rw [X2.out], P2.out, btr HB.out (below_alloc _ _)⟩
    case measure => simp [intOf]; omega
  ·have hki : k = i := by omega
   subst hki
   have hlt' : ¬ ((k : Int) < (k : Int)) := by omega
   have CR : Hid (res = (decide (e.k = 13) || (decide (e.g < there (l.take k)) && !exitF e.g (l.take k) && (decide (e.k = 12) || waitsF e.g (l.take k) == decide (e.k = 7)) && (decide (e.k ≠ 1) || decide (e.m = there (l.take k)))))) := by
    show _ = _
    rw [← HR.out]
    unfold crew
    rw [HP.out]; rfl
   clear HR HP
   obtain ⟨n0, hn0⟩ : ∃ n0, there (l.take k) = n0 := ⟨_, rfl⟩
   obtain ⟨a0, ha0⟩ : ∃ a0, waitsF e.g (l.take k) = a0 := ⟨_, rfl⟩
   obtain ⟨x0, hx0⟩ : ∃ x0, exitF e.g (l.take k) = x0 := ⟨_, rfl⟩
   rw [hn0, ha0, hx0] at CR
   rw [hn0, ha0, hx0]
   clear hn0 ha0 hx0 ML
   by_cases h13 : e.k = 13
   ·have d13 : (e.k == 13) = true := by simp [h13]
    have C : Hid (res = true) := by show _ = _; rw [CR.out]; simp [h13]
    go_wp2_with fail
    go_ret
    exact ⟨ret_bool C.out.symm, btr B0.out HB.out⟩
   have d13 : (e.k == 13) = false := by simp [h13]
   by_cases hg : e.g < (n0 : Int)
   case neg =>
    have dg : decide (e.g < (n0 : Int)) = false := by simp [hg]
    have C : Hid (res = false) := by show _ = _; rw [CR.out]; first | (simp; done) | (simp [h13]; done) | (simp [hg]; done) | (simp [h13, hg]; done)
    clear CR
    go_wp2_with fail
    go_ret
    exact ⟨ret_bool C.out.symm, btr B0.out HB.out⟩
   have dg : decide (e.g < (n0 : Int)) = true := by simp [hg]
   cases x0
   case true =>
    have C : Hid (res = false) := by show _ = _; rw [CR.out]; first | (simp; done) | (simp [h13]; done) | (simp [hg]; done) | (simp [h13, hg]; done)
    clear CR
    go_wp2_with fail
    go_ret
    exact ⟨ret_bool C.out.symm, btr B0.out HB.out⟩
   by_cases h12 : e.k = 12
   ·have d12 : (e.k == 12) = true := by simp [h12]
    have d1 : (e.k != 1) = true := by simp [h12]
    have C : Hid (res = true) := by show _ = _; rw [CR.out]; first | (simp; done) | (simp [h12]; done) | (simp [hg]; done) | (simp [h12, hg]; done)
    clear CR
    go_wp2_with fail
    go_ret
    exact ⟨ret_bool C.out.symm, btr B0.out HB.out⟩
   have d12 : (e.k == 12) = false := by simp [h12]
   by_cases h7 : e.k = 7
   ·have d7 : (e.k == 7) = true := by simp [h7]
    have d1 : (e.k != 1) = true := by simp [h7]
    cases a0
    case true =>
     have C : Hid (res = true) := by show _ = _; rw [CR.out]; first | (simp; done) | (simp [h7]; done) | (simp [hg]; done) | (simp [h7, hg]; done)
     clear CR
     go_wp2_with fail
     go_ret
     exact ⟨ret_bool C.out.symm, btr B0.out HB.out⟩
    case false =>
     have C : Hid (res = false) := by show _ = _; rw [CR.out]; first | (simp; done) | (simp [h7]; done) | (simp [hg]; done) | (simp [h7, hg]; done)
     clear CR
     go_wp2_with fail
     go_ret
     exact ⟨ret_bool C.out.symm, btr B0.out HB.out⟩
   have d7 : (e.k == 7) = false := by simp [h7]
   cases a0
   case true =>
    have C : Hid (res = false) := by show _ = _; rw [CR.out]; first | (simp; done) | (simp [h7]; done) | (simp [h12]; done) | (simp [h13]; done) | (simp [hg]; done) | (simp [h7, h12]; done) | (simp [h7, h13]; done) | (simp [h7, hg]; done) | (simp [h12, h13]; done) | (simp [h12, hg]; done) | (simp [h13, hg]; done) | (simp [h7, h12, h13]; done) | (simp [h7, h12, hg]; done) | (simp [h7, h13, hg]; done) | (simp [h12, h13, hg]; done) | (simp [h7, h12, h13, hg]; done)
    clear CR
    go_wp2_with fail
    go_ret
    exact ⟨ret_bool C.out.symm, btr B0.out HB.out⟩
   by_cases h1 : e.k = 1
   ·have d1 : (e.k != 1) = false := by simp [h1]
    by_cases hm : e.m = (n0 : Int)
    ·have dm : (e.m == (n0 : Int)) = true := by simp [hm]
     have C : Hid (res = true) := by show _ = _; rw [CR.out]; first | (simp; done) | (simp [h1]; done) | (simp [hg]; done) | (simp [hm]; done) | (simp [h1, hg]; done) | (simp [h1, hm]; done) | (simp [hg, hm]; done) | (simp [h1, hg, hm]; done)
     clear CR
     go_wp2_with fail
     go_ret
     exact ⟨ret_bool C.out.symm, btr B0.out HB.out⟩
    ·have dm : (e.m == (n0 : Int)) = false := by simp [hm]
     have C : Hid (res = false) := by show _ = _; rw [CR.out]; first | (simp; done) | (simp [h1]; done) | (simp [hg]; done) | (simp [hm]; done) | (simp [h1, hg]; done) | (simp [h1, hm]; done) | (simp [hg, hm]; done) | (simp [h1, hg, hm]; done)
     clear CR
     go_wp2_with fail
     go_ret
     exact ⟨ret_bool C.out.symm, btr B0.out HB.out⟩
   have d1 : (e.k != 1) = true := by simp [h1]
   have C : Hid (res = true) := by show _ = _; rw [CR.out]; first | (simp; done) | (simp [h1]; done) | (simp [h7]; done) | (simp [h12]; done) | (simp [h13]; done) | (simp [hg]; done) | (simp [h1, h7]; done) | (simp [h1, h12]; done) | (simp [h1, h13]; done) | (simp [h1, hg]; done) | (simp [h7, h12]; done) | (simp [h7, h13]; done) | (simp [h7, hg]; done) | (simp [h12, h13]; done) | (simp [h12, hg]; done) | (simp [h13, hg]; done) | (simp [h1, h7, h12]; done) | (simp [h1, h7, h13]; done) | (simp [h1, h7, hg]; done) | (simp [h1, h12, h13]; done) | (simp [h1, h12, hg]; done) | (simp [h1, h13, hg]; done) | (simp [h7, h12, h13]; done) | (simp [h7, h12, hg]; done) | (simp [h7, h13, hg]; done) | (simp [h12, h13, hg]; done) | (simp [h1, h7, h12, h13]; done) | (simp [h1, h7, h12, hg]; done) | (simp [h1, h7, h13, hg]; done) | (simp [h1, h12, h13, hg]; done) | (simp [h7, h12, h13, hg]; done) | (simp [h1, h7, h12, h13, hg]; done)
   clear CR
   go_wp2_with fail
   go_ret
   exact ⟨ret_bool C.out.symm, btr B0.out HB.out⟩
end Gu
end Go.Proofs.YtblfimobiibmjaaGreat
