import Derived.Test.YtblfimobiibmjabGreatZjAx2
import Derived.WalkKit
import Derived.ProofKit
import Derived.OpenShut
import Derived.Deep.RegionHeld3
import Derived.Deep.QuietTactic
import Derived.BigQuiet
import Derived.Deep.DeepCutAuto
import Derived.Deep.RegionLaw
import Derived.Maps.AppendAt
import Derived.OwnWalk
import Derived.Lib.AppendZeros
import Derived.Lib.Slices
namespace Go.Proofs.YtblfimobiibmjabGreat
open Go.ChangeShapes Go.WideShapes Go.ChangeAt Go.RowKit
namespace Mx
theorem hide {p : Prop} (h : p) : Hid p := h
theorem ofInt_nat (x : Nat) (h : x < 18446744073709551616) : (BitVec.ofInt 64 (x : Int)).toNat = x := by
 rw [BitVec.ofInt_natCast, BitVec.toNat_ofNat]
 exact Nat.mod_eq_of_lt (by simpa using h)
theorem wrap_u64 (n : Int) : IntKind.u64.wrap n = n % 18446744073709551616 := by
 simp [IntKind.wrap, IntKind.signed, IntKind.bits]
theorem wrap_u64n (n : Nat) (h : n < 18446744073709551616) : IntKind.u64.wrap (n : Int) = (n : Int) := by
 rw [wrap_u64]; omega
theorem and_nat (x y : Nat) (hx : x < 18446744073709551616) (hy : y < 18446744073709551616) : bits .and .u64 (x : Int) (y : Int) = ((x &&& y : Nat) : Int) := by
 have e : bits .and .u64 (x : Int) (y : Int) = IntKind.u64.wrap (((BitVec.ofInt 64 (x : Int)) &&& (BitVec.ofInt 64 (y : Int))).toNat : Int) := rfl
 rw [e, BitVec.toNat_and, ofInt_nat x hx, ofInt_nat y hy]
 exact wrap_u64n _ (Nat.lt_of_le_of_lt Nat.and_le_left hx)
theorem or_lt64 (x y : Nat) (hx : x < 18446744073709551616) (hy : y < 18446744073709551616) : x ||| y < 18446744073709551616 := by
 have := Nat.or_lt_two_pow (n := 64) (x := x) (y := y) (by simpa using hx) (by simpa using hy)
 simpa using this
theorem or_nat (x y : Nat) (hx : x < 18446744073709551616) (hy : y < 18446744073709551616) : bits .or .u64 (x : Int) (y : Int) = ((x ||| y : Nat) : Int) := by
 have e : bits .or .u64 (x : Int) (y : Int) = IntKind.u64.wrap (((BitVec.ofInt 64 (x : Int)) ||| (BitVec.ofInt 64 (y : Int))).toNat : Int) := rfl
 rw [e, BitVec.toNat_or, ofInt_nat x hx, ofInt_nat y hy]
 exact wrap_u64n _ (or_lt64 x y hx hy)
def o1 (x : Nat) : Nat := (x / 2 &&& 6148914691236517205) + (x &&& 6148914691236517205)
end Mx
end Go.Proofs.YtblfimobiibmjabGreat
namespace Go.Proofs.YtblfimobiibmjabGreat
open Go.ChangeShapes Go.WideShapes Go.ChangeAt Go.RowKit
namespace Mx
abbrev Rws := Nat → Nat
def hs (r : Rws) (i k : Nat) : Bool := (r i).testBit k
def upd (r : Rws) (i v : Nat) : Rws := fun j => if j = i then v else r j
theorem upd_same (r : Rws) (i v : Nat) : upd r i v i = v := by simp [upd]
theorem upd_ne (r : Rws) (i v j : Nat) (h : j ≠ i) : upd r i v j = r j := by simp [upd, h]
def set1 (r : Rws) (i k : Nat) : Rws := upd r i (r i ||| 2 ^ k)
theorem hs_set1 (r : Rws) (i k a b : Nat) : hs (set1 r i k) a b = (hs r a b || (decide (a = i) && decide (b = k))) := by
 unfold hs set1 upd
 split
 ·next h => subst h; rw [Nat.testBit_or, Nat.testBit_two_pow]; simp [eq_comm]
 ·next h => simp [h]
def turn (r : Rws) (k : Nat) : Nat → Rws
 | 0 => r
 | i + 1 => if hs (turn r k i) i k then upd (turn r k i) i (turn r k i i ||| turn r k i k) else turn r k i
theorem turn_is (r : Rws) (k m a b : Nat) : hs (turn r k m) a b = (hs r a b || (decide (a < m) && (hs r a k && hs r k b))) := by
 induction m generalizing a b with
 | zero => simp [turn]
 | succ m ih =>
   have hk : ∀ c, hs (turn r k m) k c = hs r k c := by
    intro c
    rw [ih]
    cases h1 : hs r k c <;> simp
   simp only [turn]
   have hm : hs (turn r k m) m k = hs r m k := by rw [ih]; simp
   rw [hm]
   cases h : hs r m k
   ·rw [if_neg (by simp), ih]
    by_cases e : a = m
    ·subst e; simp [h]
    ·have : decide (a < m + 1) = decide (a < m) := by simp; omega
     rw [this]
   ·rw [if_pos rfl]
    by_cases e : a = m
    ·subst e
     have e2 : hs (upd (turn r k a) a (turn r k a a ||| turn r k a k)) a b = (hs (turn r k a) a b || hs (turn r k a) k b) := by
      unfold hs; rw [upd_same, Nat.testBit_or]
     rw [e2, hk, ih]
     simp [h]
    ·have e2 : hs (upd (turn r k m) m (turn r k m m ||| turn r k m k)) a b = hs (turn r k m) a b := by
      unfold hs; rw [upd_ne _ _ _ _ e]
     rw [e2, ih]
     have : decide (a < m + 1) = decide (a < m) := by simp; omega
     rw [this]
def turns (r : Rws) (n : Nat) : Nat → Rws
 | 0 => r
 | k + 1 => turn (turns r n k) k n
def clo (r : Rws) (n : Nat) : Rws := turns r n n
theorem turns_succ (r : Rws) (n k a b : Nat) (h : a < n) : hs (turns r n (k + 1)) a b = (hs (turns r n k) a b || (hs (turns r n k) a k && hs (turns r n k) k b)) := by
 simp only [turns]
 rw [turn_is]
 simp [h]
def Tr (n : Nat) (g : Nat → Nat → Bool) : Prop := ∀ i j k, i < n → j < n → k < n → g i j = true → g j k = true → g i k = true
theorem turns_tr (r : Rws) (n K : Nat) (hK : K ≤ n) : ∀ i a j, i < n → a < K → hs (turns r n K) i a = true → hs (turns r n K) a j = true → hs (turns r n K) i j = true := by
 induction K with
 | zero => intro i a j _ ha; omega
 | succ K ih =>
   intro i a j hi ha h1 h2
   have ih := ih (by omega)
   rw [turns_succ _ _ _ _ _ hi] at h1 ⊢
   rw [turns_succ _ _ _ _ _ (by omega)] at h2
   simp only [Bool.or_eq_true, Bool.and_eq_true] at h1 h2 ⊢
   by_cases e : a = K
   ·subst e
    refine .inr ⟨?_, ?_⟩
    ·rcases h1 with h1 | h1
     ·exact h1
     ·exact h1.1
    ·rcases h2 with h2 | h2
     ·exact h2
     ·exact h2.2
   ·have ha' : a < K := by omega
    rcases h1 with h1 | ⟨h1, h1'⟩
    ·rcases h2 with h2 | ⟨h2, h2'⟩
     ·exact .inl (ih i a j hi ha' h1 h2)
     ·exact .inr ⟨ih i a K hi ha' h1 h2, h2'⟩
    ·rcases h2 with h2 | ⟨h2, h2'⟩
     ·exact .inr ⟨h1, ih K a j (by omega) ha' h1' h2⟩
     ·exact .inr ⟨h1, h2'⟩
theorem clo_tr (r : Rws) (n : Nat) : Tr n (hs (clo r n)) := fun i j k hi hj _ h1 h2 => turns_tr r n n (Nat.le_refl _) i j k hi hj h1 h2
theorem clo_has (r : Rws) (n i k : Nat) (hi : i < n) (h : hs r i k = true) : hs (clo r n) i k = true := by
 have : ∀ K, hs (turns r n K) i k = true := by
  intro K
  induction K with
  | zero => exact h
  | succ K ih => rw [turns_succ _ _ _ _ _ hi, ih]; rfl
 exact this n
theorem clo_least (r : Rws) (n : Nat) (g : Nat → Nat → Bool) (hg : Tr n g) (hr : ∀ i k, i < n → k < n → hs r i k = true → g i k = true) : ∀ i k, i < n → k < n → hs (clo r n) i k = true → g i k = true := by
 have : ∀ K, K ≤ n → ∀ i k, i < n → k < n → hs (turns r n K) i k = true → g i k = true := by
  intro K
  induction K with
  | zero => intro _; exact hr
  | succ K ih =>
    intro hK i k hi hk h
    have ih := ih (by omega)
    rw [turns_succ _ _ _ _ _ hi] at h
    simp only [Bool.or_eq_true, Bool.and_eq_true] at h
    rcases h with h | ⟨h1, h2⟩
    ·exact ih i k hi hk h
    ·exact hg i K k hi (by omega) hk (ih i K hi (by omega) h1) (ih K k (by omega) hk h2)
 exact this n (Nat.le_refl _)
def Bd (n : Nat) (r : Rws) : Prop := ∀ i k, n ≤ k → hs r i k = false
theorem Bd.zero (n : Nat) : Bd n (fun _ => 0) := fun i k _ => by simp [hs]
theorem Bd.set1 {n : Nat} {r : Rws} (h : Bd n r) (i k : Nat) (hk : k < n) : Bd n (set1 r i k) := by
 intro a b hb
 rw [hs_set1, h a b hb]
 have : decide (b = k) = false := by simp; omega
 simp [this]
def sets (n : Nat) (r : Rws) : List (Int × Int) → Rws
 | [] => r
 | p :: l => sets n (if 0 ≤ p.1 ∧ p.1 < n ∧ 0 ≤ p.2 ∧ p.2 < n then set1 r p.1.toNat p.2.toNat else r) l
theorem sets_append (n : Nat) (r : Rws) (l m : List (Int × Int)) : sets n r (l ++ m) = sets n (sets n r l) m := by
 induction l generalizing r with
 | nil => rfl
 | cons p l ih => exact ih _
theorem hs_sets (n : Nat) (r : Rws) (l : List (Int × Int)) (i k : Nat) (hi : i < n) (hk : k < n) : hs (sets n r l) i k = (hs r i k || l.any fun p => decide (p = ((i : Int), (k : Int)))) := by
 induction l generalizing r with
 | nil => simp [sets]
 | cons p l ih =>
   simp only [sets, List.any_cons]
   rw [ih]
   split
   ·next h =>
    rw [hs_set1]
    have : (decide (i = p.1.toNat) && decide (k = p.2.toNat)) = decide (p = ((i : Int), (k : Int))) := by
     rw [Bool.eq_iff_iff]
     obtain ⟨a, b⟩ := p
     simp only [Bool.and_eq_true, decide_eq_true_eq, Prod.mk.injEq]
     simp only at h
     omega
    rw [this, Bool.or_assoc]
   ·next h =>
    have : decide (p = ((i : Int), (k : Int))) = false := by
     simp only [decide_eq_false_iff_not]
     intro e
     subst e
     exact h (by simp; omega)
    rw [this, Bool.false_or]
theorem Bd.sets {n : Nat} (l : List (Int × Int)) {r : Rws} (h : Bd n r) : Bd n (sets n r l) := by
 induction l generalizing r with
 | nil => exact h
 | cons p l ih =>
   simp only [Mx.sets]
   split
   ·next q => exact ih (h.set1 _ _ (by omega))
   ·exact ih h
end Mx
end Go.Proofs.YtblfimobiibmjabGreat
namespace Go.Proofs.YtblfimobiibmjabGreat
namespace Ax
open En Gu Eg Mx
def Rel (l : List Ev) (r : Rws) : Prop := ∀ i k, i < l.length → k < l.length → (hs r i k = true ↔ ∃ x, isD l x ∧ x.f = i ∧ x.t = k)
def live (l : List Ev) (i : Nat) : Bool := match l[i]? with
 | some e => decide (e.k ≠ 13)
 | none => false
def gof (l : List Ev) (i : Nat) : Int := match l[i]? with
 | some e => e.g
 | none => -1
theorem live_at {l : List Ev} {i : Nat} {e : Ev} (h : l[i]? = some e) : live l i = true ↔ e.k ≠ 13 := by simp [live, h]
theorem gof_at {l : List Ev} {i : Nat} {e : Ev} (h : l[i]? = some e) : gof l i = e.g := by simp [gof, h]
theorem get_lt {l : List Ev} {i : Nat} (h : i < l.length) : ∃ e, l[i]? = some e := ⟨_, List.getElem?_eq_getElem h⟩
theorem lt_get {l : List Ev} {i : Nat} {e : Ev} (h : l[i]? = some e) : i < l.length := (List.getElem?_eq_some_iff.1 h).1
theorem tells_live {e : Ev} (h : tells e) : e.k ≠ 13 := by unfold tells at h; omega
theorem done_live {l : List Ev} (h : Tok l) {c : Int} {b : Bool} {n j : Nat} (hj : j ∈ done l c b n) : live l j = true := by
 unfold done at hj
 rw [List.mem_flatMap] at hj
 obtain ⟨i, -, hi⟩ := hj
 have hi' := hi
 obtain ⟨⟨x, hx, -⟩, z⟩ := one_at h hi
 rw [live_at hx]
 rcases z with z | ⟨-, y, hy, k⟩
 ·subst z
  unfold one at hi'
  rw [hx] at hi'
  simp only at hi'
  split at hi'
  ·simp at hi'
  ·rename_i h1
   have hm : moves x = true := by
    cases q : moves x
    ·exact absurd (.inr q) h1
    ·rfl
   unfold moves at hm
   simp at hm
   omega
 ·rw [hx] at hy
  cases hy
  omega
theorem mem_of_get {α : Type} {l : List α} {k : Nat} {x : α} (h : l[k]? = some x) : x ∈ l := List.mem_of_getElem? h
theorem isD_live {l : List Ev} (h : Tok l) {x : Ed} (hx : isD l x) : live l x.f = true ∧ live l x.t = true := by
 rcases hx with ⟨-, b, hb, hk, -, ⟨e, he, hek, -⟩, -⟩ | ⟨-, b, hb, hk, -, ⟨e, he, hek, -⟩, -⟩ | ⟨-, -, b, hb, hn, e, he, hek, -⟩ | ⟨b, hb, hc, k, q, hq, z⟩
 ·exact ⟨(live_at he).2 hek, (live_at hb).2 hk⟩
 ·exact ⟨(live_at he).2 (by omega), (live_at hb).2 hk⟩
 ·exact ⟨(live_at he).2 (by omega), (live_at hb).2 (by have := hn.1; omega)⟩
 ·rcases z with ⟨-, p, hp, rfl⟩ | ⟨p, hp, rfl⟩
  ·obtain ⟨e, he, ht⟩ := bg_tells h (mem_of_get hp)
   exact ⟨(live_at he).2 (tells_live ht), done_live h (mem_of_get hq)⟩
  ·obtain ⟨e, he, ht⟩ := bg_tells h (mem_of_get hq)
   exact ⟨(live_at he).2 (tells_live ht), done_live h (mem_of_get hp)⟩
section
variable {l : List Ev} {r : Rws}
theorem Rel.edge (R : Rel l r) (h : Tok l) {x : Ed} (hx : isD l x) : hs (clo r l.length) x.f x.t = true := by
 obtain ⟨h1, h2⟩ := isD_fwd h hx
 exact clo_has _ _ _ _ (by omega) ((R _ _ (by omega) h2).2 ⟨x, hx, rfl, rfl⟩)
theorem Rel.least (R : Rel l r) (g : Nat → Nat → Bool) (hg : Tr l.length g) (he : ∀ x, isD l x → g x.f x.t = true) {i k : Nat} (hi : i < l.length) (hk : k < l.length) (h : hs (clo r l.length) i k = true) : g i k = true :=
 clo_least r _ g hg (fun i k hi hk q => by
  obtain ⟨x, hx, rfl, rfl⟩ := (R i k hi hk).1 q
  exact he x hx) i k hi hk h
theorem Rel.fwd (R : Rel l r) (h : Tok l) {i k : Nat} (hi : i < l.length) (hk : k < l.length) (q : hs (clo r l.length) i k = true) : i < k := by
 have := R.least (fun i k => decide (i < k)) (fun i j k _ _ _ h1 h2 => by simp at *; omega) (fun x hx => by simpa using (isD_fwd h hx).1) hi hk q
 simpa using this
theorem Rel.live (R : Rel l r) (h : Tok l) {i k : Nat} (hi : i < l.length) (hk : k < l.length) (q : hs (clo r l.length) i k = true) : Ax.live l i = true ∧ Ax.live l k = true := by
 have := R.least (fun i k => Ax.live l i && Ax.live l k) (fun i j k _ _ _ h1 h2 => by simp only [Bool.and_eq_true] at *; exact ⟨h1.1, h2.2⟩) (fun x hx => by simp [(isD_live h hx).1, (isD_live h hx).2]) hi hk q
 simpa using this
theorem Rel.tr (i j k : Nat) (hi : i < l.length) (hj : j < l.length) (hk : k < l.length) (h1 : hs (clo r l.length) i j = true) (h2 : hs (clo r l.length) j k = true) : hs (clo r l.length) i k = true := clo_tr r _ i j k hi hj hk h1 h2
theorem Rel.own (R : Rel l r) (h : Tok l) : ∀ (d : Nat) {i k : Nat}, k = i + 1 + d → k < l.length → Ax.live l i = true → Ax.live l k = true → gof l i = gof l k → hs (clo r l.length) i k = true := by
 intro d
 induction d using Nat.strongRecOn with
 | ind d ih =>
   intro i k hd hk h1 h2 hg
   obtain ⟨a, ha⟩ := get_lt (l := l) (i := i) (by omega)
   obtain ⟨b, hb⟩ := get_lt hk
   rw [live_at ha] at h1
   rw [live_at hb] at h2
   rw [gof_at ha, gof_at hb] at hg
   by_cases q : btw l i k b.g
   ·obtain ⟨m, e, m1, m2, he, hg2, hk2⟩ := q
    exact Rel.tr i m k (by omega) (by omega) hk (ih (m - i - 1) (by omega) (by omega) (by omega) ((live_at ha).2 h1) ((live_at he).2 hk2) (by rw [gof_at ha, gof_at he]; omega)) (ih (k - m - 1) (by omega) (by omega) hk ((live_at he).2 hk2) ((live_at hb).2 h2) (by rw [gof_at hb, gof_at he]; omega))
   ·exact R.edge h (x := ⟨i, k, 1⟩) (.inl ⟨rfl, b, hb, h2, show i < k by omega, ⟨a, ha, h1, hg⟩, q⟩)
theorem Rel.own' (R : Rel l r) (h : Tok l) {i k : Nat} (hik : i < k) (hk : k < l.length) (h1 : Ax.live l i = true) (h2 : Ax.live l k = true) (hg : gof l i = gof l k) : hs (clo r l.length) i k = true :=
 R.own h (k - i - 1) (by omega) hk h1 h2 hg
end
def tl (e : Ev) : Bool := decide (e.k = 1) || (decide (3 ≤ e.k) && decide (e.k ≤ 6))
theorem tl_iff (e : Ev) : tl e = true ↔ tells e := by unfold tl tells; simp; omega
def num (l : List Ev) (i : Nat) (g : Int) : Nat := 1 + (l.take i).countP fun x => decide (x.g = g) && tl x
theorem num_succ {l : List Ev} {i : Nat} {e : Ev} (h : l[i]? = some e) (g : Int) : num l (i + 1) g = num l i g + if e.g = g ∧ tl e = true then 1 else 0 := by
 unfold num
 rw [take_succ h, List.countP_append]
 simp only [List.countP_cons, List.countP_nil, Bool.and_eq_true, decide_eq_true_eq]
 omega
theorem num_end {l : List Ev} {i : Nat} (h : l.length ≤ i) (g : Int) : num l (i + 1) g = num l i g := by
 unfold num
 rw [List.take_of_length_le h, List.take_of_length_le (by omega)]
theorem num_mono (l : List Ev) (g : Int) {i j : Nat} (h : i ≤ j) : num l i g ≤ num l j g := by
 induction j with
 | zero => rw [show i = 0 by omega]; exact Nat.le_refl _
 | succ j ih =>
   by_cases e : i = j + 1
   ·rw [e]; exact Nat.le_refl _
   ·refine Nat.le_trans (ih (by omega)) ?_
    by_cases q : j < l.length
    ·obtain ⟨x, hx⟩ := get_lt q
     rw [num_succ hx]; omega
    ·rw [num_end (by omega)]; exact Nat.le_refl _
theorem num_lt {l : List Ev} {k a : Nat} {e : Ev} (h : k < a) (he : l[k]? = some e) (ht : tells e) : num l k e.g < num l a e.g := by
 refine Nat.lt_of_lt_of_le ?_ (num_mono l e.g (show k + 1 ≤ a by omega))
 rw [num_succ he, if_pos ⟨rfl, (tl_iff e).2 ht⟩]; omega
def mostF (A : Nat → Nat → Bool) (l : List Ev) (i : Nat) (g : Int) : Nat → Nat
 | 0 => 0
 | m + 1 => if gof l m = g ∧ A m i = true then max (mostF A l i g m) (num l m g) else mostF A l i g m
def knF (A : Nat → Nat → Bool) (l : List Ev) (i : Nat) (g : Int) : Nat := if gof l i = g then num l i g else mostF A l i g l.length
theorem most_ge {A : Nat → Nat → Bool} {l : List Ev} {i : Nat} {g : Int} {m k : Nat} (h : k < m) (hg : gof l k = g) (hA : A k i = true) : num l k g ≤ mostF A l i g m := by
 induction m with
 | zero => omega
 | succ m ih =>
   simp only [mostF]
   by_cases e : k = m
   ·subst e
    rw [if_pos ⟨hg, hA⟩]; omega
   ·have := ih (by omega)
    split <;> omega
theorem most_at {A : Nat → Nat → Bool} {l : List Ev} {i : Nat} {g : Int} {m : Nat} (h : 0 < mostF A l i g m) : ∃ k, k < m ∧ gof l k = g ∧ A k i = true ∧ mostF A l i g m = num l k g := by
 induction m with
 | zero => simp [mostF] at h
 | succ m ih =>
   simp only [mostF] at h ⊢
   split at h
   ·rename_i q
    rw [if_pos q]
    by_cases e : mostF A l i g m ≤ num l m g
    ·exact ⟨m, by omega, q.1, q.2, by omega⟩
    ·obtain ⟨k, k1, k2, k3, k4⟩ := ih (by omega)
     exact ⟨k, by omega, k2, k3, by omega⟩
   ·rename_i q
    rw [if_neg q]
    obtain ⟨k, k1, k2, k3, k4⟩ := ih h
    exact ⟨k, by omega, k2, k3, k4⟩
theorem most_congr {A B : Nat → Nat → Bool} {l : List Ev} {i : Nat} {g : Int} {m : Nat} (h : ∀ k, k < m → A k i = B k i) : mostF A l i g m = mostF B l i g m := by
 induction m with
 | zero => rfl
 | succ m ih => simp only [mostF]; rw [ih fun k hk => h k (by omega), h m (by omega)]
theorem Rel.leave {l : List Ev} {r : Rws} (R : Rel l r) (h : Tok l) {i k : Nat} (hi : i < l.length) (hk : k < l.length) (q : hs (clo r l.length) i k = true) (hg : gof l i ≠ gof l k) :
 ∃ (m : Nat) (e : Ev), i ≤ m ∧ m < l.length ∧ l[m]? = some e ∧ tells e ∧ e.g = gof l i ∧ hs (clo r l.length) m k = true := by
 classical
 have := R.least (fun i k => decide (hs (clo r l.length) i k = true ∧ (gof l i = gof l k ∨ ∃ (m : Nat) (e : Ev), i ≤ m ∧ m < l.length ∧ l[m]? = some e ∧ tells e ∧ e.g = gof l i ∧ hs (clo r l.length) m k = true))) (fun a b c ha hb hc h1 h2 => by
  simp only [decide_eq_true_eq] at *
  obtain ⟨h1, z1⟩ := h1
  obtain ⟨h2, z2⟩ := h2
  refine ⟨Rel.tr a b c ha hb hc h1 h2, ?_⟩
  rcases z1 with z1 | ⟨m, e, m1, m2, m3, m4, m5, m6⟩
  ·rcases z2 with z2 | ⟨m, e, m1, m2, m3, m4, m5, m6⟩
   ·exact .inl (z1.trans z2)
   ·exact .inr ⟨m, e, by have := R.fwd h ha hb h1; omega, m2, m3, m4, by rw [m5, z1], m6⟩
  ·exact .inr ⟨m, e, m1, m2, m3, m4, m5, Rel.tr m b c m2 hb hc m6 h2⟩) (fun x hx => by
  simp only [decide_eq_true_eq]
  refine ⟨R.edge h hx, ?_⟩
  by_cases r1 : x.r = 1
  ·left
   rcases hx with ⟨-, b, hb, hk, -, ⟨e, he, -, hg⟩, -⟩ | ⟨r2, -⟩ | ⟨r2, -⟩ | ⟨b, hb, -, hc⟩
   ·rw [gof_at he, gof_at hb, hg]
   ·omega
   ·omega
   ·have := isC_r hc; omega
  ·right
   obtain ⟨e, he, ht⟩ := isD_tells h hx r1
   exact ⟨x.f, e, Nat.le_refl _, lt_get he, he, ht, (gof_at he).symm, R.edge h hx⟩) hi hk q
 simp only [decide_eq_true_eq] at this
 rcases this.2 with z | z
 ·exact absurd z hg
 ·exact z
theorem Rel.told {l : List Ev} {r : Rws} (R : Rel l r) (h : Tok l) {a b : Nat} (ha : a < l.length) (hb : b < l.length) (la : Ax.live l a = true) (hg : gof l a ≠ gof l b) :
 hs (clo r l.length) a b = decide (num l a (gof l a) ≤ knF (hs (clo r l.length)) l b (gof l a)) := by
 rw [Bool.eq_iff_iff, decide_eq_true_iff, knF, if_neg (fun e => hg e.symm)]
 constructor
 ·exact fun q => most_ge ha rfl q
 ·intro q
  obtain ⟨k, k1, k2, k3, k4⟩ := most_at (show 0 < mostF (hs (clo r l.length)) l b (gof l a) l.length by unfold num at q; omega)
  rw [k4] at q
  have lk := (R.live h k1 hb k3).1
  rcases Nat.lt_trichotomy a k with e | e | e
  ·exact Rel.tr a k b ha k1 hb (R.own' h e k1 la lk k2.symm) k3
  ·rw [e]; exact k3
  ·obtain ⟨m, x, m1, m2, m3, m4, m5, m6⟩ := R.leave h k1 hb k3 (by rw [k2]; exact hg)
   rcases Nat.lt_trichotomy a m with z | z | z
   ·exact Rel.tr a m b ha m2 hb (R.own' h z m2 la ((live_at m3).2 (tells_live m4)) (by rw [gof_at m3, m5, k2])) m6
   ·rw [z]; exact m6
   ·have := num_lt z m3 m4
    rw [m5, k2] at this
    have := num_mono l (gof l a) m1
    omega
end Ax
end Go.Proofs.YtblfimobiibmjabGreat
namespace Go.Proofs.YtblfimobiibmjabGreat
namespace Ax
open En Gu Eg Mx
def NoS (l : List Ev) (n : Nat) : Prop := ∀ m e, n = m + 1 → l[m]? = some e → moves e = true → e.m < 0
theorem done_end {l : List Ev} {n : Nat} (hn : n ≤ l.length) (s : NoS l n) (c : Int) (b : Bool) : done (l.take n) c b n = done l c b n := by
 cases n with
 | zero => rfl
 | succ m =>
   rw [done_succ, done_succ, done_take1 c b hn (Nat.lt_succ_self m)]
   congr 1
   unfold one
   rw [take_get (Nat.lt_succ_self m)]
   obtain ⟨e, he⟩ := get_lt (l := l) (i := m) (by omega)
   rw [he]
   simp only
   split
   ·rfl
   ·rename_i h1
    have hm : moves e = true := by
     cases q : moves e
     ·exact absurd (.inr q) h1
     ·rfl
    have := s m e rfl he hm
    rw [if_neg (show ¬ (0 ≤ e.m ∧ m + 1 < (l.take (m + 1)).length) by omega), if_neg (show ¬ (0 ≤ e.m ∧ m + 1 < l.length) by omega)]
theorem one_ge {l : List Ev} {c : Int} {b : Bool} {i j : Nat} (hj : j ∈ one l c b i) : i ≤ j := by
 unfold one at hj
 split at hj
 ·simp at hj
 ·split at hj
  ·simp at hj
  ·split at hj
   ·simp at hj; omega
   ·split at hj <;> simp at hj
    omega
theorem done_more {l : List Ev} (c : Int) (b : Bool) (n : Nat) : ∀ m, ∃ r, done l c b (n + m) = done l c b n ++ r ∧ ∀ j ∈ r, n ≤ j
 | 0 => ⟨[], by simp, by simp⟩
 | m + 1 => by
   obtain ⟨r, h, hr⟩ := done_more c b n m
   refine ⟨r ++ one l c b (n + m), by rw [← Nat.add_assoc, done_succ, h, List.append_assoc], fun j hj => ?_⟩
   rcases List.mem_append.1 hj with q | q
   ·exact hr j q
   ·have := one_ge q; omega
theorem back_get {l : List Ev} {n k p : Nat} {c : Int} {b : Bool} (hn : n ≤ l.length) (h : (done l c b l.length)[k]? = some p) (hp : p < n) : (done l c b n)[k]? = some p := by
 obtain ⟨r, h1, h2⟩ := done_more (l := l) c b n (l.length - n)
 rw [show n + (l.length - n) = l.length by omega] at h1
 rw [h1] at h
 rcases Nat.lt_or_ge k (done l c b n).length with q | q
 ·rwa [List.getElem?_append_left q] at h
 ·rw [List.getElem?_append_right q] at h
  have := h2 p (List.mem_of_getElem? h)
  omega
theorem done_pre {l : List Ev} {n k : Nat} {c : Int} {b : Bool} (hn : n ≤ l.length) (hk : k < (done l c b n).length) : (done l c b l.length)[k]? = (done l c b n)[k]? := by
 obtain ⟨r, h1, -⟩ := done_more (l := l) c b n (l.length - n)
 rw [show n + (l.length - n) = l.length by omega] at h1
 rw [h1, List.getElem?_append_left hk]
theorem isD_back {l : List Ev} (h : Tok l) {n : Nat} (hn : n ≤ l.length) (s : NoS l n) {x : Ed} (hx : isD l x) (ht : x.t < n) : isD (l.take n) x := by
 by_cases hl : n = l.length
 ·rw [hl, List.take_length]; exact hx
 have hl' : (l.take n).length = n := by rw [List.length_take]; omega
 have hf := isD_fwd h hx
 rcases hx with ⟨r, b, hb, h13, q1, ⟨e, e1, e2⟩, q3⟩ | ⟨r, b, hb, h13, q1, ⟨e, e1, e2⟩, q3⟩ | ⟨r, q1, b, hb, hk, e, e1, e2⟩ | ⟨b, hb, h0, k, q, hq, z⟩
 ·exact .inl ⟨r, b, by rw [take_get ht]; exact hb, h13, q1, ⟨e, by rw [take_get (by omega)]; exact e1, e2⟩, fun w => q3 ((btw_take (by omega)).1 w)⟩
 ·exact .inr (.inl ⟨r, b, by rw [take_get ht]; exact hb, h13, q1, ⟨e, by rw [take_get (by omega)]; exact e1, e2⟩, fun w => q3 ((btw_take (by omega)).1 w)⟩)
 ·exact .inr (.inr (.inl ⟨r, q1, b, by rw [take_get ht]; exact hb, hk, e, by rw [take_get (by omega)]; exact e1, e2⟩))
 ·have J := h.jc b.c n hn
  have J1 := J.cnt (by omega)
  have J2 := J.bnd
  have dt := done_end hn s b.c true
  have df := done_end hn s b.c false
  refine .inr (.inr (.inr ⟨b, by rw [take_get ht]; exact hb, h0, k, q, ?_⟩))
  rw [hl', dt, df]
  rcases z with ⟨r, p, hp, rfl⟩ | ⟨p, hp, rfl⟩
  ·have hq' := back_get hn hq ht
   have hkl := (List.getElem?_eq_some_iff.1 hq').1
   rw [done_pre hn (by omega)] at hp
   have pn : p < n := by
    have := hp
    rw [← dt] at this
    obtain ⟨⟨y, hy, -⟩, -⟩ := done_lt (h.take n) _ _ (List.mem_of_getElem? this)
    exact (take_some hy).1
   exact ⟨hq', .inl ⟨r, p, hp, by rw [bg_take pn]⟩⟩
  ·have hp' := back_get hn hp ht
   have hkl := (List.getElem?_eq_some_iff.1 hp').1
   have hp2 := hp'
   rw [← dt] at hp2
   have mk := (done_made (h.take n) (List.mem_of_getElem? hp2)).2
   have sc := size_const h (n := n) (c := b.c) mk (l.length - n) (by omega)
   rw [show n + (l.length - n) = l.length by omega] at sc
   have ss : szF l b.c = (inn l n b.c).size.toNat := by unfold szF; rw [sc]
   have st : szF (l.take n) b.c = szF l b.c := sz_take h (j := p) (b := true) (by rw [hl']; exact List.mem_of_getElem? hp2)
   rw [done_pre hn (by omega)] at hq
   have qn : q < n := by
    have := hq
    rw [← df] at this
    obtain ⟨⟨y, hy, -⟩, -⟩ := done_lt (h.take n) _ _ (List.mem_of_getElem? this)
    exact (take_some hy).1
   exact ⟨hq, .inr ⟨p, by rw [st]; exact hp', by rw [bg_take qn, st]⟩⟩
theorem Rel.grows {l : List Ev} {r r2 : Rws} (R : Rel l r) (h : Tok l) {n : Nat} (hn : n ≤ l.length) (s : NoS l n) (R2 : Rel (l.take n) r2) {i k : Nat} (hi : i < n) (hk : k < n) : hs (clo r l.length) i k = hs (clo r2 n) i k := by
 have hl' : (l.take n).length = n := by rw [List.length_take]; omega
 rw [Bool.eq_iff_iff]
 constructor
 ·intro q
  have := R.least (fun i k => hs (clo r l.length) i k && (!decide (k < n) || hs (clo r2 n) i k)) (fun a b c ha hb hc h1 h2 => by
   simp only [Bool.and_eq_true, Bool.or_eq_true, Bool.not_eq_true', decide_eq_false_iff_not] at *
   refine ⟨Rel.tr a b c ha hb hc h1.1 h2.1, ?_⟩
   by_cases e : c < n
   ·right
    have ab := R.fwd h ha hb h1.1
    have bc := R.fwd h hb hc h2.1
    have z1 := h1.2.resolve_left (by omega)
    have z2 := h2.2.resolve_left (by omega)
    exact clo_tr r2 n a b c (by omega) (by omega) e z1 z2
   ·exact .inl e) (fun x hx => by
   simp only [Bool.and_eq_true, Bool.or_eq_true, Bool.not_eq_true', decide_eq_false_iff_not]
   refine ⟨R.edge h hx, ?_⟩
   by_cases e : x.t < n
   ·have := R2.edge (h.take n) (isD_back h hn s hx e)
    rw [hl'] at this
    exact .inr this
   ·exact .inl e) (by omega) (by omega) q
  simp only [Bool.and_eq_true, Bool.or_eq_true, Bool.not_eq_true', decide_eq_false_iff_not] at this
  exact this.2.resolve_left (by omega)
 ·intro q
  have := R2.least (fun i k => hs (clo r l.length) i k) (fun a b c ha hb hc h1 h2 => Rel.tr a b c (by omega) (by omega) (by omega) h1 h2) (fun x hx => R.edge h (isD_take h hn hx)) (i := i) (k := k) (by omega) (by omega) (by rw [hl']; exact q)
  exact this
def acc (e : Ev) (cell : Int) : Bool := (decide (e.k = 9) || decide (e.k = 10)) && decide (e.v = cell)
def raceF (A : Nat → Nat → Bool) (l : List Ev) (a b : Nat) : Bool := match l[a]?, l[b]? with
 | some x, some y => (decide (x.k = 10) || decide (y.k = 10)) && decide (x.g ≠ y.g) && !A a b && !A b a
 | _, _ => false
def hitF (A : Nat → Nat → Bool) (l : List Ev) (cell : Int) (b m : Nat) : Bool := (List.range m).any fun a => (match l[a]? with
 | some x => acc x cell
 | none => false) && raceF A l a b
def atF (A : Nat → Nat → Bool) (l : List Ev) (cell : Int) (b : Nat) : Bool := (match l[b]? with
 | some y => acc y cell
 | none => false) && hitF A l cell b b
def firF (A : Nat → Nat → Bool) (l : List Ev) (cell : Int) (m : Nat) : Option Nat := (List.range m).find? (atF A l cell)
theorem range_succ_find (p : Nat → Bool) (m : Nat) : (List.range (m + 1)).find? p = ((List.range m).find? p).or (if p m then some m else none) := by
 rw [List.range_succ, List.find?_append]
 simp only [List.find?_cons, List.find?_nil]
 cases p m <;> rfl
theorem fir_succ (A : Nat → Nat → Bool) (l : List Ev) (cell : Int) (m : Nat) : firF A l cell (m + 1) = (firF A l cell m).or (if atF A l cell m then some m else none) := range_succ_find _ m
theorem hit_succ (A : Nat → Nat → Bool) (l : List Ev) (cell : Int) (b m : Nat) : hitF A l cell b (m + 1) = (hitF A l cell b m || ((match l[m]? with
 | some x => acc x cell
 | none => false) && raceF A l m b)) := by
 unfold hitF
 rw [List.range_succ, List.any_append]
 simp
theorem at_congr {A B : Nat → Nat → Bool} {l m : List Ev} {cell : Int} {b : Nat} (h : ∀ i k, i ≤ b → k ≤ b → A i k = B i k) (hl : ∀ i, i ≤ b → l[i]? = m[i]?) : atF A l cell b = atF B m cell b := by
 unfold atF hitF
 rw [hl b (Nat.le_refl _)]
 congr 1
 rw [Bool.eq_iff_iff, List.any_eq_true, List.any_eq_true]
 have key : ∀ a ∈ List.range b, ((match l[a]? with | some x => acc x cell | none => false) && raceF A l a b) = ((match m[a]? with | some x => acc x cell | none => false) && raceF B m a b) := by
  intro a ha
  rw [List.mem_range] at ha
  unfold raceF
  rw [hl a (by omega), hl b (Nat.le_refl _), h a b (by omega) (Nat.le_refl _), h b a (Nat.le_refl _) (by omega)]
 constructor
 ·rintro ⟨a, ha, q⟩; exact ⟨a, ha, by rw [← key a ha]; exact q⟩
 ·rintro ⟨a, ha, q⟩; exact ⟨a, ha, by rw [key a ha]; exact q⟩
theorem fir_at {A : Nat → Nat → Bool} {l : List Ev} {cell : Int} {m a : Nat} (h : firF A l cell m = some a) : a < m ∧ atF A l cell a = true := by
 unfold firF at h
 exact ⟨List.mem_range.1 (List.mem_of_find?_eq_some h), List.find?_some h⟩
theorem fir_grows {A B : Nat → Nat → Bool} {l : List Ev} {cell : Int} {n : Nat} (hn : n ≤ l.length) (h : ∀ i k, i < n → k < n → A i k = B i k) :
 firF B (l.take n) cell n = match firF A l cell l.length with
  | some a => if a < n then some a else none
  | none => none := by
 have e : ∀ m, m ≤ n → firF B (l.take n) cell m = firF A l cell m := by
  intro m hm
  induction m with
  | zero => rfl
  | succ m ih =>
    rw [fir_succ, fir_succ, ih (by omega), at_congr (B := A) (m := l) (fun i k hi hk => (h i k (by omega) (by omega)).symm) (fun i hi => take_get (by omega))]
 rw [e n (Nat.le_refl _)]
 have g : ∀ d, firF A l cell n = match firF A l cell (n + d) with
  | some a => if a < n then some a else none
  | none => none := by
  intro d
  induction d with
  | zero =>
    cases q : firF A l cell n with
    | none => simp
    | some a => simp [(fir_at q).1]
  | succ d ih =>
    rw [ih, ← Nat.add_assoc, fir_succ]
    cases q : firF A l cell (n + d) with
    | some a => simp
    | none =>
      simp only [Option.none_or]
      cases atF A l cell (n + d) <;> simp
 have := g (l.length - n)
 rwa [show n + (l.length - n) = l.length by omega] at this
end Ax
end Go.Proofs.YtblfimobiibmjabGreat
namespace Go.Proofs.YtblfimobiibmjabGreat
namespace Ax
open En Gu Eg Mx
end Ax
end Go.Proofs.YtblfimobiibmjabGreat
namespace Go.Proofs.YtblfimobiibmjabGreat
namespace Ax
open En Gu Eg Mx
end Ax
end Go.Proofs.YtblfimobiibmjabGreat
namespace Go.Proofs.YtblfimobiibmjabGreat
open Go.ChangeShapes Go.WideShapes Go.ChangeAt Go.RowKit
namespace Gu
open En Ba
def EsAt (w : World) (oa : Option Addr) (l : List Ev) : Prop :=
 ∀ k e, l[k]? = some e → ∃ b off, oa = some ⟨b, off, none⟩ ∧ ∀ j, j < 8 → w.cell? ⟨b, off + k * 8 + j, none⟩ = (En.evc e)[j]?
theorem EsAt.nil (w : World) (oa : Option Addr) : EsAt w oa [] := fun _ _ h => by simp at h
theorem evc_some (e : Ev) (j : Nat) (h : j < 8) : ∃ v, (En.evc e)[j]? = some v := ⟨_, Array.getElem?_eq_getElem h⟩
theorem EsAt.below {w w' : World} {oa : Option Addr} {l : List Ev} (h : EsAt w oa l) (hb : Below w.heap.size w w') : EsAt w' oa l := by
 intro k e hk
 obtain ⟨b, off, he, hc⟩ := h k e hk
 refine ⟨b, off, he, fun j hj => ?_⟩
 obtain ⟨v, hv⟩ := evc_some e j hj
 have := hc j hj
 rw [hv] at this ⊢
 exact (hb.cell (World.block_lt_of_cell? w _ this)).trans this
theorem EsAt.read {w : World} {b off : Nat} {l : List Ev} {k : Nat} {e : Ev} (h : EsAt w (some ⟨b, off, none⟩) l) (hk : l[k]? = some e) : w.cell? ⟨b, off + k * 8, none⟩ = some (.int .i64 e.k) ∧ w.cell? ⟨b, off + k * 8 + 1, none⟩ = some (.int .i64 e.g) ∧ w.cell? ⟨b, off + k * 8 + 2, none⟩ = some (.int .i64 e.c) ∧ w.cell? ⟨b, off + k * 8 + 3, none⟩ = some (.int .i64 e.a) ∧ w.cell? ⟨b, off + k * 8 + 4, none⟩ = some (.int .i64 e.v) ∧ w.cell? ⟨b, off + k * 8 + 5, none⟩ = some (.int .i64 e.m) ∧ w.cell? ⟨b, off + k * 8 + 6, none⟩ = some (.bool e.s) ∧ w.cell? ⟨b, off + k * 8 + 7, none⟩ = some (.bool e.o) := by
 obtain ⟨b', off', he, hc⟩ := h k e hk
 cases he
 exact ⟨hc 0 (by decide), hc 1 (by decide), hc 2 (by decide), hc 3 (by decide), hc 4 (by decide), hc 5 (by decide), hc 6 (by decide), hc 7 (by decide)⟩
def mk (p : List Ev) : Nat := p.countP fun x => decide (x.k = 2)
end Gu
end Go.Proofs.YtblfimobiibmjabGreat
namespace Go.Proofs.YtblfimobiibmjabGreat
open Go.ChangeShapes Go.WideShapes Go.ChangeAt Go.RowKit
namespace Eg
open En Gu Ba
def tellB (e : Ev) : Bool := decide (e.k = 1) || decide (e.k = 3) || decide (e.k = 4) || decide (e.k = 5) || decide (e.k = 6)
theorem tellB_iff (e : Ev) : tellB e = true ↔ tells e := by
 unfold tellB tells
 simp
 omega
theorem tells_any (e : Ev) (w : World) : Calls Tryz.prog 29 #[evv e] w fun r w' => r = .returned (.bool (tellB e)) ∧ Below w.heap.size w w' := by
 unfold evv evc tellB
 obtain ⟨k, g, c, a, v, m, s, o⟩ := e
 simp only
 by_cases h1 : k = 1
 ·subst h1
  go_enter Tryz.func29, Tryz.ntmps29
  go_wp2_with fail
  go_ret
  exact ⟨rfl, below_alloc _ _⟩
 by_cases h3 : k = 3
 ·subst h3
  go_enter Tryz.func29, Tryz.ntmps29
  go_wp2_with fail
  go_ret
  exact ⟨rfl, below_alloc _ _⟩
 by_cases h4 : k = 4
 ·subst h4
  go_enter Tryz.func29, Tryz.ntmps29
  go_wp2_with fail
  go_ret
  exact ⟨rfl, below_alloc _ _⟩
 by_cases h5 : k = 5
 ·subst h5
  go_enter Tryz.func29, Tryz.ntmps29
  go_wp2_with fail
  go_ret
  exact ⟨rfl, below_alloc _ _⟩
 by_cases h6 : k = 6
 ·subst h6
  go_enter Tryz.func29, Tryz.ntmps29
  go_wp2_with fail
  go_ret
  exact ⟨rfl, below_alloc _ _⟩
 have b1 : (k == 1) = false := by simp [h1]
 have b3 : (k == 3) = false := by simp [h3]
 have b4 : (k == 4) = false := by simp [h4]
 have b5 : (k == 5) = false := by simp [h5]
 have b6 : (k == 6) = false := by simp [h6]
 have e : (decide (k = 1) || decide (k = 3) || decide (k = 4) || decide (k = 5) || decide (k = 6)) = false := by simp [h1, h3, h4, h5, h6]
 rw [e]
 clear e h1 h3 h4 h5 h6
 go_enter Tryz.func29, Tryz.ntmps29
 go_wp2_with fail
 go_ret
 exact ⟨rfl, below_alloc _ _⟩
theorem pk_last {l : List Ev} {g : Int} : ∀ {n p : Nat}, pkF l g n = some p → ∀ (j : Nat) (e : Ev), p < j → j < n → l[j]? = some e → ¬ (e.k = 6 ∧ e.g = g)
 | 0, p, h => by cases h
 | n + 1, p, h => by
   intro j e h1 h2 h3 h4
   unfold pkF at h
   cases he : l[n]? with
   | none =>
     rw [he] at h
     rcases Nat.lt_or_ge j n with q | q
     ·exact pk_last h j e h1 q h3 h4
     ·have : j = n := by omega
      subst this
      rw [he] at h3
      cases h3
   | some x =>
     rw [he] at h
     simp only at h
     split at h
     ·cases h
      omega
     ·rename_i h5
      rcases Nat.lt_or_ge j n with q | q
      ·exact pk_last h j e h1 q h3 h4
      ·have : j = n := by omega
       subst this
       rw [he] at h3
       cases h3
       exact h5 h4
set_option maxRecDepth 100000 in
set_option maxHeartbeats 1600000 in
theorem begins_any (oa : Option Addr) (l : List Ev) (cp i : Nat) (w : World) (hE : Gu.EsAt w oa l) (h : Tok l) (hi : i < l.length) (hl : l.length ≤ 1000000) :
 Calls Tryz.prog 97 #[.slice oa l.length cp, .int .i64 (i : Int)] w fun r w' => r = .returned (.int .i64 (bg l i : Int)) ∧ Below w.heap.size w w' := by
 obtain ⟨x, hx⟩ : ∃ x, l[i]? = some x := ⟨_, List.getElem?_eq_getElem hi⟩
 obtain ⟨b, off, rfl, -⟩ := hE i x hx
 have HE := hide hE
 have i0 : (0 : Int) ≤ (i : Int) := by omega
 have i1 : (i : Int) < (l.length : Int) := by omega
 by_cases k7 : x.k = 7
 ·obtain ⟨p, y, e1, e2, e3, e4, e5, e6⟩ := bg_wake h hx k7
  rw [e1]
  have LAST := hide (pk_last e3)
  have PY := hide e4
  have PK := hide (And.intro e5 e6)
  have HX := hide hx
  obtain ⟨z0, z1, -⟩ := hE.read hx
  have kk : (x.k != 7) = false := by simp [k7]
  have K7 := hide k7
  clear hE h hx e1 e3 e4 e5 e6 k7
  go_enter Tryz.func97, Tryz.ntmps97
  go_wp2_with fail
  go_loopw [5] (fun iv wr => ∃ k : Nat, p ≤ k ∧ k ≤ i ∧ iv = .int .i64 k ∧ Below w.heap.size w wr) (fun iv _ => (intOf iv).toNat)
  case atStart => exact ⟨i, by omega, Nat.le_refl _, rfl, Below.refl _ _⟩
  case round =>
   obtain ⟨k, hk1, hk2, rfl, hb⟩ := hrel
   have HB := hide hb
   obtain ⟨e, he⟩ : ∃ e, l[k]? = some e := ⟨_, List.getElem?_eq_getElem (by omega)⟩
   obtain ⟨y0, y1, -⟩ := (HE.out.below hb).read he
   obtain ⟨x0, x1, -⟩ := (HE.out.below hb).read HX.out
   have k0 : (0 : Int) ≤ (k : Int) := by omega
   have k1 : (k : Int) < (l.length : Int) := by omega
   have HEE := hide he
   clear hb he z0 z1
   by_cases hkp : k = p
   ·have ee : Hid (e = y) := by
     have q := HEE.out
     rw [hkp, PY.out] at q
     show e = y
     cases q
     rfl
    have c1 : (e.k != 6) = false := by rw [ee.out]; simp [PK.out.1]
    have c2 : (e.g != x.g) = false := by rw [ee.out]; simp [PK.out.2]
    have HKP := hide hkp
    clear hkp
    go_wp2_with fail
    go_quiet (fail)
    go_wp2_with fail
    go_ret
    exact ⟨by (rw [← HKP.out]) <;> rfl, btr HB.out (bdrew _ _)⟩
   ·have hno : ¬ (e.k = 6 ∧ e.g = x.g) := by
     rcases Nat.lt_or_ge k i with q | q
     ·exact LAST.out k e (by omega) q HEE.out
     ·have : k = i := by omega
      have q2 := HEE.out
      rw [this, HX.out] at q2
      cases q2
      intro z
      have := K7.out
      omega
    have hk3 : 1 ≤ k := by omega
    by_cases h6 : e.k = 6
    ·have c1 : (e.k != 6) = false := by simp [h6]
     have c2 : (e.g != x.g) = true := by
      simp
      exact fun z => hno ⟨h6, z⟩
     clear h6 hno
     go_wp2_with fail
     go_quiet (fail)
     go_wp2_with fail
     go_roundw
     case rel => exact ⟨k - 1, by omega, by omega, by go_num, btr HB.out (bdrew _ _)⟩
     case measure => simp [intOf]; omega
    ·have c1 : (e.k != 6) = true := by simp [h6]
     clear h6 hno
     go_wp2_with fail
     go_quiet (fail)
     go_wp2_with fail
     go_roundw
     case rel => exact ⟨k - 1, by omega, by omega, by go_num, btr HB.out (bdrew _ _)⟩
     case measure => simp [intOf]; omega
 ·have e0 : bg l i = i := by
   unfold bg
   rw [hx]
   simp [k7]
  rw [e0]
  have kk : (x.k != 7) = true := by simp [k7]
  obtain ⟨z0, -⟩ := hE.read hx
  clear hE h hx k7 e0
  go_enter Tryz.func97, Tryz.ntmps97
  go_wp2_with fail
  go_ret
  exact ⟨rfl, Below.refl _ _⟩
end Eg
end Go.Proofs.YtblfimobiibmjabGreat
namespace Go.Proofs.YtblfimobiibmjabGreat
open Go.ChangeShapes Go.WideShapes Go.ChangeAt Go.RowKit
namespace Gu
open En Ba
theorem there_take {l : List Ev} {k : Nat} {e : Ev} (h : l[k]? = some e) : there (l.take (k + 1)) = there (l.take k) + if e.k = 1 then 1 else 0 := by
 rw [List.take_add_one, h]; exact there_app _ _
theorem there_le (l : List Ev) (k : Nat) : there (l.take k) ≤ k + 1 := by
 have := List.countP_le_length (p := fun x : Ev => decide (x.k = 1)) (l := l.take k)
 simp only [List.length_take] at this
 unfold there; omega
end Gu
end Go.Proofs.YtblfimobiibmjabGreat
namespace Go.Proofs.YtblfimobiibmjabGreat
open Go.ChangeShapes Go.WideShapes Go.ChangeAt Go.RowKit
namespace Gu
open En Ba
end Gu
end Go.Proofs.YtblfimobiibmjabGreat
namespace Go.Proofs.YtblfimobiibmjabGreat
open Go.ChangeShapes Go.WideShapes Go.ChangeAt Go.RowKit
namespace Gu
open En Ba
def ic (l : List Int) : List Value := l.map (Value.int .i64)
theorem ic_app (l m : List Int) : ic (l ++ m) = ic l ++ ic m := by simp [ic]
theorem ic_one (l : List Int) : ∀ u ∈ ic l, u.oneCell' = true := by
 intro u hu
 obtain ⟨b, -, rfl⟩ := List.mem_map.1 hu
 rfl
theorem ic_len (l : List Int) : (ic l).length = l.length := by simp [ic]
theorem info_int : (Tryz.prog.info? 3).map (fun i => (i.zero, i.size, i.bytes)) = some (some (.int .i64 0), 1, 8) := by kernel_rfl
theorem own_sl {w : World} {base : Nat} {e : TypeId} {size n : Nat} {v : Value} {xs : List Value} (h : w.ownsRow base e size v n xs) : ∃ oa c, v = .slice oa n c := by
 rcases h.2 with ⟨rfl, rfl⟩ | ⟨g, cap, cr, rfl, -⟩
 ·exact ⟨none, 0, rfl⟩
 ·exact ⟨_, _, rfl⟩
theorem own_kb {w w' : World} {P base size : Nat} {e : TypeId} {v : Value} {n : Nat} {xs : List Value} (h : w.ownsRow base e size v n xs) (k : KB P w w') (hn : v.ownBlock ≠ some P) : w'.ownsRow base e size v n xs := by
 refine ⟨h.1, ?_⟩
 rcases h.2 with q | ⟨g, cap, cur, q1, q2, q3, q4⟩
 ·exact .inl q
 ·refine .inr ⟨g, cap, cur, q1, q2, k.heap q3 ?_, q4⟩
  subst q1; intro e; subst e; exact hn rfl
theorem below_set {w u : World} {n b i : Nat} {v : Value} (h : Below n w u) (hb : n ≤ b) : Below n w (u.setCell ⟨b, i, none⟩ v) := by
 refine ⟨h.os, h.tape, h.output, ?_, fun k hk => ?_⟩
 ·have : (u.setCell ⟨b, i, none⟩ v).heap.size = u.heap.size := by simp [World.setCell]
  rw [this]; exact h.size
 ·rw [← h.block k hk]
  exact Below.heap_setCell _ _ _ _ (by show k ≠ b; omega)
theorem step_append_run {ops : Array Oper} (w : World) {o : Oper} {a : Act} {K : Act → World → Prop} {Q : Exit → Act → World → Prop} {E : Prop} (hgd : o.guard = none) (s x : Operand) (t tn : TypeId)
 (ho : o.op = .call { callee := .builtin .append, args := #[s, x], argTypes := #[t, tn] }) (vs vx : Value) (hs : a.eval s = vs) (hx : a.eval x = vx)
 (v' : Value) (w' : World) (hr : (Builtin.append_ #[t, tn] o.type #[vs, vx]).run Tryz.prog w = .ok v' w') (h : K (a.put o.dst v') w') :
 if Region.wanted o (yielded ops a.tmps) = true then Oper.wp Tryz.prog o a w K Q else E := by
 have hw : Region.wanted o (yielded ops a.tmps) = true := by simp [Region.wanted, hgd]
 rw [if_pos hw]
 exact Lib.wp_append_run w s x t tn ho vs vx hs hx v' w' hr h
section
variable {ops : Array Oper} {rest : List Oper} {o : Oper} {a : Act} {w : World} {Q : Exit → Act → World → Prop}
theorem wpL_app (hgd : o.guard = none) (s x : Operand) (t tn : TypeId)
 (ho : o.op = .call { callee := .builtin .append, args := #[s, x], argTypes := #[t, tn] }) (vs vx : Value) (hs : a.eval s = vs) (hx : a.eval x = vx)
 (v' : Value) (w' : World) (hr : (Builtin.append_ #[t, tn] o.type #[vs, vx]).run Tryz.prog w = .ok v' w') (h : wpList Tryz.prog ops Q rest (a.put o.dst v') w') : wpList Tryz.prog ops Q (o :: rest) a w :=
 wpList_plain hgd fun _ hK => Lib.wp_append_run w s x t tn ho vs vx hs hx v' w' hr (hK _ _ h)
end
section
variable {w w' : World} {N : Nat} {v : Value} {sz : Int} {L : List Int} {cl rt : Bool}
end
theorem inn_succ {l : List Ev} {k : Nat} {x : Ev} (h : l[k]? = some x) (c : Int) : inn l (k + 1) c = ins (inn l k c) c x l[k + 1]? := by simp [inn, h]
end Gu
end Go.Proofs.YtblfimobiibmjabGreat
namespace Go.Proofs.YtblfimobiibmjabGreat
open Go.ChangeShapes Go.WideShapes Go.ChangeAt Go.RowKit
namespace Gu
open En Ba
end Gu
end Go.Proofs.YtblfimobiibmjabGreat
namespace Go.Proofs.YtblfimobiibmjabGreat
open Go.ChangeShapes Go.WideShapes Go.ChangeAt Go.RowKit
namespace En
open Ba Re
end En
end Go.Proofs.YtblfimobiibmjabGreat
namespace Go.Proofs.YtblfimobiibmjabGreat
open Go.ChangeShapes Go.WideShapes Go.ChangeAt Go.RowKit
namespace En
open Ba Re
end En
end Go.Proofs.YtblfimobiibmjabGreat
namespace Go.Proofs.YtblfimobiibmjabGreat
open Go.ChangeShapes Go.WideShapes Go.ChangeAt Go.RowKit
namespace En
open Ba Re
end En
end Go.Proofs.YtblfimobiibmjabGreat
namespace Go.Proofs.YtblfimobiibmjabGreat
open Go.ChangeShapes Go.WideShapes Go.ChangeAt Go.RowKit
namespace En
open Ba Re
end En
end Go.Proofs.YtblfimobiibmjabGreat
namespace Go.Proofs.YtblfimobiibmjabGreat
open Go.ChangeShapes Go.WideShapes Go.ChangeAt Go.RowKit
namespace En
open Ba Re
end En
end Go.Proofs.YtblfimobiibmjabGreat
namespace Go.Proofs.YtblfimobiibmjabGreat
open Go.ChangeShapes Go.WideShapes Go.ChangeAt Go.RowKit
namespace En
open Ba Re
end En
end Go.Proofs.YtblfimobiibmjabGreat
namespace Go.Proofs.YtblfimobiibmjabGreat
open Go.ChangeShapes Go.WideShapes Go.ChangeAt Go.RowKit
namespace En
open Ba Re
end En
end Go.Proofs.YtblfimobiibmjabGreat
namespace Go.Proofs.YtblfimobiibmjabGreat
open Go.ChangeShapes Go.WideShapes Go.ChangeAt Go.RowKit
namespace En
open Ba Re
end En
end Go.Proofs.YtblfimobiibmjabGreat
namespace Go.Proofs.YtblfimobiibmjabGreat
open Go.ChangeShapes Go.WideShapes Go.ChangeAt Go.RowKit
namespace En
open Ba Re
end En
end Go.Proofs.YtblfimobiibmjabGreat
namespace Go.Proofs.YtblfimobiibmjabGreat
open Go.ChangeShapes Go.WideShapes Go.ChangeAt Go.RowKit
namespace En
open Ba Re
end En
end Go.Proofs.YtblfimobiibmjabGreat
namespace Go.Proofs.YtblfimobiibmjabGreat
open Go.ChangeShapes Go.WideShapes Go.ChangeAt Go.RowKit
namespace Gu
open En Ba
def Chk (l : List Ev) (n a : Int) : Prop :=
 (∃ (i : Nat) (e : Ev), l[i]? = some e ∧ ruleD l i e ≠ 0 ∧ n = ruleD l i e ∧ a = (i : Int) ∧ ∀ j, j < i → ∀ x, l[j]? = some x → ruleD l j x = 0) ∨
 ((∀ j x, l[j]? = some x → ruleD l j x = 0) ∧ (n, a) = if l.getLast?.any serves = true then (4, (l.length : Int)) else (0, 0))
end Gu
end Go.Proofs.YtblfimobiibmjabGreat
