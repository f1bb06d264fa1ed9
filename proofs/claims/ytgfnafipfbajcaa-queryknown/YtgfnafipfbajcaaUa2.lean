/- What becomes of a table (plain). -/
import Derived.Test.YtgfnafipfbajcaaUa1
namespace Go.Proofs.Ytgfnafipfbajcaa
open Go.ChangeShapes Go.WideShapes Go.ChangeAt Go.RowKit
namespace Rk
open Ba

def nb (g t f : Int) : Rd := ⟨g, t, f, false, 0, 0⟩
/-- it lives: it is as it was at first -/
def lv (x : Rd) : Bool := !x.b && x.l == 0 && x.c == 0
/-- who is not gone has no place where it went, and no cut -/
def Ok (x : Rd) : Prop := x.b = false → x.l = 0 ∧ x.c = 0
theorem lv_ok {x : Rd} (h : Ok x) : lv x = !x.b := by
  unfold lv
  cases hb : x.b
  · have := h hb
    simp [this.1, this.2]
  · simp
/-- the record stays at a place -/
def st (x : Rd) (at_ : Int) : Bool := lv x || decide (at_ < x.l)
def isT (n : Int) : Bool := decide (0 ≤ n) && decide (n < 256)
/-- is there a record of g? -/
def hs (l : List Rd) (g : Int) : Bool := l.any fun x => x.g == g
/-- has somebody the tid? -/
def tkn (l : List Rd) (t a : Int) : Bool := l.any fun x => x.t == t && st x a
def bdN (g t a : Int) : Bool := decide (g < 0) || !isT t || decide (a < -1)
def bnE (l : List Rd) (g t a : Int) : Int := if bdN g t a then 1 else if hs l g || tkn l t a then 7 else 0
/-- where g's stands, or is to stand -/
def ps (l : List Rd) (g : Int) : Nat := (l.takeWhile fun x => decide (x.g < g)).length
def insL (l : List Rd) (i : Nat) (e : Rd) : List Rd := l.take i ++ e :: l.drop i
def bnL (l : List Rd) (g t a : Int) : List Rd := if bdN g t a then l else if hs l g || tkn l t a then l else insL l (ps l g) (nb g t a)
def gnN (a c : Int) : Bool := decide (a < -1) || decide (c < 0) || decide (1048576 < c)
def fd (l : List Rd) (g : Int) : Option Rd := l.find? fun x => x.g == g
def gn1 (x : Rd) (a c : Int) : Rd := ⟨x.g, x.t, x.f, true, a, c⟩
def gnE (l : List Rd) (g a c : Int) : Int := if gnN a c then 1 else match fd l g with
  | none => 6
  | some x => if !lv x || decide (a < x.f) then 7 else 0
def gnL (l : List Rd) (g a c : Int) : List Rd := if gnN a c then l else match fd l g with
  | none => l
  | some x => if !lv x || decide (a < x.f) then l else l.set (ps l g) (gn1 x a c)
/-- has it the tid behind a place? -/
def hsT (x : Rd) (t a : Int) : Bool := x.t == t && (decide (x.f ≤ a) && st x a)
def ow1 (l : List Rd) (t a : Int) : Option Rd := l.find? fun x => hsT x t a
def owG (o : Option Rd) : Int := match o with
  | some x => x.g
  | none => 0
def zr : Rd := ⟨0, 0, 0, false, 0, 0⟩

/-- by their goroutines -/
def Srt (l : List Rd) : Prop := ∀ (i j : Nat) (x y : Rd), i < j → l[i]? = some x → l[j]? = some y → x.g < y.g
theorem Srt.ne {l : List Rd} (h : Srt l) {i j : Nat} {x y : Rd} (hx : l[i]? = some x) (hy : l[j]? = some y) (e : x.g = y.g) : i = j := by
  rcases Nat.lt_trichotomy i j with q | q | q
  · have := h i j x y q hx hy; omega
  · exact q
  · have := h j i y x q hy hx; omega
theorem ps_is {g : Int} : ∀ {l : List Rd} {i : Nat}, i ≤ l.length → (∀ k x, k < i → l[k]? = some x → x.g < g) → (∀ x, l[i]? = some x → g ≤ x.g) → ps l g = i
  | [], i, h, _, _ => by simp at h; simp [ps, h]
  | x :: r, 0, _, _, h => by
    have := h x (by simp)
    simp [ps, show ¬ x.g < g by omega]
  | x :: r, i + 1, hl, h1, h2 => by
    have hx := h1 0 x (by omega) (by simp)
    have ih := ps_is (g := g) (l := r) (i := i) (by simpa using hl) (fun k y hk hy => h1 (k + 1) y (by omega) (by simpa using hy)) (fun y hy => h2 y (by simpa using hy))
    unfold ps at ih ⊢
    rw [List.takeWhile_cons, if_pos (by simpa using hx), List.length_cons, ih]
theorem ps_le (l : List Rd) (g : Int) : ps l g ≤ l.length := by
  unfold ps
  exact (List.takeWhile_sublist _).length_le
theorem ps_lt {l : List Rd} {g : Int} {k : Nat} {x : Rd} (hk : k < ps l g) (hx : l[k]? = some x) : x.g < g := by
  have hm : x ∈ l.takeWhile fun x => decide (x.g < g) := by
    have : (l.takeWhile fun x => decide (x.g < g)) = l.take (ps l g) := by
      unfold ps
      exact List.prefix_iff_eq_take.1 (List.takeWhile_prefix _)
    rw [this]
    refine List.mem_of_getElem? (i := k) ?_
    rw [List.getElem?_take, if_pos hk, hx]
  have hall : ∀ (m : List Rd), x ∈ m.takeWhile (fun x => decide (x.g < g)) → x.g < g := by
    intro m
    induction m with
    | nil => intro h; simp at h
    | cons y m ih =>
      intro h
      rw [List.takeWhile_cons] at h
      split at h
      · rcases List.mem_cons.1 h with q | q
        · subst q; simpa using ‹decide (x.g < g) = true›
        · exact ih q
      · simp at h
  exact hall l hm
theorem ps_at {l : List Rd} {g : Int} {x : Rd} (hx : l[ps l g]? = some x) : g ≤ x.g := by
  have key : ∀ (m : List Rd), m[(m.takeWhile fun x => decide (x.g < g)).length]? = some x → g ≤ x.g := by
    intro m
    induction m with
    | nil => intro h; simp at h
    | cons y m ih =>
      intro h
      rw [List.takeWhile_cons] at h
      split at h
      · exact ih (by simpa using h)
      · simp at h
        subst h
        rename_i q
        simp at q
        exact q
  exact key l hx
theorem hs_iff {l : List Rd} {g : Int} : hs l g = true ↔ ∃ (k : Nat) (x : Rd), l[k]? = some x ∧ x.g = g := by
  unfold hs
  rw [List.any_eq_true]
  constructor
  · rintro ⟨x, hx, e⟩
    obtain ⟨k, hk, rfl⟩ := List.getElem_of_mem hx
    exact ⟨k, _, List.getElem?_eq_getElem hk, by simpa using e⟩
  · rintro ⟨k, x, hx, e⟩
    exact ⟨x, List.mem_of_getElem? hx, by simpa using e⟩
theorem Srt.pos {l : List Rd} (h : Srt l) {k : Nat} {x : Rd} (hx : l[k]? = some x) : ps l x.g = k :=
  ps_is (Nat.le_of_lt (List.getElem?_eq_some_iff.1 hx).1) (fun j y hj hy => h j k y x hj hy hx) (fun y hy => by rw [hx] at hy; cases hy; exact Int.le_refl _)
theorem Srt.fd {l : List Rd} (h : Srt l) {k : Nat} {x : Rd} (hx : l[k]? = some x) : fd l x.g = some x := by
  unfold Rk.fd
  cases hf : l.find? fun y => y.g == x.g with
  | none =>
    rw [List.find?_eq_none] at hf
    have := hf x (List.mem_of_getElem? hx)
    simp at this
  | some y =>
    have h1 := List.find?_some hf
    have h2 := List.mem_of_find?_eq_some hf
    obtain ⟨j, hj, rfl⟩ := List.getElem_of_mem h2
    have hy : l[j]? = some l[j] := List.getElem?_eq_getElem hj
    have := h.ne hy hx (by simpa using h1)
    subst this
    rw [hx] at hy
    exact hy.symm
theorem fd_none {l : List Rd} {g : Int} (h : hs l g = false) : fd l g = none := by
  unfold fd
  rw [List.find?_eq_none]
  intro x hx
  unfold hs at h
  rw [List.any_eq_false] at h
  simpa using h x hx
theorem Srt.some {l : List Rd} (h : Srt l) {g : Int} (hg : hs l g = true) : ∃ (x : Rd), l[ps l g]? = Option.some x ∧ x.g = g ∧ Rk.fd l g = Option.some x := by
  obtain ⟨k, x, hx, rfl⟩ := hs_iff.1 hg
  rw [h.pos hx]
  exact ⟨x, hx, rfl, h.fd hx⟩
theorem ins_len (l : List Rd) (i : Nat) (e : Rd) (h : i ≤ l.length) : (insL l i e).length = l.length + 1 := by simp [insL]; omega
theorem ins_lt (l : List Rd) (i k : Nat) (e : Rd) (h : i ≤ l.length) (hk : k < i) : (insL l i e)[k]? = l[k]? := by
  unfold insL
  rw [List.getElem?_append_left (by simp; omega), List.getElem?_take, if_pos hk]
theorem ins_at (l : List Rd) (i : Nat) (e : Rd) (h : i ≤ l.length) : (insL l i e)[i]? = some e := by
  unfold insL
  rw [List.getElem?_append_right (by simp; omega)]
  have : i - (List.take i l).length = 0 := by simp; omega
  rw [this]; rfl
theorem ins_gt (l : List Rd) (i k : Nat) (e : Rd) (h : i ≤ l.length) (hk : i < k) : (insL l i e)[k]? = l[k - 1]? := by
  unfold insL
  rw [List.getElem?_append_right (by simp; omega)]
  obtain ⟨d, rfl⟩ : ∃ d, k = i + 1 + d := ⟨k - (i + 1), by omega⟩
  have : i + 1 + d - (List.take i l).length = d + 1 := by simp; omega
  rw [this, List.getElem?_cons_succ, List.getElem?_drop]
  congr 1
  omega
theorem Srt.ins {l : List Rd} (h : Srt l) {e : Rd} (hn : hs l e.g = false) : Srt (insL l (ps l e.g) e) := by
  have hp := ps_le l e.g
  have hlt : ∀ k x, k < ps l e.g → l[k]? = Option.some x → x.g < e.g := fun k x hk hx => ps_lt hk hx
  have hge : ∀ k x, ps l e.g ≤ k → l[k]? = Option.some x → e.g < x.g := by
    intro k x hk hx
    have hne : x.g ≠ e.g := fun q => by
      have : hs l e.g = true := hs_iff.2 ⟨k, x, hx, q⟩
      rw [hn] at this; cases this
    have hk2 := (List.getElem?_eq_some_iff.1 hx).1
    obtain ⟨y, hy⟩ : ∃ y, l[ps l e.g]? = Option.some y := ⟨_, List.getElem?_eq_getElem (by omega)⟩
    have h1 := ps_at hy
    rcases Nat.lt_or_ge (ps l e.g) k with q | q
    · have := h _ k y x q hy hx; omega
    · obtain rfl : k = ps l e.g := by omega
      rw [hx] at hy; cases hy
      omega
  intro i j x y hij hx hy
  rcases Nat.lt_trichotomy i (ps l e.g) with q | q | q
  · rw [ins_lt l _ i e hp q] at hx
    rcases Nat.lt_trichotomy j (ps l e.g) with r | r | r
    · rw [ins_lt l _ j e hp r] at hy
      exact h i j x y hij hx hy
    · rw [r, ins_at l _ e hp] at hy; cases hy
      exact hlt i x q hx
    · rw [ins_gt l _ j e hp r] at hy
      have := hlt i x q hx
      have := hge (j - 1) y (by omega) hy
      omega
  · rw [q, ins_at l _ e hp] at hx; cases hx
    rw [ins_gt l _ j e hp (by omega)] at hy
    exact hge (j - 1) y (by omega) hy
  · rw [ins_gt l _ i e hp q] at hx
    rw [ins_gt l _ j e hp (by omega)] at hy
    exact h (i - 1) (j - 1) x y (by omega) hx hy
theorem Srt.set {l : List Rd} (h : Srt l) {k : Nat} {x y : Rd} (hx : l[k]? = Option.some x) (e : y.g = x.g) : Srt (l.set k y) := by
  have key : ∀ (i : Nat) (z : Rd), (l.set k y)[i]? = Option.some z → ∃ z' : Rd, l[i]? = Option.some z' ∧ z'.g = z.g := by
    intro i z hz
    by_cases hi : i = k
    · subst hi
      rw [List.getElem?_set_self (List.getElem?_eq_some_iff.1 hx).1] at hz
      cases hz
      exact ⟨x, hx, e.symm⟩
    · rw [List.getElem?_set_ne (Ne.symm hi)] at hz
      exact ⟨z, hz, rfl⟩
  intro i j a b hij ha hb
  obtain ⟨a', ha', ea⟩ := key i a ha
  obtain ⟨b', hb', eb⟩ := key j b hb
  have := h i j a' b' hij ha' hb'
  omega
/-- a table that stands -/
structure Gd (l : List Rd) : Prop where
  srt : Srt l
  ok : ∀ x ∈ l, Ok x
theorem Gd.one : Gd [nb 0 0 (-1)] := by
  refine ⟨fun i j x y hij hx hy => ?_, fun x hx => ?_⟩
  · have := (List.getElem?_eq_some_iff.1 hy).1
    simp at this
    omega
  · rw [List.mem_singleton] at hx
    subst hx
    exact fun _ => ⟨rfl, rfl⟩
theorem mem_ins {l : List Rd} {i : Nat} {e x : Rd} : x ∈ insL l i e ↔ x = e ∨ x ∈ l := by
  unfold insL
  rw [List.mem_append, List.mem_cons]
  constructor
  · rintro (q | q | q)
    · exact .inr (List.mem_of_mem_take q)
    · exact .inl q
    · exact .inr (List.mem_of_mem_drop q)
  · rintro (q | q)
    · exact .inr (.inl q)
    · have : x ∈ l.take i ++ l.drop i := by rw [List.take_append_drop]; exact q
      rcases List.mem_append.1 this with r | r
      · exact .inl r
      · exact .inr (.inr r)
theorem Gd.born {l : List Rd} (h : Gd l) (g t a : Int) : Gd (bnL l g t a) := by
  unfold bnL
  split
  · exact h
  · split
    · exact h
    · rename_i q
      simp at q
      refine ⟨h.srt.ins (e := nb g t a) q.1, fun x hx => ?_⟩
      rcases mem_ins.1 hx with r | r
      · subst r; exact fun _ => ⟨rfl, rfl⟩
      · exact h.ok x r
theorem fd_some {l : List Rd} (h : Srt l) {g : Int} {x : Rd} (hf : fd l g = some x) : l[ps l g]? = some x ∧ x.g = g := by
  cases hg : hs l g
  · rw [fd_none hg] at hf; cases hf
  · obtain ⟨y, h1, h2, h3⟩ := h.some hg
    rw [hf] at h3; cases h3
    exact ⟨h1, h2⟩
theorem Gd.gone {l : List Rd} (h : Gd l) (g a c : Int) : Gd (gnL l g a c) := by
  unfold gnL
  split
  · exact h
  · split
    · exact h
    · rename_i x hf
      split
      · exact h
      · obtain ⟨h1, h2⟩ := fd_some h.srt hf
        refine ⟨h.srt.set (y := gn1 x a c) h1 rfl, fun y hy => ?_⟩
        rcases List.mem_or_eq_of_mem_set hy with q | q
        · exact h.ok y q
        · subst q; intro hb; cases hb
theorem len_born (l : List Rd) (g t a : Int) : (bnL l g t a).length ≤ l.length + 1 := by
  unfold bnL
  split
  · omega
  · split
    · omega
    · rw [ins_len _ _ _ (ps_le _ _)]; exact Nat.le_refl _
theorem len_gone (l : List Rd) (g a c : Int) : (gnL l g a c).length = l.length := by
  unfold gnL
  split
  · rfl
  · split
    · rfl
    · split
      · rfl
      · rw [List.length_set]
end Rk
end Go.Proofs.Ytgfnafipfbajcaa
