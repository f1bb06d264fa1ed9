/- Package fork: Park's own facts. -/
import Derived.Test.YtdcmlimglajpkaaJh
namespace Go.Proofs.Ytdcmlimglajpkaa
open Go.ChangeShapes Go.WideShapes Go.ChangeAt Go.RowKit
namespace Fk
open Ba Pe _root_.Go.Proofs.Ytdcmlimglajpkaa.Pi Rp

/-- one case waits -/
def pk1 (g : Int) (p : Nat) (c : Ca) (s : List (Option St)) : List (Option St) := match nmB s c.ch with | none => s | some st => s.set c.ch.toNat (some (waitS st c.sd ⟨g, p, c.v⟩))
/-- the cases below k wait -/
def pkS (g : Int) (l : List Ca) (s : List (Option St)) : Nat → List (Option St)
  | 0 => s
  | k + 1 => match l[k]? with | none => pkS g l s k | some c => pk1 g k c (pkS g l s k)
/-- the cases at places wait -/
def pkL (g : Int) (l : List Ca) (s : List (Option St)) (L : List Int) : List (Option St) := L.foldl (fun s p => match l[p.toNat]? with | none => s | some c => pk1 g p.toNat c s) s
theorem pkL_app (g : Int) (l : List Ca) (s : List (Option St)) (L : List Int) (p : Nat) (c : Ca) (h : l[p]? = some c) : pkL g l s (L ++ [(p : Int)]) = pk1 g p c (pkL g l s L) := by
  unfold pkL
  rw [List.foldl_append]
  simp only [List.foldl_cons, List.foldl_nil, Int.toNat_natCast, h]
/-- has the case a channel? -/
def hasC (s : List (Option St)) (l : List Ca) : Nat → Bool := fun i => match l[i]? with | none => false | some c => (nmB s c.ch).isSome
theorem nmB_set {s : List (Option St)} {c d : Int} {st : St} (v : St) (h : nmB s c = some st) : nmB (s.set c.toNat (some v)) d = if d = c then some v else nmB s d := by
  unfold nmB at h ⊢
  split at h
  · cases h
  · rename_i e
    rw [List.length_set]
    by_cases ed : d = c
    · subst ed
      rw [if_neg e, if_pos rfl, List.getElem?_set_self (by omega)]
      rfl
    · rw [if_neg ed]
      split
      · rfl
      · rw [List.getElem?_set_ne (by omega)]
theorem nmB_at {s : List (Option St)} {c : Int} {st : St} (h : nmB s c = some st) : s[c.toNat]? = some (some st) := by
  unfold nmB at h
  split at h
  · cases h
  · cases e : s[c.toNat]? with
    | none => rw [e] at h; cases h
    | some o => rw [e] at h; exact congrArg some h
theorem pk1_none (g : Int) (p : Nat) (c : Ca) (s : List (Option St)) (d : Int) : nmB (pk1 g p c s) d = none ↔ nmB s d = none := by
  unfold pk1
  cases h : nmB s c.ch with
  | none => rfl
  | some st =>
    simp only
    rw [nmB_set _ h]
    by_cases e : d = c.ch
    · subst e
      rw [if_pos rfl, h]
      simp
    · rw [if_neg e]
theorem pkS_none (g : Int) (l : List Ca) (s : List (Option St)) (k : Nat) (d : Int) : nmB (pkS g l s k) d = none ↔ nmB s d = none := by
  induction k with
  | zero => rfl
  | succ k ih =>
    unfold pkS
    cases h : l[k]? with
    | none => exact ih
    | some c => exact (pk1_none g k c _ d).trans ih
theorem pk_ps (g : Int) (l : List Ca) (s : List (Option St)) (k : Nat) : pkL g l s (ps (hasC s l) k) = pkS g l s k := by
  induction k with
  | zero => rfl
  | succ k ih =>
    rw [ps_succ]
    unfold pkS
    cases h : l[k]? with
    | none =>
      have e : hasC s l k = false := by unfold hasC; rw [h]
      rw [e]
      simp only [Bool.false_eq_true, if_false]
      exact ih
    | some c =>
      cases hn : nmB s c.ch with
      | none =>
        have e : hasC s l k = false := by unfold hasC; rw [h]; simp only [hn]; rfl
        rw [e]
        simp only [Bool.false_eq_true, if_false]
        rw [ih]
        unfold pk1
        rw [(pkS_none g l s k c.ch).2 hn]
      | some st =>
        have e : hasC s l k = true := by unfold hasC; rw [h]; simp only [hn]; rfl
        rw [e]
        simp only [if_true]
        rw [pkL_app g l s _ k c h, ih]
/-- no case is ready for g, but for its own waiters -/
structure Iv (g : Int) (l : List Ca) (m : Nat) (s : List (Option St)) : Prop where
  no : ∀ c ∈ l, ∀ st, nmB s c.ch = some st → st.closed = false ∧ room st c.sd = false ∧ ∀ x ∈ own st (!c.sd), x.g = g
  le : ∀ (i : Nat) (st : St), s[i]? = some (some st) → ∀ b, (own st b).length ≤ m
theorem dr_nil {g : Int} {L : List Wt} (h : ∀ x ∈ L, x.g = g) : dr g L = [] := by
  unfold dr
  rw [List.filter_eq_nil_iff]
  intro x hx
  simp [h x hx]
theorem Iv.ok {g : Int} {l : List Ca} {m : Nat} {s : List (Option St)} (h : Iv g l m s) (hg : 0 ≤ g) (hm : m < 1024) {c : Ca} (hc : c ∈ l) {st : St} (hn : nmB s c.ch = some st) (p : Nat) : waitE st c.sd ⟨g, p, c.v⟩ = 0 ∧ waitS st c.sd ⟨g, p, c.v⟩ = if c.sd then { st with snd := st.snd ++ [⟨g, p, c.v⟩] } else { st with rcv := st.rcv ++ [⟨g, p, c.v⟩] } := by
  obtain ⟨h1, h2, h3⟩ := h.no c hc st hn
  have hl := h.le _ _ (nmB_at hn)
  have hr : rdyBut st c.sd g = false := by
    unfold rdyBut
    rw [h1, h2, dr_nil h3]
    rfl
  have ho : okb ⟨g, (p : Int), c.v⟩ = true := (okb_iff _).2 ⟨hg, by simp only; omega⟩
  unfold waitE waitS
  simp only [hr, Bool.false_eq_true, if_false]
  refine ⟨ae_ok ho (by have := hl c.sd; omega), ?_⟩
  have ht := hl true
  have hf := hl false
  unfold own at ht hf
  simp only [if_true, Bool.false_eq_true, if_false] at ht hf
  have e1 : al st.snd ⟨g, (p : Int), c.v⟩ = st.snd ++ [⟨g, (p : Int), c.v⟩] := by
    unfold al
    rw [if_pos ho, if_neg (by omega)]
  have e2 : al st.rcv ⟨g, (p : Int), c.v⟩ = st.rcv ++ [⟨g, (p : Int), c.v⟩] := by
    unfold al
    rw [if_pos ho, if_neg (by omega)]
  rw [e1, e2]
theorem Iv.step {g : Int} {l : List Ca} {m : Nat} {s : List (Option St)} (h : Iv g l m s) (hg : 0 ≤ g) (hm : m < 1024) {c : Ca} (hc : c ∈ l) (p : Nat) : Iv g l (m + 1) (pk1 g p c s) := by
  unfold pk1
  cases hn : nmB s c.ch with
  | none => exact ⟨h.no, fun i st hi b => Nat.le_succ_of_le (h.le i st hi b)⟩
  | some st =>
    simp only
    rw [(h.ok hg hm hc hn p).2]
    constructor
    · intro d hd st' hs
      rw [nmB_set _ hn] at hs
      by_cases e : d.ch = c.ch
      · rw [if_pos e] at hs
        rw [← e] at hn
        obtain ⟨h1, h2, h3⟩ := h.no d hd st hn
        cases hs
        cases hcs : c.sd
        · simp only [Bool.false_eq_true, if_false]
          refine ⟨h1, h2, ?_⟩
          cases hds : d.sd
          · rw [hds] at h3; exact h3
          · rw [hds] at h3
            intro x hx
            rcases List.mem_append.1 hx with q | q
            · exact h3 x q
            · rw [List.mem_singleton] at q; rw [q]
        · simp only [if_true]
          refine ⟨h1, h2, ?_⟩
          cases hds : d.sd
          · rw [hds] at h3
            intro x hx
            rcases List.mem_append.1 hx with q | q
            · exact h3 x q
            · rw [List.mem_singleton] at q; rw [q]
          · rw [hds] at h3; exact h3
      · rw [if_neg e] at hs
        exact h.no d hd st' hs
    · intro i st' hi b
      have hl := h.le _ _ (nmB_at hn)
      by_cases e : i = c.ch.toNat
      · subst e
        have hlt := (List.getElem?_eq_some_iff.1 (nmB_at hn)).1
        rw [List.getElem?_set_self hlt] at hi
        cases hi
        have ht := hl true
        have hf := hl false
        unfold own at ht hf ⊢
        simp only [if_true, Bool.false_eq_true, if_false] at ht hf
        cases c.sd <;> cases b <;> simp <;> omega
      · rw [List.getElem?_set_ne (fun q => e q.symm)] at hi
        exact Nat.le_succ_of_le (h.le i st' hi b)
theorem Iv.all {g : Int} {l : List Ca} {m : Nat} {s : List (Option St)} (h : Iv g l m s) (hg : 0 ≤ g) (k : Nat) (hm : m + k < 1024) : Iv g l (m + k) (pkS g l s k) := by
  induction k with
  | zero => exact h
  | succ k ih =>
    have i1 := ih (by omega)
    unfold pkS
    cases hk : l[k]? with
    | none => exact ⟨i1.no, fun i st hi b => by have := i1.le i st hi b; omega⟩
    | some c => exact i1.step hg (by omega) (List.mem_of_getElem? hk) k
theorem ps_nil {P : Nat → Bool} {n : Nat} (h : ps P n = []) (k : Nat) (hk : k < n) : P k = false := by
  unfold ps at h
  rw [List.map_eq_nil_iff, List.filter_eq_nil_iff] at h
  have := h k (List.mem_range.2 hk)
  simpa using this
theorem Iv.start {g : Int} {l : List Ca} {m : Nat} {s : List (Option St)} (h : rdyL l s = []) (hl : ∀ (i : Nat) (st : St), s[i]? = some (some st) → ∀ b, (own st b).length ≤ m) : Iv g l m s := by
  refine ⟨fun c hc st hn => ?_, hl⟩
  obtain ⟨k, hk⟩ := List.getElem?_of_mem hc
  have hkl := (List.getElem?_eq_some_iff.1 hk).1
  have q := ps_nil h k hkl
  simp only [hk] at q
  unfold crdy at q
  rw [hn] at q
  simp only at q
  unfold rdy at q
  simp only [Bool.or_eq_false_iff, decide_eq_false_iff_not, Nat.not_lt, Nat.le_zero] at q
  refine ⟨q.1.1, q.1.2, fun x hx => ?_⟩
  rw [List.eq_nil_of_length_eq_zero q.2] at hx
  cases hx
/-- what Park answers, and what it leaves -/
def pkBad (g : Int) (l : List Ca) : Bool := decide (g < 0) || decide (4 < l.length)
def pkE (g : Int) (l : List Ca) (s : List (Option St)) : Int := if pkBad g l = true then 1 else if 0 < (rdyL l s).length then 7 else 0
def pkN (g : Int) (l : List Ca) (s : List (Option St)) : Int := if pkBad g l = true then 0 else if 0 < (rdyL l s).length then 0 else ((ps (hasC s l) l.length).length : Int)
def pkA (g : Int) (l : List Ca) (s : List (Option St)) : List (Option St) := if pkBad g l = true then s else if 0 < (rdyL l s).length then s else pkS g l s l.length
end Fk
end Go.Proofs.Ytdcmlimglajpkaa
