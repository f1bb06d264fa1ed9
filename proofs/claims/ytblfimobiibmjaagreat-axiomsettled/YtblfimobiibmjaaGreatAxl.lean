import Derived.Test.YtblfimobiibmjaaGreatZjAh19
namespace Go.Proofs.YtblfimobiibmjaaGreat
namespace Ax
open En Gu Eg Mx
theorem held_ok {l : List Ev} (h : Tok l) {p : Nat} (hp : p ∈ heldP l) : p < l.length ∧ live l p = true := by
 unfold heldP at hp
 rw [List.mem_append, List.mem_flatMap, List.mem_flatMap] at hp
 rcases hp with ⟨c, hc, hp⟩ | ⟨g, hg, hp⟩
 ·unfold chP at hp
  rw [List.mem_append, List.mem_append, ← done_cmp h, ← done_cmp h] at hp
  have D : ∀ b, p ∈ (done l (c : Int) b l.length).map (bg l) → p < l.length ∧ live l p = true := by
   intro b q
   obtain ⟨j, hj, rfl⟩ := List.mem_map.1 q
   obtain ⟨e, he, ht⟩ := bg_tells h hj
   exact ⟨lt_get he, (live_at he).2 (fun q => tells_live ht q)⟩
  rcases hp with (hp | hp) | hp
  ·obtain ⟨h1, x, h2, h3, -⟩ := shut_mem.1 hp
   exact ⟨h1, (live_at h2).2 (by omega)⟩
  ·exact D _ (List.mem_of_mem_drop hp)
  ·split at hp
   ·exact D _ (List.mem_of_mem_drop hp)
   ·simp at hp
 ·unfold parkP at hp
  split at hp
  ·rename_i e he
   split at hp
   ·rename_i k
    simp only [List.mem_singleton] at hp
    subst hp
    exact ⟨lt_get he, (live_at he).2 (by omega)⟩
   ·simp at hp
  ·simp at hp
theorem zero_lat {l : List Ev} (h : Tok l) {g : Int} (hx : exF l g l.length = true) : latF l 0 l.length ≠ none := fun q => by
 have := (lat_zero h (Nat.le_refl _) q).2 g
 rw [hx] at this
 cases this
theorem lat_live {l : List Ev} {g : Int} {p : Nat} (q : latF l g l.length = some p) : p < l.length ∧ live l p = true := by
 obtain ⟨h1, e, h2, h3⟩ := lat_lt q
 exact ⟨h1, (live_at h2).2 (by rcases h3 with z | z <;> omega)⟩
theorem liv_some {l : List Ev} (h : Tok l) {g : Int} (hx : exF l g l.length = true) {y : Nat} (hy : y < there l) : ∃ p, latF l (y : Int) l.length = some p ∧ p < l.length ∧ live l p = true := by
 have q : ∃ p, latF l (y : Int) l.length = some p := by
  rcases Nat.eq_zero_or_pos y with z | z
  ·subst z
   cases q : latF l ((0 : Nat) : Int) l.length with
   | none => exact absurd q (zero_lat h hx)
   | some p => exact ⟨p, rfl⟩
  ·exact lat_some h (by omega) (Nat.le_refl _) (by rw [List.take_length]; omega)
 obtain ⟨p, hp⟩ := q
 exact ⟨p, hp, lat_live hp⟩
def setV (A : Nat → Nat → Bool) (l : List Ev) (g : Int) : Int := match setF A l g with
 | some c => (c : Int)
 | none => -1
theorem set_two {A : Nat → Nat → Bool} {l : List Ev} {g : Int} {x y : Nat} (hx : x ∈ knL A l g (there l)) (hy : y ∈ knL A l g (there l)) (hne : x ≠ y) : setF A l g = none := by
 unfold setF
 split
 ·split
  ·rfl
  ·rename_i c cs e
   rw [if_neg]
   intro q
   rw [Bool.and_eq_true, List.all_eq_true] at q
   have all : ∀ z ∈ c :: cs, z = c := by
    intro z hz
    rcases List.mem_cons.1 hz with r | r
    ·exact r
    ·simpa using q.1 z r
   rw [e] at hx hy
   exact hne ((all x hx).trans (all y hy).symm)
 ·rfl
def Al (L : List Nat) (cut : Int) : Prop := (L = [] ∧ cut = -1) ∨ ∃ c : Nat, cut = (c : Int) ∧ L ≠ [] ∧ ∀ x ∈ L, x = c
theorem Al.add {L : List Nat} {cut : Int} (h : Al L cut) {n : Nat} (hn : cut = -1 ∨ cut = (n : Int)) : Al (L ++ [n]) (n : Int) := by
 refine .inr ⟨n, rfl, by simp, fun x hx => ?_⟩
 rw [List.mem_append, List.mem_singleton] at hx
 rcases hx with q | q
 ·rcases h with ⟨h1, -⟩ | ⟨c, h1, -, h2⟩
  ·rw [h1] at q
   cases q
  ·have := h2 x q
   omega
 ·exact q
theorem set_off {A : Nat → Nat → Bool} {l : List Ev} {g : Int} (h : exF l g l.length = false) : setF A l g = none := by
 unfold setF
 rw [if_neg (by rw [h]; decide)]
theorem set_al {A : Nat → Nat → Bool} {l : List Ev} {g : Int} (hx : exF l g l.length = true) {cut : Int} (h : Al (knL A l g (there l)) cut) : setV A l g = if cut = -1 ∨ more A l g cut.toNat = true then -1 else cut := by
 unfold setV setF
 rw [if_pos hx]
 rcases h with ⟨h1, h2⟩ | ⟨c, rfl, h1, h2⟩
 ·rw [h1, if_pos (.inl h2)]
 ·cases e : knL A l g (there l) with
  | nil => exact absurd e h1
  | cons a at_ =>
    rw [e] at h2
    obtain rfl : a = c := h2 a (by simp)
    have al : at_.all (fun x => decide (x = a)) = true := by
     rw [List.all_eq_true]
     intro x hx
     simpa using h2 x (List.mem_cons_of_mem _ hx)
    rw [Int.toNat_natCast]
    cases m : more A l g a
    ·simp [al, m]
    ·simp [al, m]
theorem more_iff {A : Nat → Nat → Bool} {l : List Ev} {g : Int} (h : Tok l) (hx : exF l g l.length = true) (c : Nat) : more A l g c = true ↔ ∃ p ∈ heldR l, c < knF A l p g := by
 unfold more
 rw [List.any_eq_true]
 constructor
 ·rintro ⟨p, h1, h2⟩
  exact ⟨p, (held_same h (zero_lat h hx) p).1 h1, by simpa using h2⟩
 ·rintro ⟨p, h1, h2⟩
  exact ⟨p, (held_same h (zero_lat h hx) p).2 h1, by simpa using h2⟩
theorem heldR_ok {l : List Ev} (h : Tok l) {g : Int} (hx : exF l g l.length = true) {p : Nat} (hp : p ∈ heldR l) : p < l.length ∧ live l p = true := held_ok h ((held_same h (zero_lat h hx) p).2 hp)
theorem fold_min : ∀ (cs : List Nat) (c : Nat), cs.foldl min c ≤ c ∧ ∀ x ∈ cs, cs.foldl min c ≤ x
 | [], c => ⟨Nat.le_refl _, fun x hx => by cases hx⟩
 | a :: at_, c => by
   obtain ⟨h1, h2⟩ := fold_min at_ (min c a)
   refine ⟨Nat.le_trans h1 (Nat.min_le_left _ _), fun x hx => ?_⟩
   rcases List.mem_cons.1 hx with q | q
   ·rw [q]
    exact Nat.le_trans h1 (Nat.min_le_right _ _)
   ·exact h2 x q
theorem fold_max : ∀ (cs : List Nat) (c : Nat), c ≤ cs.foldl max c ∧ ∀ x ∈ cs, x ≤ cs.foldl max c
 | [], c => ⟨Nat.le_refl _, fun x hx => by cases hx⟩
 | a :: at_, c => by
   obtain ⟨h1, h2⟩ := fold_max at_ (max c a)
   refine ⟨Nat.le_trans (Nat.le_max_left _ _) h1, fun x hx => ?_⟩
   rcases List.mem_cons.1 hx with q | q
   ·rw [q]
    exact Nat.le_trans (Nat.le_max_right _ _) h1
   ·exact h2 x q
theorem fold_same {f : Nat → Nat → Nat} (hf : ∀ x, f x x = x) (c : Nat) : ∀ (cs : List Nat), (∀ x ∈ cs, x = c) → cs.foldl f c = c
 | [], _ => rfl
 | a :: at_, h => by
   have : a = c := h a (by simp)
   rw [List.foldl_cons, this, hf]
   exact fold_same hf c at_ fun x hx => h x (List.mem_cons_of_mem _ hx)
theorem all_fold (c : Nat) (cs : List Nat) : cs.all (fun x => decide (x = c)) = decide (cs.foldl min c = cs.foldl max c) := by
 rw [Bool.eq_iff_iff, List.all_eq_true, decide_eq_true_eq]
 constructor
 ·intro h
  have h' : ∀ x ∈ cs, x = c := fun x hx => by simpa using h x hx
  rw [fold_same Nat.min_self c cs h', fold_same Nat.max_self c cs h']
 ·intro h x hx
  have a := fold_min cs c
  have b := fold_max cs c
  have := a.2 x hx
  have := b.2 x hx
  simp
  omega
theorem set_prog {A : Nat → Nat → Bool} {l : List Ev} {g : Int} (hx : exF l g l.length = true) : setF A l g = match knL A l g (there l) with
 | [] => none
 | c :: cs => if cs.foldl min c = cs.foldl max c ∧ more A l g c = false then some c else none := by
 unfold setF
 rw [if_pos hx]
 cases knL A l g (there l) with
 | nil => rfl
 | cons c cs =>
   simp only
   rw [all_fold]
   by_cases q : cs.foldl min c = cs.foldl max c
   ·cases m : more A l g c <;> simp [q]
   ·simp [q]
theorem kn_len (A : Nat → Nat → Bool) (l : List Ev) (g : Int) (n : Nat) : (knL A l g n).length ≤ n := by
 unfold knL livesL
 rw [List.length_map]
 exact Nat.le_trans (List.length_filter_le _ _) (by simp)
end Ax
end Go.Proofs.YtblfimobiibmjaaGreat
