/- Layer 18, plain: the first race is found, and none that is none (four goroutines that tell one another what they know). -/
import Derived.Test.YtodppbahihjegaaAq
namespace Go.Proofs.Ytodppbahihjegaa
open Go.ChangeShapes Go.WideShapes Go.ChangeAt Go.RowKit
namespace Ce
open Ck
open Ep (tidOf clkOf ownB)

/-- an access that was made: whose, at which clock, whether it wrote; what was known then -/
structure Ax where
  tid : Nat
  n : Int
  wr : Bool
  V : Nat → Int
/-- its epoch -/
def epx (d : Ax) : Int := ((d.tid : Int) + 1) * 4294967296 + d.n
/-- whether goroutine g knows of it -/
def Kno (C : Nat → Nat → Int) (d : Ax) (g : Nat) : Prop := g = d.tid ∨ d.n ≤ C g d.tid
/-- who knows of e, knows of d -/
def Cov (d e : Ax) : Prop := (d.tid = e.tid ∧ d.n ≤ e.n) ∨ d.n ≤ e.V d.tid

/-- the clocks of four, and what was done -/
structure Fi (C : Nat → Nat → Int) (D : List Ax) (m : Nat) : Prop where
  c0 : ∀ g, g < 4 → ∀ t, t < 256 → 0 ≤ C g t ∧ C g t ≤ (m : Int) + 1
  c1 : ∀ g, g < 4 → 1 ≤ C g g
  cs : ∀ g, g < 4 → ∀ t, t < 4 → g ≠ t → C g t < C t t
  d0 : ∀ d ∈ D, d.tid < 4 ∧ 1 ≤ d.n ∧ d.n ≤ C d.tid d.tid
  d1 : ∀ d ∈ D, ∀ g, g < 4 → Kno C d g → ∀ t, t < 4 → d.V t ≤ C g t
/-- what the cell remembers of it, as long as there was no race -/
structure Fc (D : List Ax) (st : Cst) : Prop where
  l1 : (st.last = 0 ∧ ∀ d ∈ D, d.wr = false) ∨ ∃ W ∈ D, W.wr = true ∧ st.last = epx W ∧ ∀ d ∈ D, d.wr = true → Cov d W
  l2 : ∀ r ∈ st.rd, ∃ e ∈ D, r = epx e
  l3 : ∀ d ∈ D, d.wr = false → (∃ W ∈ D, W.wr = true ∧ st.last = epx W ∧ Cov d W) ∨ ∃ e ∈ D, epx e ∈ st.rd ∧ Cov d e
  tl : st.tl = false
theorem cov_kno {C : Nat → Nat → Int} {D : List Ax} {m : Nat} (f : Fi C D m) {d e : Ax} (hd : d ∈ D) (he : e ∈ D) (c : Cov d e) {g : Nat} (hg : g < 4) (k : Kno C e g) : Kno C d g := by
  rcases c with ⟨c1, c2⟩ | c
  · rcases k with k | k
    · exact .inl (by rw [c1]; exact k)
    · exact .inr (by rw [c1]; omega)
  · have := f.d1 e he g hg k d.tid (f.d0 d hd).1
    exact .inr (by omega)
/-- an access that is made now -/
def nowA (C : Nat → Nat → Int) (g : Nat) (wr : Bool) : Ax := ⟨g, C g g, wr, C g⟩
theorem kno_cov {C : Nat → Nat → Int} {D : List Ax} {m : Nat} (f : Fi C D m) {d : Ax} (hd : d ∈ D) {g : Nat} (k : Kno C d g) (wr : Bool) : Cov d (nowA C g wr) := by
  rcases k with k | k
  · subst k; exact .inl ⟨rfl, (f.d0 d hd).2.2⟩
  · exact .inr k
/-- the law's race -/
def Race (C : Nat → Nat → Int) (D : List Ax) (g : Nat) (wr : Bool) : Prop := ∃ d ∈ D, (d.wr = true ∨ wr = true) ∧ ¬ Kno C d g

theorem epx_own {C : Nat → Nat → Int} {D : List Ax} {m : Nat} (f : Fi C D m) (hm : m ≤ 1000) {d : Ax} (hd : d ∈ D) : ownB (epx d) = true ∧ tidOf (epx d) = (d.tid : Int) ∧ clkOf (epx d) = d.n := by
  obtain ⟨h1, h2, h3⟩ := f.d0 d hd
  have := (f.c0 d.tid h1 d.tid (by omega)).2
  exact pk_own (by omega) (by omega) h2 (by omega)
theorem now_own {C : Nat → Nat → Int} {D : List Ax} {m : Nat} (f : Fi C D m) (hm : m ≤ 1000) {g : Nat} (hg : g < 4) (wr : Bool) : ownB (epx (nowA C g wr)) = true ∧ tidOf (epx (nowA C g wr)) = (g : Int) ∧ clkOf (epx (nowA C g wr)) = C g g := by
  have h1 := f.c1 g hg
  have := (f.c0 g hg g (by omega)).2
  exact pk_own (t := (g : Int)) (c := C g g) (by omega) (by omega) h1 (by omega)
theorem kn_epx {C : Nat → Nat → Int} {D : List Ax} {m : Nat} (f : Fi C D m) (hm : m ≤ 1000) {d : Ax} (hd : d ∈ D) {g : Nat} {L : List Int} (hL : ∀ k, k < 256 → nth L k = C g k) : kn (g : Int) L (epx d) = true ↔ Kno C d g := by
  obtain ⟨h1, h2, h3⟩ := epx_own f hm hd
  have hd4 := (f.d0 d hd).1
  unfold kn
  rw [seen_own h1, h2, h3, gt_nat, hL d.tid (by omega)]
  unfold Kno
  simp only [Bool.or_eq_true, beq_iff_eq, decide_eq_true_eq]
  constructor
  · rintro (h | h)
    · exact .inl (by omega)
    · exact .inr h
  · rintro (h | h)
    · exact .inl (by omega)
    · exact .inr h
theorem kn_epx_no {C : Nat → Nat → Int} {D : List Ax} {m : Nat} (f : Fi C D m) (hm : m ≤ 1000) {d : Ax} (hd : d ∈ D) {g : Nat} {L : List Int} (hL : ∀ k, k < 256 → nth L k = C g k) : kn (g : Int) L (epx d) = false ↔ ¬ Kno C d g := by
  rw [← kn_epx f hm hd hL]; simp
theorem first_read {C : Nat → Nat → Int} {D : List Ax} {m : Nat} {st : Cst} (f : Fi C D m) (c : Fc D st) (hm : m ≤ 1000) {g : Nat} (hg : g < 4) {L : List Int} (hL : ∀ k, k < 256 → nth L k = C g k) : rdR st (epx (nowA C g false)) L ≠ 0 ↔ Race C D g false := by
  unfold rdR
  rw [(now_own f hm hg false).2.1]
  have key : kn (g : Int) L st.last = false ↔ Race C D g false := by
    constructor
    · intro h
      rcases c.l1 with ⟨h0, -⟩ | ⟨W, hW, hwr, hl, -⟩
      · rw [h0, kn_0] at h; cases h
      · rw [hl, kn_epx_no f hm hW hL] at h
        exact ⟨W, hW, .inl hwr, h⟩
    · rintro ⟨d, hd, hdw, hk⟩
      have hdw' : d.wr = true := by simpa using hdw
      rcases c.l1 with ⟨-, h0⟩ | ⟨W, hW, hwr, hl, hc⟩
      · rw [h0 d hd] at hdw'; cases hdw'
      · rw [hl, kn_epx_no f hm hW hL]
        exact fun kw => hk (cov_kno f hd hW (hc d hd hdw') hg kw)
  cases h : kn (g : Int) L st.last
  · simp [← key, h]
  · simp [← key, h]
theorem first_write {C : Nat → Nat → Int} {D : List Ax} {m : Nat} {st : Cst} (f : Fi C D m) (c : Fc D st) (hm : m ≤ 1000) {g : Nat} (hg : g < 4) {L : List Int} (hL : ∀ k, k < 256 → nth L k = C g k) : wrR st (epx (nowA C g true)) L ≠ 0 ↔ Race C D g true := by
  unfold wrR
  rw [(now_own f hm hg true).2.1, c.tl]
  constructor
  · intro h
    cases hk : kn (g : Int) L st.last
    · rcases c.l1 with ⟨h0, -⟩ | ⟨W, hW, hwr, hl, -⟩
      · rw [h0, kn_0] at hk; cases hk
      · rw [hl, kn_epx_no f hm hW hL] at hk
        exact ⟨W, hW, .inl hwr, hk⟩
    · rw [hk] at h
      have ha : (st.rd.any fun x => !kn (g : Int) L x) = true := by
        cases hh : (st.rd.any fun x => !kn (g : Int) L x)
        · rw [hh] at h; simp at h
        · rfl
      obtain ⟨r, hr, hrk⟩ := List.any_eq_true.1 ha
      obtain ⟨e, he, rfl⟩ := c.l2 r hr
      exact ⟨e, he, .inr rfl, (kn_epx_no f hm he hL).1 (by simpa using hrk)⟩
  · rintro ⟨d, hd, -, hk⟩ h
    have hkl : kn (g : Int) L st.last = true := by
      cases hh : kn (g : Int) L st.last
      · rw [hh] at h; simp at h
      · rfl
    have hkr : ∀ r ∈ st.rd, kn (g : Int) L r = true := by
      intro r hr
      cases hh : kn (g : Int) L r
      · have : (st.rd.any fun x => !kn (g : Int) L x) = true := List.any_eq_true.2 ⟨r, hr, by simp [hh]⟩
        rw [hkl, this] at h; simp at h
      · rfl
    have hW : ∀ W ∈ D, st.last = epx W → Cov d W → False := fun W hW hl hc => by
      rw [hl, kn_epx f hm hW hL] at hkl
      exact hk (cov_kno f hd hW hc hg hkl)
    cases hdw : d.wr
    · rcases c.l3 d hd hdw with ⟨W, h1, -, h2, h3⟩ | ⟨e, he, her, hc⟩
      · exact hW W h1 h2 h3
      · exact hk (cov_kno f hd he hc hg ((kn_epx f hm he hL).1 (hkr _ her)))
    · rcases c.l1 with ⟨-, h0⟩ | ⟨W, h1, -, h2, h3⟩
      · rw [h0 d hd] at hdw; cases hdw
      · exact hW W h1 h2 (h3 d hd hdw)
theorem Fi.now {C : Nat → Nat → Int} {D : List Ax} {m : Nat} (f : Fi C D m) {g : Nat} (hg : g < 4) (wr : Bool) : Fi C (D ++ [nowA C g wr]) m := by
  refine ⟨f.c0, f.c1, f.cs, fun d hd => ?_, fun d hd g' hg' k t ht => ?_⟩
  · rcases List.mem_append.1 hd with h | h
    · exact f.d0 d h
    · rw [List.mem_singleton.1 h]; exact ⟨hg, f.c1 g hg, Int.le_refl _⟩
  · rcases List.mem_append.1 hd with h | h
    · exact f.d1 d h g' hg' k t ht
    · rw [List.mem_singleton.1 h] at k ⊢
      rcases k with k | k
      · rw [k]; exact Int.le_refl _
      · by_cases e : g' = g
        · rw [e]; exact Int.le_refl _
        · have := f.cs g' hg' g hg e
          have k' : C g g ≤ C g' g := k
          omega
theorem Fc.read {C : Nat → Nat → Int} {D : List Ax} {m : Nat} {st : Cst} (f : Fi C D m) (c : Fc D st) (hm : m ≤ 1000) {g : Nat} (hg : g < 4) {L : List Int} (hL : ∀ k, k < 256 → nth L k = C g k) : Fc (D ++ [nowA C g false]) (rdS st (epx (nowA C g false)) L) := by
  have ht := (now_own f hm hg false).2.1
  have hmem : ∀ x, x ∈ (rdS st (epx (nowA C g false)) L).rd ↔ x = epx (nowA C g false) ∨ (x ∈ st.rd ∧ kn (g : Int) L x = false) := by
    intro x
    unfold rdS kept
    simp only [ht]
    rw [mem_ins, List.mem_filter]
    simp
  refine ⟨?_, fun r hr => ?_, fun d hd hdw => ?_, c.tl⟩
  · rcases c.l1 with ⟨h0, h1⟩ | ⟨W, hW, h1, h2, h3⟩
    · refine .inl ⟨h0, fun d hd => ?_⟩
      rcases List.mem_append.1 hd with h | h
      · exact h1 d h
      · rw [List.mem_singleton.1 h]; rfl
    · refine .inr ⟨W, List.mem_append_left _ hW, h1, h2, fun d hd hdw => ?_⟩
      rcases List.mem_append.1 hd with h | h
      · exact h3 d h hdw
      · rw [List.mem_singleton.1 h] at hdw; cases hdw
  · rcases (hmem r).1 hr with h | h
    · exact ⟨_, List.mem_append_right _ (List.mem_singleton.2 rfl), h⟩
    · obtain ⟨e, he, hr⟩ := c.l2 r h.1
      exact ⟨e, List.mem_append_left _ he, hr⟩
  · rcases List.mem_append.1 hd with h | h
    · rcases c.l3 d h hdw with ⟨W, h1, h2, h3, h4⟩ | ⟨e, he, her, hc⟩
      · exact .inl ⟨W, List.mem_append_left _ h1, h2, h3, h4⟩
      · cases hk : kn (g : Int) L (epx e)
        · exact .inr ⟨e, List.mem_append_left _ he, (hmem _).2 (.inr ⟨her, hk⟩), hc⟩
        · refine .inr ⟨nowA C g false, List.mem_append_right _ (List.mem_singleton.2 rfl), (hmem _).2 (.inl rfl), ?_⟩
          exact kno_cov f h (cov_kno f h he hc hg ((kn_epx f hm he hL).1 hk)) false
    · rw [List.mem_singleton.1 h]
      exact .inr ⟨nowA C g false, List.mem_append_right _ (List.mem_singleton.2 rfl), (hmem _).2 (.inl rfl), .inl ⟨rfl, Int.le_refl _⟩⟩
theorem Fc.write {C : Nat → Nat → Int} {D : List Ax} {m : Nat} (f : Fi C D m) {g : Nat} (hr : ¬ Race C D g true) : Fc (D ++ [nowA C g true]) (wrS (epx (nowA C g true))) := by
  have hall : ∀ d ∈ D ++ [nowA C g true], Cov d (nowA C g true) := by
    intro d hd
    rcases List.mem_append.1 hd with h | h
    · refine kno_cov f h ?_ true
      cases Classical.em (Kno C d g) with
      | inl k => exact k
      | inr k => exact absurd ⟨d, h, .inr rfl, k⟩ hr
    · rw [List.mem_singleton.1 h]; exact .inl ⟨rfl, Int.le_refl _⟩
  have hin : nowA C g true ∈ D ++ [nowA C g true] := List.mem_append_right _ (List.mem_singleton.2 rfl)
  exact ⟨.inr ⟨_, hin, rfl, rfl, fun d hd _ => hall d hd⟩, by simp [wrS], fun d hd _ => .inl ⟨_, hin, rfl, rfl, hall d hd⟩, rfl⟩
/-- g tells to: the clocks behind it -/
def tellC (C : Nat → Nat → Int) (g to : Nat) : Nat → Nat → Int := fun h t => if h = g ∧ t = g then C g g + 1 else if h = to then max (C to t) (C g t) else C h t
theorem Fi.tell {C : Nat → Nat → Int} {D : List Ax} {m : Nat} (f : Fi C D m) {g to : Nat} (hg : g < 4) (hto : to < 4) : Fi (tellC C g to) D (m + 1) := by
  have le : ∀ h, h < 4 → ∀ t, C h t ≤ tellC C g to h t := by
    intro h _ t
    unfold tellC
    split
    · rename_i q; rw [q.1, q.2]; omega
    · split
      · rename_i q; rw [q]; omega
      · exact Int.le_refl _
  have up : ∀ h, h < 4 → ∀ t, t < 4 → h ≠ t → tellC C g to h t ≤ C t t ∧ (t ≠ g → tellC C g to h t < C t t) := by
    intro h hh t ht hne
    unfold tellC
    rw [if_neg (fun q => hne (q.1.trans q.2.symm))]
    split
    · rename_i q
      subst q
      by_cases e : t = g
      · subst e
        have := f.cs _ hh _ ht hne
        exact ⟨by omega, fun x => absurd rfl x⟩
      · have h1 := f.cs _ hh _ ht hne
        have h2 := f.cs _ hg _ ht (Ne.symm e)
        exact ⟨by omega, fun _ => by omega⟩
    · have := f.cs _ hh _ ht hne
      exact ⟨by omega, fun _ => this⟩
  have own : ∀ t, t < 4 → C t t ≤ tellC C g to t t := fun t ht => le t ht t
  have gg : tellC C g to g g = C g g + 1 := by unfold tellC; rw [if_pos ⟨rfl, rfl⟩]
  refine ⟨fun h hh t ht => ?_, fun h hh => ?_, fun h hh t ht hne => ?_, fun d hd => ?_, fun d hd h hh k t ht => ?_⟩
  · have a1 := f.c0 h hh t ht
    have a2 := f.c0 g hg t ht
    have a3 := f.c0 g hg g (by omega)
    unfold tellC
    split
    · omega
    · split
      · rename_i q; subst q; omega
      · omega
  · have := own h hh; have := f.c1 h hh; omega
  · have h1 := up h hh t ht hne
    have h2 := own t ht
    by_cases e : t = g
    · subst e; rw [gg]; omega
    · have := h1.2 e; omega
  · obtain ⟨h1, h2, h3⟩ := f.d0 d hd
    have := own d.tid h1
    exact ⟨h1, h2, by omega⟩
  · have hd4 := (f.d0 d hd).1
    have h3 := (f.d0 d hd).2.2
    -- whoever knows it now, knew it, or it came from g, who knows it
    have : Kno C d h ∨ (h = to ∧ Kno C d g) := by
      rcases k with k | k
      · exact .inl (.inl k)
      · unfold tellC at k
        split at k
        · rename_i q
          exact .inl (.inl (by rw [q.1]; exact q.2.symm))
        · split at k
          · rename_i q
            by_cases e : d.n ≤ C to d.tid
            · exact .inl (.inr (by rw [q]; exact e))
            · exact .inr ⟨q, .inr (by omega)⟩
          · exact .inl (.inr k)
    rcases this with q | ⟨q, r⟩
    · have := f.d1 d hd h hh q t ht
      have := le h hh t
      omega
    · have h1 := f.d1 d hd g hg r t ht
      subst q
      unfold tellC
      split
      · rename_i q2
        rw [q2.2] at h1 ⊢
        omega
      · rw [if_pos rfl]; omega
theorem Fi.more {C : Nat → Nat → Int} {D : List Ax} {m : Nat} (f : Fi C D m) : Fi C D (m + 1) := ⟨fun g hg t ht => by have := f.c0 g hg t ht; omega, f.c1, f.cs, f.d0, f.d1⟩
/-- at the beginning -/
def C0 : Nat → Nat → Int := fun g t => if g = t ∧ g < 4 then 1 else 0
theorem Fi.zero : Fi C0 [] 0 := by
  refine ⟨fun g _ t _ => ?_, fun g hg => ?_, fun g hg t ht hne => ?_, by simp, by simp⟩
  · unfold C0; split <;> omega
  · unfold C0; rw [if_pos ⟨rfl, hg⟩]; omega
  · unfold C0; rw [if_neg (fun q => hne q.1), if_pos ⟨rfl, ht⟩]; omega
theorem Fc.zero : Fc [] ⟨0, [], false⟩ := ⟨.inl ⟨rfl, by simp⟩, by simp, by simp, rfl⟩
end Ce
end Go.Proofs.Ytodppbahihjegaa
