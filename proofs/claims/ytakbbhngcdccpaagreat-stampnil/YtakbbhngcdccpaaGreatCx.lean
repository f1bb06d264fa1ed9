/- Many clocks in one memory beside blocks X that they leave alone: what each call does to one of them, over this seat's program. -/
import Derived.Test.YtakbbhngcdccpaaGreatRz
namespace Go.Proofs.YtakbbhngcdccpaaGreat
open Go.ChangeShapes Go.WideShapes Go.ChangeAt Go.RowKit
namespace Ck

/-- the blocks of X are as they were -/
structure Kp (X : Nat → Prop) (w w' : World) : Prop where
  os : w'.os = w.os
  tape : w'.tape = w.tape
  output : w'.output = w.output
  size : w.heap.size ≤ w'.heap.size
  block : ∀ k, X k → w'.heap[k]? = w.heap[k]?
theorem Kp.refl (X : Nat → Prop) (w : World) : Kp X w w := ⟨rfl, rfl, rfl, Nat.le_refl _, fun _ _ => rfl⟩
theorem Kp.trans {X : Nat → Prop} {a b c : World} (h : Kp X a b) (k : Kp X b c) : Kp X a c :=
  ⟨k.os.trans h.os, k.tape.trans h.tape, k.output.trans h.output, Nat.le_trans h.size k.size, fun j hj => (k.block j hj).trans (h.block j hj)⟩
theorem Fr.kp {Y X : Nat → Prop} {w w' : World} (h : Fr Y w w') (hX : ∀ k, X k → k < w.heap.size) (hY : ∀ k, Y k → ¬ X k) : Kp X w w' :=
  ⟨h.os, h.tape, h.output, h.size, fun k hk => h.block k (hX k hk) (fun y => hY k y hk)⟩

/-- all clocks f lie in w, in no block of X, none writes what another lies in -/
structure Sx (X : Nat → Prop) (w : World) (f : Nat → Option C) : Prop where
  rep : ∀ i c, f i = some c → ∃ cap, Rep w c.b c.l c.s c.g cap
  ok : ∀ i c, f i = some c → Canon c.l ∧ Valid c.l ∧ ¬ X c.b ∧ ∀ x, c.g = some x → ¬ X x
  apart : ∀ i j c d, i ≠ j → f i = some c → f j = some d → Apart c.b c.s c.g d.b d.g
  base : ∀ k, X k → k < w.heap.size

theorem Sx.below {X : Nat → Prop} {w w' : World} {f : Nat → Option C} (h : Sx X w f) (hb : Below w.heap.size w w') : Sx X w' f :=
  ⟨fun i c hc => by obtain ⟨cap, r⟩ := h.rep i c hc; exact ⟨cap, r.below hb⟩, h.ok, h.apart, fun k hk => Nat.lt_of_lt_of_le (h.base k hk) hb.size⟩

/-- one clock is changed, by itself -/
theorem Sx.change {X : Nat → Prop} {w w' : World} {f : Nat → Option C} (h : Sx X w f) {i : Nat} {c : C} (hi : f i = some c) {l' : List Int} {s' : Bool} {g' : Option Nat} {cap' : Nat}
    (r : Rep w' c.b l' s' g' cap') (hc : Canon l') (hv : Valid l') (nx : Nx w c.s c.g s' g') (fr : Fr (Mine c.b c.s c.g) w w') : Sx X w' (upd f i ⟨c.b, l', s', g'⟩) ∧ Kp X w w' := by
  have hok := h.ok i c hi
  have hbl : Kp X w w' := fr.kp h.base (fun k hk hx => by
    rcases hk with rfl | ⟨_, hk⟩
    · exact hok.2.2.1 hx
    · exact hok.2.2.2 k hk hx)
  refine ⟨⟨fun j d hd => ?_, fun j d hd => ?_, fun j k d e hjk hd he => ?_, fun k hk => Nat.lt_of_lt_of_le (h.base k hk) fr.size⟩, hbl⟩
  · by_cases e : j = i
    · subst e; rw [upd_same] at hd; simp at hd; subst hd; exact ⟨cap', r⟩
    · rw [upd_other _ _ _ _ e] at hd
      obtain ⟨cap, rd⟩ := h.rep j d hd
      exact ⟨cap, rd.fr fr (h.apart i j c d (Ne.symm e) hi hd)⟩
  · by_cases e : j = i
    · subst e; rw [upd_same] at hd; simp at hd; subst hd
      refine ⟨hc, hv, hok.2.2.1, fun x hx => ?_⟩
      rcases nx with ⟨_, e⟩ | ⟨_, y, hy, hle⟩
      · exact hok.2.2.2 x (e ▸ hx)
      · have hx' : g' = some x := hx
        rw [hy] at hx'; simp at hx'; intro q; have := h.base x q; omega
    · rw [upd_other _ _ _ _ e] at hd
      exact h.ok j d hd
  · by_cases ej : j = i
    · subst ej
      rw [upd_same] at hd; simp at hd; subst hd
      rw [upd_other _ _ _ _ (Ne.symm hjk)] at he
      obtain ⟨cap, re⟩ := h.rep k e he
      exact (h.apart j k c e hjk hi he).next nx re.lt (fun x hx => re.glt hx)
    · rw [upd_other _ _ _ _ ej] at hd
      by_cases ek : k = i
      · subst ek
        rw [upd_same] at he; simp at he; subst he
        have ap := h.apart j k d c hjk hd hi
        obtain ⟨cap, rd⟩ := h.rep j d hd
        refine ⟨ap.1, fun q => ?_, fun hs x hx => ⟨(ap.2.2 hs x hx).1, fun q => ?_⟩⟩
        · rcases nx with ⟨_, e⟩ | ⟨_, y, hy, hle⟩
          · exact ap.2.1 (e ▸ q)
          · have q' : g' = some d.b := q
            rw [hy] at q'; simp at q'; have := rd.lt; omega
        · rcases nx with ⟨_, e⟩ | ⟨_, y, hy, hle⟩
          · exact (ap.2.2 hs x hx).2 (e ▸ q)
          · have q' : g' = some x := q
            rw [hy] at q'; simp at q'; have := rd.glt hx; omega
      · rw [upd_other _ _ _ _ ek] at he
        exact h.apart j k d e hjk hd he

/-- the clocks as the laws see them: blocks and numbers -/
def Cx (X : Nat → Prop) (w : World) (h : Nat → Option (Nat × List Int)) : Prop := ∃ f, Sx X w f ∧ ∀ i, h i = (f i).map fun c => (c.b, c.l)

theorem Cx.empty (X : Nat → Prop) (w : World) (hB : ∀ k, X k → k < w.heap.size) : Cx X w (fun _ => none) :=
  ⟨fun _ => none, ⟨fun _ _ q => by simp at q, fun _ _ q => by simp at q, fun _ _ _ _ _ q => by simp at q, hB⟩, fun _ => rfl⟩
theorem Cx.below {X : Nat → Prop} {w w' : World} {h : Nat → Option (Nat × List Int)} (hs : Cx X w h) (hb : Below w.heap.size w w') : Cx X w' h := by
  obtain ⟨f, st, hf⟩ := hs
  exact ⟨f, st.below hb, hf⟩
theorem Cx.get {X : Nat → Prop} {w : World} {h : Nat → Option (Nat × List Int)} (hs : Cx X w h) {i b : Nat} {l : List Int} (hi : h i = some (b, l)) : CK w b l ∧ Canon l ∧ Valid l := by
  obtain ⟨f, st, hf⟩ := hs
  rw [hf i] at hi
  cases hc : f i with
  | none => rw [hc] at hi; simp at hi
  | some c =>
    rw [hc] at hi; simp at hi
    obtain ⟨rfl, rfl⟩ := hi
    obtain ⟨cap, r⟩ := st.rep i c hc
    exact ⟨r.ck, (st.ok i c hc).1, (st.ok i c hc).2.1⟩
theorem Cx.base {X : Nat → Prop} {w : World} {h : Nat → Option (Nat × List Int)} (hs : Cx X w h) : ∀ k, X k → k < w.heap.size := by
  obtain ⟨f, st, hf⟩ := hs
  exact st.base

theorem map_updx (f : Nat → Option C) (h : Nat → Option (Nat × List Int)) (hf : ∀ i, h i = (f i).map fun c => (c.b, c.l)) (i : Nat) (c : C) : ∀ j, upd h i (c.b, c.l) j = (upd f i c j).map fun c => (c.b, c.l) := by
  intro j
  by_cases e : j = i
  · subst e; rw [upd_same, upd_same]; rfl
  · rw [upd_other _ _ _ _ e, upd_other _ _ _ _ e]; exact hf j

/-- a new clock, of its own -/
theorem Cx.fresh {X : Nat → Prop} {w w' : World} {h : Nat → Option (Nat × List Int)} (hs : Cx X w h) {l : List Int} {A : Nat} {g : Option Nat} {cap : Nat} (r : Rep w' A l false g cap) (hA : w.heap.size ≤ A) (hg : ∀ x, g = some x → w.heap.size ≤ x) (hb : Below w.heap.size w w') (hc : Canon l) (hv : Valid l) (i : Nat) : Cx X w' (upd h i (A, l)) := by
  obtain ⟨f, st, hf⟩ := hs
  have st' := st.below hb
  have hbase := st.base
  refine ⟨upd f i ⟨A, l, false, g⟩, ⟨fun j d hd => ?_, fun j d hd => ?_, fun j k d e hjk hd he => ?_, st'.base⟩, map_updx f h hf i ⟨A, l, false, g⟩⟩
  · by_cases e : j = i
    · subst e; rw [upd_same] at hd; simp at hd; subst hd; exact ⟨cap, r⟩
    · rw [upd_other _ _ _ _ e] at hd; exact st'.rep j d hd
  · by_cases e : j = i
    · subst e; rw [upd_same] at hd; simp at hd; subst hd; exact ⟨hc, hv, fun q => by have := hbase A q; omega, fun x hx q => by have := hg x hx; have := hbase x q; omega⟩
    · rw [upd_other _ _ _ _ e] at hd; exact st.ok j d hd
  · by_cases ej : j = i
    · subst ej
      rw [upd_same] at hd; simp at hd; subst hd
      rw [upd_other _ _ _ _ (Ne.symm hjk)] at he
      obtain ⟨c1, re⟩ := st.rep k e he
      have := re.lt
      refine ⟨by show e.b ≠ A; omega, fun q => ?_, fun _ x hx => ⟨by have := hg x hx; omega, fun q => ?_⟩⟩
      · have := re.glt q; have : A < w.heap.size := this; omega
      · have := re.glt q; have := hg x hx; omega
    · rw [upd_other _ _ _ _ ej] at hd
      by_cases ek : k = i
      · subst ek
        rw [upd_same] at he; simp at he; subst he
        obtain ⟨c1, rd⟩ := st.rep j d hd
        have := rd.lt
        refine ⟨by show A ≠ d.b; omega, fun q => by have := hg _ q; omega, fun _ x hx => ⟨by have := rd.glt hx; show x ≠ A; omega, fun q => by have := rd.glt hx; have := hg _ q; omega⟩⟩
      · rw [upd_other _ _ _ _ ek] at he
        exact st.apart j k d e hjk hd he

/-- Join of any two of them -/
theorem cx_join {X : Nat → Prop} {w : World} {h : Nat → Option (Nat × List Int)} (hs : Cx X w h) {i j b b2 : Nat} {l m : List Int} (hi : h i = some (b, l)) (hj : h j = some (b2, m)) :
    Calls Tryz.prog 101 #[.pointer (some ⟨b, 0, none⟩), .pointer (some ⟨b2, 0, none⟩)] w fun r w' => r = .returned (.bool (!within m l)) ∧ Cx X w' (upd h i (b, jn l m)) ∧ Kp X w w' := by
  have ki := hs.get hi
  have kj := hs.get hj
  by_cases e : i = j
  · subst e
    rw [hi] at hj
    simp at hj
    obtain ⟨rfl, rfl⟩ := hj
    rw [within_refl, jn_within ki.2.2 ki.2.2 ki.2.1 ki.2.1 (within_refl l), upd_id hi]
    refine (join_self b l w ki.1).mono ?_
    rintro r w' ⟨rfl, rfl⟩
    exact ⟨rfl, hs, Kp.refl _ _⟩
  · obtain ⟨f, st, hf⟩ := hs
    rw [hf i] at hi
    rw [hf j] at hj
    cases hc : f i with
    | none => rw [hc] at hi; simp at hi
    | some c =>
      cases hd : f j with
      | none => rw [hd] at hj; simp at hj
      | some d =>
        rw [hc] at hi; simp at hi
        rw [hd] at hj; simp at hj
        obtain ⟨rfl, rfl⟩ := hi
        obtain ⟨rfl, rfl⟩ := hj
        obtain ⟨cap, r1⟩ := st.rep i c hc
        obtain ⟨cap2, r2⟩ := st.rep j d hd
        refine (join_any c.b d.b c.l d.l c.s d.s c.g d.g cap cap2 w r1 r2 (st.apart i j c d e hc hd)).mono ?_
        rintro r w' ⟨x, rfl, hjr⟩
        obtain ⟨rfl, s', g', cap', r', nx, fr⟩ := hjr.done ki.2.2 kj.2.2 ki.2.1 kj.2.1
        obtain ⟨st', hb⟩ := st.change hc r' (canon_jn ki.2.2 kj.2.2 ki.2.1 kj.2.1) (valid_jn ki.2.2 kj.2.2) nx fr
        exact ⟨rfl, ⟨_, st', map_updx f h hf i ⟨c.b, jn c.l d.l, s', g'⟩⟩, hb⟩

/-- a change of one number of one of them -/
theorem cx_putted {X : Nat → Prop} {w w' : World} {f : Nat → Option C} {h : Nat → Option (Nat × List Int)} (st : Sx X w f) (hf : ∀ i, h i = (f i).map fun c => (c.b, c.l)) {i : Nat} {c : C} (hc : f i = some c) {t : Nat} {n : Int} (hn : okN n = true)
    (hp : Putted w c.b c.l c.s c.g t n w') : ∃ l', Canon l' ∧ Valid l' ∧ (∀ j, nth l' j = if j = t then n else nth c.l j) ∧ Cx X w' (upd h i (c.b, l')) ∧ Kp X w w' := by
  obtain ⟨l', s', g', cap', r', hcn, hnth, nx, fr⟩ := hp
  have hv : Valid l' := by
    intro k hk
    rw [hnth k]
    split
    · exact hn
    · by_cases q : k < c.l.length
      · exact (st.ok i c hc).2.1 k q
      · rw [nth_out _ _ (by omega)]; decide
  obtain ⟨st', hb⟩ := st.change hc r' hcn hv nx fr
  exact ⟨l', hcn, hv, hnth, ⟨_, st', map_updx f h hf i ⟨c.b, l', s', g'⟩⟩, hb⟩

theorem cx_set {X : Nat → Prop} {w : World} {h : Nat → Option (Nat × List Int)} (hs : Cx X w h) {i b : Nat} {l : List Int} (hi : h i = some (b, l)) (t : Nat) (n : Int) (ht : t < 256) (hn : okN n = true) :
    Calls Tryz.prog 23 #[.pointer (some ⟨b, 0, none⟩), .int .i64 (t : Int), .int .i64 n] w fun r w' => r = .returned (.int .i64 0) ∧ ∃ l', Canon l' ∧ Valid l' ∧ (∀ j, nth l' j = if j = t then n else nth l j) ∧ Cx X w' (upd h i (b, l')) ∧ Kp X w w' := by
  have ki := hs.get hi
  obtain ⟨f, st, hf⟩ := hs
  rw [hf i] at hi
  cases hc : f i with
  | none => rw [hc] at hi; simp at hi
  | some c =>
    rw [hc] at hi; simp at hi
    obtain ⟨rfl, rfl⟩ := hi
    obtain ⟨cap, r1⟩ := st.rep i c hc
    refine (set_ok c.b c.l c.s c.g cap t n w r1 ki.2.1 ht hn).mono ?_
    rintro r w' ⟨rfl, hp⟩
    exact ⟨rfl, cx_putted st hf hc hn hp⟩

theorem cx_tick {X : Nat → Prop} {w : World} {h : Nat → Option (Nat × List Int)} (hs : Cx X w h) {i b : Nat} {l : List Int} (hi : h i = some (b, l)) (t : Nat) (n : Int) (ht : t < 256) (hn : okM n = true) (hlt : nth l t < n) :
    Calls Tryz.prog 103 #[.pointer (some ⟨b, 0, none⟩), .int .i64 (t : Int), .int .i64 n] w fun r w' => r = .returned (.int .i64 0) ∧ ∃ l', Canon l' ∧ Valid l' ∧ (∀ j, nth l' j = if j = t then nth l t + 1 else nth l j) ∧ Cx X w' (upd h i (b, l')) ∧ Kp X w w' := by
  have ki := hs.get hi
  obtain ⟨f, st, hf⟩ := hs
  rw [hf i] at hi
  cases hc : f i with
  | none => rw [hc] at hi; simp at hi
  | some c =>
    rw [hc] at hi; simp at hi
    obtain ⟨rfl, rfl⟩ := hi
    obtain ⟨cap, r1⟩ := st.rep i c hc
    have h0 := nth_nonneg ki.2.2 t
    refine (tick_ok c.b c.l c.s c.g cap t n w r1 ki.2.1 ht hn h0 hlt).mono ?_
    rintro r w' ⟨rfl, hp⟩
    exact ⟨rfl, cx_putted st hf hc (by rw [okM_iff] at hn; rw [okN_iff]; omega) hp⟩

/-- Copy of the k'th of them, at the i'th place from now on -/
theorem cx_copy {X : Nat → Prop} {w : World} {h : Nat → Option (Nat × List Int)} (hs : Cx X w h) {k b : Nat} {l : List Int} (hk : h k = some (b, l)) :
    Calls Tryz.prog 20 #[.pointer (some ⟨b, 0, none⟩)] w fun r w' => ∃ A, r = .returned (.pointer (some ⟨A, 0, none⟩)) ∧ (∀ i, Cx X w' (upd h i (A, l))) ∧ Kp X w w' := by
  obtain ⟨f, st, hf⟩ := hs
  rw [hf k] at hk
  cases hc : f k with
  | none => rw [hc] at hk; simp at hk
  | some c =>
    rw [hc] at hk; simp at hk
    obtain ⟨rfl, rfl⟩ := hk
    obtain ⟨cap, r1⟩ := st.rep k c hc
    have hok := st.ok k c hc
    refine (copy_any c.b c.l c.s c.g cap w r1).mono ?_
    rintro r w' ⟨rfl, hw'⟩
    obtain ⟨r2, r3, fr, hsz⟩ := copy_reps r1 hw'
    clear hw'
    have fr' : Fr (Mine c.b c.s c.g) w w' := fr.trans (Fr.refl (fun _ => False) _) (fun _ _ q => q.elim) |> fun q => ⟨q.os, q.tape, q.output, q.size, fun j hj hx => q.block j hj (fun e => hx (.inl e))⟩
    have hbl : Kp X w w' := fr.kp st.base (fun j e hx => by subst e; exact hok.2.2.1 hx)
    -- the copied clock is shared from now on: all others are apart from it as before
    have st1 : Sx X w' (upd f k ⟨c.b, c.l, true, c.g⟩) := by
      refine ⟨fun j d hd => ?_, fun j d hd => ?_, fun j m d e hjm hd he => ?_, fun k hk => Nat.lt_of_lt_of_le (st.base k hk) fr.size⟩
      · by_cases e : j = k
        · subst e; rw [upd_same] at hd; simp at hd; subst hd; exact ⟨_, r2⟩
        · rw [upd_other _ _ _ _ e] at hd
          obtain ⟨cd, rd⟩ := st.rep j d hd
          exact ⟨cd, rd.fr fr' (st.apart k j c d (Ne.symm e) hc hd)⟩
      · by_cases e : j = k
        · subst e; rw [upd_same] at hd; simp at hd; subst hd; exact hok
        · rw [upd_other _ _ _ _ e] at hd; exact st.ok j d hd
      · by_cases ej : j = k
        · subst ej
          rw [upd_same] at hd; simp at hd; subst hd
          rw [upd_other _ _ _ _ (Ne.symm hjm)] at he
          have ap := st.apart j m c e hjm hc he
          exact ⟨ap.1, ap.2.1, fun q => by simp at q⟩
        · rw [upd_other _ _ _ _ ej] at hd
          by_cases ek : m = k
          · subst ek
            rw [upd_same] at he; simp at he; subst he
            have ap := st.apart j m d c hjm hd hc
            exact ⟨ap.1, ap.2.1, ap.2.2⟩
          · rw [upd_other _ _ _ _ ek] at he
            exact st.apart j m d e hjm hd he
    refine ⟨_, rfl, fun i => ?_, hbl⟩
    refine ⟨upd (upd f k ⟨c.b, c.l, true, c.g⟩) i ⟨w.heap.size, c.l, true, c.g⟩, ⟨fun j d hd => ?_, fun j d hd => ?_, fun j m d e hjm hd he => ?_, st1.base⟩, fun j => ?_⟩
    · by_cases e : j = i
      · subst e; rw [upd_same] at hd; simp at hd; subst hd; exact ⟨_, r3⟩
      · rw [upd_other _ _ _ _ e] at hd; exact st1.rep j d hd
    · by_cases e : j = i
      · subst e; rw [upd_same] at hd; simp at hd; subst hd; exact ⟨hok.1, hok.2.1, fun q => Nat.lt_irrefl _ (st.base _ q), hok.2.2.2⟩
      · rw [upd_other _ _ _ _ e] at hd; exact st1.ok j d hd
    · -- every other clock lies below the new one's block, and is apart from the numbers that both share
      have lts : ∀ j d, j ≠ i → upd f k ⟨c.b, c.l, true, c.g⟩ j = some d → d.b < w.heap.size ∧ (∀ x, d.g = some x → x < w.heap.size) := by
        intro j d _ hd
        by_cases e : j = k
        · subst e; rw [upd_same] at hd; simp at hd; subst hd; exact ⟨r1.lt, fun x hx => r1.glt hx⟩
        · rw [upd_other _ _ _ _ e] at hd
          obtain ⟨cd, rd⟩ := st.rep j d hd
          exact ⟨rd.lt, fun x hx => rd.glt hx⟩
      by_cases ej : j = i
      · subst ej
        rw [upd_same] at hd; simp at hd; subst hd
        rw [upd_other _ _ _ _ (Ne.symm hjm)] at he
        obtain ⟨l1, l2⟩ := lts m e (Ne.symm hjm) he
        exact ⟨by show e.b ≠ w.heap.size; omega, fun q => by have := l2 _ q; have : w.heap.size < w.heap.size := this; omega, fun q => by simp at q⟩
      · rw [upd_other _ _ _ _ ej] at hd
        by_cases ek : m = i
        · subst ek
          rw [upd_same] at he; simp at he; subst he
          obtain ⟨l1, l2⟩ := lts j d ej hd
          have hself : d.s = false → ∀ x, d.g = some x → c.g ≠ some x := by
            intro hs x hx
            by_cases e : j = k
            · subst e; rw [upd_same] at hd; simp at hd; subst hd; simp at hs
            · rw [upd_other _ _ _ _ e] at hd
              exact ((st.apart j k d c e hd hc).2.2 hs x hx).2
          have hb2 : c.g ≠ some d.b := by
            by_cases e : j = k
            · subst e; rw [upd_same] at hd; simp at hd; subst hd
              intro q
              exact (r1.data _ q).1 rfl
            · rw [upd_other _ _ _ _ e] at hd
              exact (st.apart j k d c e hd hc).2.1
          exact ⟨by show w.heap.size ≠ d.b; omega, hb2, fun hs x hx => ⟨by have := l2 x hx; show x ≠ w.heap.size; omega, hself hs x hx⟩⟩
        · rw [upd_other _ _ _ _ ek] at he
          exact st1.apart j m d e hjm hd he
    · by_cases e : j = i
      · subst e; rw [upd_same, upd_same]; rfl
      · rw [upd_other _ _ _ _ e, upd_other _ _ _ _ e]
        by_cases e2 : j = k
        · subst e2; rw [upd_same, hf j, hc]; rfl
        · rw [upd_other _ _ _ _ e2]; exact hf j

/-- whatever leaves all blocks outside X alone leaves the clocks alone -/
theorem Cx.other {X : Nat → Prop} {w w' : World} {h : Nat → Option (Nat × List Int)} (hs : Cx X w h) (hsz : w.heap.size ≤ w'.heap.size) (hb : ∀ k, k < w.heap.size → ¬ X k → w'.heap[k]? = w.heap[k]?) : Cx X w' h := by
  obtain ⟨f, st, hf⟩ := hs
  refine ⟨f, ⟨fun i c hc => ?_, st.ok, st.apart, fun k hk => Nat.lt_of_lt_of_le (st.base k hk) hsz⟩, hf⟩
  obtain ⟨cap, r⟩ := st.rep i c hc
  have ok := st.ok i c hc
  exact ⟨cap, r.keep (hb _ r.lt ok.2.2.1) (fun x hx => hb _ (r.glt hx) (ok.2.2.2 x hx))⟩

/-- what was there when the law began, the slice of the three clocks, the array of the three references -/
def XX (w0 : World) (S R : Nat) : Nat → Prop := fun k => k < w0.heap.size ∨ k = S ∨ k = R
def hh (P : Nat → Nat) (L : Nat → List Int) : Nat → Option (Nat × List Int) := fun i => if i < 3 then some (P i, L i) else none
theorem hh_at (P : Nat → Nat) (L : Nat → List Int) (i : Nat) (hi : i < 3) : hh P L i = some (P i, L i) := by simp [hh, hi]
def up {α : Type} (f : Nat → α) (i : Nat) (v : α) : Nat → α := fun j => if j = i then v else f j
theorem up_same {α : Type} (f : Nat → α) (i : Nat) (v : α) : up f i v i = v := by simp [up]
theorem up_other {α : Type} (f : Nat → α) (i j : Nat) (v : α) (h : j ≠ i) : up f i v j = f j := by simp [up, h]
theorem hh_upd (P : Nat → Nat) (L : Nat → List Int) (i A : Nat) (l : List Int) (hi : i < 3) : upd (hh P L) i (A, l) = hh (up P i A) (up L i l) := by
  funext j
  by_cases e : j = i
  · subst e; rw [upd_same, hh_at _ _ _ hi, up_same, up_same]
  · rw [upd_other _ _ _ _ e]; simp [hh, up, e]
theorem up_id {α : Type} (f : Nat → α) (i : Nat) : up f i (f i) = f := by
  funext j
  by_cases e : j = i
  · subst e; simp [up]
  · simp [up, e]

def ptrs (P : Nat → Nat) : Array Value := #[.pointer (some ⟨P 0, 0, none⟩), .pointer (some ⟨P 1, 0, none⟩), .pointer (some ⟨P 2, 0, none⟩)]
theorem ptrs_at (P : Nat → Nat) (i : Nat) (hi : i < 3) : (ptrs P)[i]? = some (.pointer (some ⟨P i, 0, none⟩)) := by
  match i, hi with
  | 0, _ => rfl
  | 1, _ => rfl
  | 2, _ => rfl
theorem ptrs_set (P : Nat → Nat) (i A : Nat) (hi : i < 3) : (ptrs P).setIfInBounds i (.pointer (some ⟨A, 0, none⟩)) = ptrs (up P i A) := by
  match i, hi with
  | 0, _ => rfl
  | 1, _ => rfl
  | 2, _ => rfl

/-- the three clocks and the three references in memory -/
structure HS (w0 : World) (S R : Nat) (P : Nat → Nat) (L : Nat → List Int) (F : Nat → Nat → Int) (wr : World) : Prop where
  cx : Cx (XX w0 S R) wr (hh P L)
  sl : wr.heap[S]? = some (.cells (ptrs P) 47 (0, 0))
  ra : ∀ i, i < 3 → RA wr R (i * 256) (F i)
  bl : Below w0.heap.size w0 wr
  hS : w0.heap.size ≤ S
  hR : w0.heap.size ≤ R
  ne : S ≠ R

theorem HS.below {w0 wr w' : World} {S R : Nat} {P : Nat → Nat} {L : Nat → List Int} {F : Nat → Nat → Int} (h : HS w0 S R P L F wr) (hb : Below wr.heap.size wr w') : HS w0 S R P L F w' := by
  have hSl : S < wr.heap.size := (Array.getElem?_eq_some_iff.1 h.sl).1
  exact ⟨h.cx.below hb, (hb.block S hSl).trans h.sl, fun i hi => (h.ra i hi).below hb, h.bl.trans (hb.mono h.bl.size), h.hS, h.hR, h.ne⟩

/-- a clock's call -/
theorem HS.clock {w0 wr w' : World} {S R : Nat} {P : Nat → Nat} {L : Nat → List Int} {F : Nat → Nat → Int} (h : HS w0 S R P L F wr) {L' : Nat → List Int} (hc : Cx (XX w0 S R) w' (hh P L')) (hk : Kp (XX w0 S R) wr w') : HS w0 S R P L' F w' := by
  refine ⟨hc, (hk.block S (.inr (.inl rfl))).trans h.sl, fun i hi k hk2 => ?_, ⟨hk.os.trans h.bl.os, hk.tape.trans h.bl.tape, hk.output.trans h.bl.output, Nat.le_trans h.bl.size hk.size, fun k hk2 => (hk.block k (.inl hk2)).trans (h.bl.block k hk2)⟩, h.hS, h.hR, h.ne⟩
  obtain ⟨h1, h2⟩ := h.ra i hi k hk2
  have e := hk.block R (.inr (.inr rfl))
  exact ⟨(World.cell?_of_block (w := wr) e).trans h1, (World.frozen?_of_block (w := wr) e).trans h2⟩

/-- a reference's call -/
theorem HS.ref {w0 wr W w' : World} {S R : Nat} {P : Nat → Nat} {L : Nat → List Int} {F : Nat → Nat → Int} (h : HS w0 S R P L F wr) (hb : Below wr.heap.size wr W) {i : Nat} (hi : i < 3) {G : Nat → Int} (hr : RJ W R (i * 256) G w') : HS w0 S R P L (up F i G) w' := by
  have h' := h.below hb
  obtain ⟨ra, h1, h2, h3, h4, h5, h6, h7⟩ := hr
  refine ⟨h'.cx.other (Nat.le_of_eq h4.symm) (fun k _ hx => h5 k (fun e => hx (.inr (.inr e)))), (h5 S h.ne).trans h'.sl, fun j hj => ?_, ⟨h1.trans h'.bl.os, h2.trans h'.bl.tape, h3.trans h'.bl.output, Nat.le_trans h'.bl.size (Nat.le_of_eq h4.symm), fun k hk => (h5 k (fun e => by have := h.hR; omega)).trans (h'.bl.block k hk)⟩, h.hS, h.hR, h.ne⟩
  by_cases e : j = i
  · subst e; rw [up_same]; exact ra
  · rw [up_other _ _ _ _ e]
    intro k hk
    obtain ⟨c1, c2⟩ := h'.ra j hj k hk
    exact ⟨(h6 _ (by omega)).trans c1, (h7 _).trans c2⟩
end Ck
end Go.Proofs.YtakbbhngcdccpaaGreat
