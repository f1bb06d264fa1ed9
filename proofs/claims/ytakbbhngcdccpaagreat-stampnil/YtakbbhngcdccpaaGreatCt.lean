/- Many clocks in one memory: what each call does to one of them, the others left alone, over this seat's program. -/
import Derived.Test.YtakbbhngcdccpaaGreatCs
namespace Go.Proofs.YtakbbhngcdccpaaGreat
open Go.ChangeShapes Go.WideShapes Go.ChangeAt Go.RowKit
namespace Ck

/-- a clock: its block, its numbers, whether they are shared, where they lie -/
structure C where
  b : Nat
  l : List Int
  s : Bool
  g : Option Nat

/-- all clocks f lie in w, from block B on, none writes what another lies in -/
structure St (B : Nat) (w : World) (f : Nat → Option C) : Prop where
  rep : ∀ i c, f i = some c → ∃ cap, Rep w c.b c.l c.s c.g cap
  ok : ∀ i c, f i = some c → Canon c.l ∧ Valid c.l ∧ B ≤ c.b ∧ ∀ x, c.g = some x → B ≤ x
  apart : ∀ i j c d, i ≠ j → f i = some c → f j = some d → Apart c.b c.s c.g d.b d.g
  base : B ≤ w.heap.size

def upd {α : Type} (f : Nat → Option α) (i : Nat) (c : α) : Nat → Option α := fun j => if j = i then some c else f j
theorem upd_same {α : Type} (f : Nat → Option α) (i : Nat) (c : α) : upd f i c i = some c := by simp [upd]
theorem upd_other {α : Type} (f : Nat → Option α) (i j : Nat) (c : α) (h : j ≠ i) : upd f i c j = f j := by simp [upd, h]

theorem St.below {B : Nat} {w w' : World} {f : Nat → Option C} (h : St B w f) (hb : Below w.heap.size w w') : St B w' f :=
  ⟨fun i c hc => by obtain ⟨cap, r⟩ := h.rep i c hc; exact ⟨cap, r.below hb⟩, h.ok, h.apart, Nat.le_trans h.base hb.size⟩

/-- one clock is changed, by itself -/
theorem St.change {B : Nat} {w w' : World} {f : Nat → Option C} (h : St B w f) {i : Nat} {c : C} (hi : f i = some c) {l' : List Int} {s' : Bool} {g' : Option Nat} {cap' : Nat}
    (r : Rep w' c.b l' s' g' cap') (hc : Canon l') (hv : Valid l') (nx : Nx w c.s c.g s' g') (fr : Fr (Mine c.b c.s c.g) w w') : St B w' (upd f i ⟨c.b, l', s', g'⟩) ∧ Below B w w' := by
  have hok := h.ok i c hi
  have hbl : Below B w w' := fr.below h.base (fun k hk => by
    rcases hk with rfl | ⟨_, hk⟩
    · exact hok.2.2.1
    · exact hok.2.2.2 k hk)
  refine ⟨⟨fun j d hd => ?_, fun j d hd => ?_, fun j k d e hjk hd he => ?_, Nat.le_trans h.base fr.size⟩, hbl⟩
  · by_cases e : j = i
    · subst e; rw [upd_same] at hd; simp at hd; subst hd; exact ⟨cap', r⟩
    · rw [upd_other _ _ _ _ e] at hd
      obtain ⟨cap, rd⟩ := h.rep j d hd
      exact ⟨cap, rd.fr fr (h.apart i j c d (Ne.symm e) hi hd)⟩
  · by_cases e : j = i
    · subst e; rw [upd_same] at hd; simp at hd; subst hd
      refine ⟨hc, hv, hok.2.2.1, fun x hx => ?_⟩
      rcases nx with ⟨_, e⟩ | ⟨_, y, hy, hle⟩
      · exact hok.2.2.2 x (e ▸ hx)
      · have hx' : g' = some x := hx
        rw [hy] at hx'; simp at hx'; have := h.base; omega
    · rw [upd_other _ _ _ _ e] at hd
      exact h.ok j d hd
  · by_cases ej : j = i
    · subst ej
      rw [upd_same] at hd; simp at hd; subst hd
      rw [upd_other _ _ _ _ (Ne.symm hjk)] at he
      obtain ⟨cap, re⟩ := h.rep k e he
      exact (h.apart j k c e hjk hi he).next nx re.lt (fun x hx => re.glt hx)
    · rw [upd_other _ _ _ _ ej] at hd
      by_cases ek : k = i
      · subst ek
        rw [upd_same] at he; simp at he; subst he
        have ap := h.apart j k d c hjk hd hi
        obtain ⟨cap, rd⟩ := h.rep j d hd
        refine ⟨ap.1, fun q => ?_, fun hs x hx => ⟨(ap.2.2 hs x hx).1, fun q => ?_⟩⟩
        · rcases nx with ⟨_, e⟩ | ⟨_, y, hy, hle⟩
          · exact ap.2.1 (e ▸ q)
          · have q' : g' = some d.b := q
            rw [hy] at q'; simp at q'; have := rd.lt; omega
        · rcases nx with ⟨_, e⟩ | ⟨_, y, hy, hle⟩
          · exact (ap.2.2 hs x hx).2 (e ▸ q)
          · have q' : g' = some x := q
            rw [hy] at q'; simp at q'; have := rd.glt hx; omega
      · rw [upd_other _ _ _ _ ek] at he
        exact h.apart j k d e hjk hd he

/-- the clocks as the laws see them: blocks and numbers -/
def Cs (B : Nat) (w : World) (h : Nat → Option (Nat × List Int)) : Prop := ∃ f, St B w f ∧ ∀ i, h i = (f i).map fun c => (c.b, c.l)

theorem Cs.empty (B : Nat) (w : World) (hB : B ≤ w.heap.size) : Cs B w (fun _ => none) :=
  ⟨fun _ => none, ⟨fun _ _ q => by simp at q, fun _ _ q => by simp at q, fun _ _ _ _ _ q => by simp at q, hB⟩, fun _ => rfl⟩
theorem Cs.below {B : Nat} {w w' : World} {h : Nat → Option (Nat × List Int)} (hs : Cs B w h) (hb : Below w.heap.size w w') : Cs B w' h := by
  obtain ⟨f, st, hf⟩ := hs
  exact ⟨f, st.below hb, hf⟩
theorem Cs.get {B : Nat} {w : World} {h : Nat → Option (Nat × List Int)} (hs : Cs B w h) {i b : Nat} {l : List Int} (hi : h i = some (b, l)) : CK w b l ∧ Canon l ∧ Valid l := by
  obtain ⟨f, st, hf⟩ := hs
  rw [hf i] at hi
  cases hc : f i with
  | none => rw [hc] at hi; simp at hi
  | some c =>
    rw [hc] at hi; simp at hi
    obtain ⟨rfl, rfl⟩ := hi
    obtain ⟨cap, r⟩ := st.rep i c hc
    exact ⟨r.ck, (st.ok i c hc).1, (st.ok i c hc).2.1⟩
theorem Cs.base {B : Nat} {w : World} {h : Nat → Option (Nat × List Int)} (hs : Cs B w h) : B ≤ w.heap.size := by
  obtain ⟨f, st, hf⟩ := hs
  exact st.base

theorem map_upd (f : Nat → Option C) (h : Nat → Option (Nat × List Int)) (hf : ∀ i, h i = (f i).map fun c => (c.b, c.l)) (i : Nat) (c : C) : ∀ j, upd h i (c.b, c.l) j = (upd f i c j).map fun c => (c.b, c.l) := by
  intro j
  by_cases e : j = i
  · subst e; rw [upd_same, upd_same]; rfl
  · rw [upd_other _ _ _ _ e, upd_other _ _ _ _ e]; exact hf j

/-- a new clock, of its own -/
theorem Cs.fresh {B : Nat} {w w' : World} {h : Nat → Option (Nat × List Int)} (hs : Cs B w h) {l : List Int} {A : Nat} {g : Option Nat} {cap : Nat} (r : Rep w' A l false g cap) (hA : w.heap.size ≤ A) (hg : ∀ x, g = some x → w.heap.size ≤ x) (hb : Below w.heap.size w w') (hc : Canon l) (hv : Valid l) (i : Nat) : Cs B w' (upd h i (A, l)) := by
  obtain ⟨f, st, hf⟩ := hs
  have st' := st.below hb
  have hbase := st.base
  refine ⟨upd f i ⟨A, l, false, g⟩, ⟨fun j d hd => ?_, fun j d hd => ?_, fun j k d e hjk hd he => ?_, st'.base⟩, map_upd f h hf i ⟨A, l, false, g⟩⟩
  · by_cases e : j = i
    · subst e; rw [upd_same] at hd; simp at hd; subst hd; exact ⟨cap, r⟩
    · rw [upd_other _ _ _ _ e] at hd; exact st'.rep j d hd
  · by_cases e : j = i
    · subst e; rw [upd_same] at hd; simp at hd; subst hd; exact ⟨hc, hv, by show B ≤ A; omega, fun x hx => by have := hg x hx; omega⟩
    · rw [upd_other _ _ _ _ e] at hd; exact st.ok j d hd
  · by_cases ej : j = i
    · subst ej
      rw [upd_same] at hd; simp at hd; subst hd
      rw [upd_other _ _ _ _ (Ne.symm hjk)] at he
      obtain ⟨c1, re⟩ := st.rep k e he
      have := re.lt
      refine ⟨by show e.b ≠ A; omega, fun q => ?_, fun _ x hx => ⟨by have := hg x hx; omega, fun q => ?_⟩⟩
      · have := re.glt q; have : A < w.heap.size := this; omega
      · have := re.glt q; have := hg x hx; omega
    · rw [upd_other _ _ _ _ ej] at hd
      by_cases ek : k = i
      · subst ek
        rw [upd_same] at he; simp at he; subst he
        obtain ⟨c1, rd⟩ := st.rep j d hd
        have := rd.lt
        refine ⟨by show A ≠ d.b; omega, fun q => by have := hg _ q; omega, fun _ x hx => ⟨by have := rd.glt hx; show x ≠ A; omega, fun q => by have := rd.glt hx; have := hg _ q; omega⟩⟩
      · rw [upd_other _ _ _ _ ek] at he
        exact st.apart j k d e hjk hd he

theorem within_refl (l : List Int) : within l l = true := within_yes l l fun _ _ => Int.le_refl _
theorem nth_nonneg {m : List Int} (hm : Valid m) (k : Nat) : 0 ≤ nth m k := by
  by_cases hk2 : k < m.length
  · have := (okN_iff _).1 (hm k hk2)
    omega
  · rw [nth_out m k (by omega)]; exact Int.le_refl _
theorem within_all {l m : List Int} (hm : Valid m) (h : within l m = true) : ∀ k, nth l k ≤ nth m k := by
  intro k
  by_cases hk : k < l.length
  · exact of_decide_eq_true h k hk
  · rw [nth_out l k (by omega)]
    exact nth_nonneg hm k
theorem within_iff {l m : List Int} (hm : Valid m) : within l m = true ↔ ∀ k, nth l k ≤ nth m k :=
  ⟨within_all hm, fun h => within_yes l m fun k _ => h k⟩
theorem canon_last {l : List Int} (hc : Canon l) (h0 : 0 < l.length) : nth l (l.length - 1) ≠ 0 := by
  have := (tlen_is l).2.2
  unfold Canon at hc
  rw [hc] at this
  rcases this with h | h
  · omega
  · exact h
theorem valid_jn {l m : List Int} (hl : Valid l) (hm : Valid m) : Valid (jn l m) := by
  intro k hk
  rw [nth_jn, okN_iff]
  have h1 := nth_nonneg hl k
  have h2 := nth_nonneg hm k
  have h3 : nth l k ≤ 1048576 := by
    by_cases q : k < l.length
    · exact ((okN_iff _).1 (hl k q)).2
    · rw [nth_out l k (by omega)]; decide
  have h4 : nth m k ≤ 1048576 := by
    by_cases q : k < m.length
    · exact ((okN_iff _).1 (hm k q)).2
    · rw [nth_out m k (by omega)]; decide
  omega
theorem canon_jn {l m : List Int} (hl : Valid l) (hm : Valid m) (cl : Canon l) (cm : Canon m) : Canon (jn l m) := by
  have h : IsT (jn l m) (jn l m).length := by
    refine ⟨Nat.le_refl _, fun j hj => nth_out _ _ hj, ?_⟩
    rw [jn_length, nth_jn]
    by_cases h0 : max l.length m.length = 0
    · exact .inl h0
    · right
      have h1 := nth_nonneg hl (max l.length m.length - 1)
      have h2 := nth_nonneg hm (max l.length m.length - 1)
      by_cases q : l.length ≤ m.length
      · have e : max l.length m.length = m.length := by omega
        rw [e] at h1 h2 ⊢
        have := canon_last cm (by omega)
        omega
      · have e : max l.length m.length = l.length := by omega
        rw [e] at h1 h2 ⊢
        have := canon_last cl (by omega)
        omega
  exact h.uniq.symm
theorem jn_within {l m : List Int} (hl : Valid l) (hm : Valid m) (cl : Canon l) (cm : Canon m) (h : within m l = true) : jn l m = l :=
  canon_eq (canon_jn hl hm cl cm) cl fun j => by
    rw [nth_jn]
    have := within_all hl h j
    omega

theorem Jr.done {w w' : World} {b : Nat} {l : List Int} {s : Bool} {g : Option Nat} {b2 : Nat} {m : List Int} {s2 : Bool} {g2 : Option Nat} {c2 : Nat} {x : Bool} (h : Jr w b l s g b2 m s2 g2 c2 m.length x w')
    (hl : Valid l) (hm : Valid m) (cl : Canon l) (cm : Canon m) : x = !within m l ∧ ∃ s' g' cap', Rep w' b (jn l m) s' g' cap' ∧ Nx w s g s' g' ∧ Fr (Mine b s g) w w' := by
  obtain ⟨l', s', g', cap', r1, r2, hn, hx, nx, fr⟩ := h
  rcases hx with ⟨rfl, hlen, j, hj⟩ | ⟨rfl, rfl, hall⟩
  · have e : l' = jn l m := by
      refine eq_of_nth (by rw [hlen, jn_length]) fun k _ => ?_
      rw [hn k, nth_jn]
      by_cases q : k < m.length
      · rw [if_pos q]
      · rw [if_neg q, nth_out m k (by omega)]
        have := nth_nonneg hl k
        omega
    subst e
    refine ⟨?_, s', g', cap', r1, nx, fr⟩
    have : within m l = false := by
      refine within_no m l j ?_ hj
      by_cases q : j < m.length
      · exact q
      · rw [nth_out m j (by omega)] at hj
        have := nth_nonneg hl j
        omega
    rw [this]; rfl
  · have hw : within m l' = true := within_yes m l' hall
    refine ⟨by rw [hw]; rfl, s', g', cap', ?_, nx, fr⟩
    rw [jn_within hl hm cl cm hw]
    exact r1

set_option maxHeartbeats 400000 in
theorem join_self (b : Nat) (l : List Int) (w : World) (h : CK w b l) :
    Calls Tryz.prog 101 #[.pointer (some ⟨b, 0, none⟩), .pointer (some ⟨b, 0, none⟩)] w fun r w' => r = .returned (.bool false) ∧ w' = w := by
  have H := hide h
  obtain ⟨oa, c, s, h0, _, hA, hL⟩ := h
  go_enter Tryz.func101, Tryz.ntmps101
  go_wp2_with fail
  go_loop [5, 19] (fun ch i => ch = .bool false ∧ ∃ k : Nat, k ≤ l.length ∧ i = .int .i64 k) (fun _ i => l.length - (intOf i).toNat)
  case atStart => exact ⟨rfl, 0, Nat.zero_le _, rfl⟩
  case round =>
    obtain ⟨rfl, k, hk, rfl⟩ := hrel
    by_cases hlt : k < l.length
    · obtain ⟨b', off, rfl, hc⟩ := hA k hlt
      have G : Hid (gt l (k : Int) = nth l k) := gt_nat l k
      clear hA
      go_wp2_with (go_at_call 37; refine (get_any b l _ _ H.out).mono ?_; rw [G.out]; rintro r w' ⟨rfl, rfl⟩)
      go_round
      case rel => exact ⟨rfl, k + 1, by omega, by go_num⟩
      case measure => simp [intOf]; omega
    · go_wp2
      go_ret
      exact ⟨rfl, rfl⟩

theorem upd_id {h : Nat → Option (Nat × List Int)} {i : Nat} {c : Nat × List Int} (hi : h i = some c) : upd h i c = h := by
  funext j
  by_cases e : j = i
  · subst e; rw [upd_same, hi]
  · rw [upd_other _ _ _ _ e]

/-- Join of any two of them -/
theorem cs_join {B : Nat} {w : World} {h : Nat → Option (Nat × List Int)} (hs : Cs B w h) {i j b b2 : Nat} {l m : List Int} (hi : h i = some (b, l)) (hj : h j = some (b2, m)) :
    Calls Tryz.prog 101 #[.pointer (some ⟨b, 0, none⟩), .pointer (some ⟨b2, 0, none⟩)] w fun r w' => r = .returned (.bool (!within m l)) ∧ Cs B w' (upd h i (b, jn l m)) ∧ Below B w w' := by
  have ki := hs.get hi
  have kj := hs.get hj
  by_cases e : i = j
  · subst e
    rw [hi] at hj
    simp at hj
    obtain ⟨rfl, rfl⟩ := hj
    rw [within_refl, jn_within ki.2.2 ki.2.2 ki.2.1 ki.2.1 (within_refl l), upd_id hi]
    refine (join_self b l w ki.1).mono ?_
    rintro r w' ⟨rfl, rfl⟩
    exact ⟨rfl, hs, Below.refl _ _⟩
  · obtain ⟨f, st, hf⟩ := hs
    rw [hf i] at hi
    rw [hf j] at hj
    cases hc : f i with
    | none => rw [hc] at hi; simp at hi
    | some c =>
      cases hd : f j with
      | none => rw [hd] at hj; simp at hj
      | some d =>
        rw [hc] at hi; simp at hi
        rw [hd] at hj; simp at hj
        obtain ⟨rfl, rfl⟩ := hi
        obtain ⟨rfl, rfl⟩ := hj
        obtain ⟨cap, r1⟩ := st.rep i c hc
        obtain ⟨cap2, r2⟩ := st.rep j d hd
        refine (join_any c.b d.b c.l d.l c.s d.s c.g d.g cap cap2 w r1 r2 (st.apart i j c d e hc hd)).mono ?_
        rintro r w' ⟨x, rfl, hjr⟩
        obtain ⟨rfl, s', g', cap', r', nx, fr⟩ := hjr.done ki.2.2 kj.2.2 ki.2.1 kj.2.1
        obtain ⟨st', hb⟩ := st.change hc r' (canon_jn ki.2.2 kj.2.2 ki.2.1 kj.2.1) (valid_jn ki.2.2 kj.2.2) nx fr
        exact ⟨rfl, ⟨_, st', map_upd f h hf i ⟨c.b, jn c.l d.l, s', g'⟩⟩, hb⟩

/-- a change of one number of one of them -/
theorem cs_putted {B : Nat} {w w' : World} {f : Nat → Option C} {h : Nat → Option (Nat × List Int)} (st : St B w f) (hf : ∀ i, h i = (f i).map fun c => (c.b, c.l)) {i : Nat} {c : C} (hc : f i = some c) {t : Nat} {n : Int} (hn : okN n = true)
    (hp : Putted w c.b c.l c.s c.g t n w') : ∃ l', Canon l' ∧ Valid l' ∧ (∀ j, nth l' j = if j = t then n else nth c.l j) ∧ Cs B w' (upd h i (c.b, l')) ∧ Below B w w' := by
  obtain ⟨l', s', g', cap', r', hcn, hnth, nx, fr⟩ := hp
  have hv : Valid l' := by
    intro k hk
    rw [hnth k]
    split
    · exact hn
    · by_cases q : k < c.l.length
      · exact (st.ok i c hc).2.1 k q
      · rw [nth_out _ _ (by omega)]; decide
  obtain ⟨st', hb⟩ := st.change hc r' hcn hv nx fr
  exact ⟨l', hcn, hv, hnth, ⟨_, st', map_upd f h hf i ⟨c.b, l', s', g'⟩⟩, hb⟩

theorem cs_set {B : Nat} {w : World} {h : Nat → Option (Nat × List Int)} (hs : Cs B w h) {i b : Nat} {l : List Int} (hi : h i = some (b, l)) (t : Nat) (n : Int) (ht : t < 256) (hn : okN n = true) :
    Calls Tryz.prog 23 #[.pointer (some ⟨b, 0, none⟩), .int .i64 (t : Int), .int .i64 n] w fun r w' => r = .returned (.int .i64 0) ∧ ∃ l', Canon l' ∧ Valid l' ∧ (∀ j, nth l' j = if j = t then n else nth l j) ∧ Cs B w' (upd h i (b, l')) ∧ Below B w w' := by
  have ki := hs.get hi
  obtain ⟨f, st, hf⟩ := hs
  rw [hf i] at hi
  cases hc : f i with
  | none => rw [hc] at hi; simp at hi
  | some c =>
    rw [hc] at hi; simp at hi
    obtain ⟨rfl, rfl⟩ := hi
    obtain ⟨cap, r1⟩ := st.rep i c hc
    refine (set_ok c.b c.l c.s c.g cap t n w r1 ki.2.1 ht hn).mono ?_
    rintro r w' ⟨rfl, hp⟩
    exact ⟨rfl, cs_putted st hf hc hn hp⟩

theorem cs_tick {B : Nat} {w : World} {h : Nat → Option (Nat × List Int)} (hs : Cs B w h) {i b : Nat} {l : List Int} (hi : h i = some (b, l)) (t : Nat) (n : Int) (ht : t < 256) (hn : okM n = true) (hlt : nth l t < n) :
    Calls Tryz.prog 103 #[.pointer (some ⟨b, 0, none⟩), .int .i64 (t : Int), .int .i64 n] w fun r w' => r = .returned (.int .i64 0) ∧ ∃ l', Canon l' ∧ Valid l' ∧ (∀ j, nth l' j = if j = t then nth l t + 1 else nth l j) ∧ Cs B w' (upd h i (b, l')) ∧ Below B w w' := by
  have ki := hs.get hi
  obtain ⟨f, st, hf⟩ := hs
  rw [hf i] at hi
  cases hc : f i with
  | none => rw [hc] at hi; simp at hi
  | some c =>
    rw [hc] at hi; simp at hi
    obtain ⟨rfl, rfl⟩ := hi
    obtain ⟨cap, r1⟩ := st.rep i c hc
    have h0 := nth_nonneg ki.2.2 t
    refine (tick_ok c.b c.l c.s c.g cap t n w r1 ki.2.1 ht hn h0 hlt).mono ?_
    rintro r w' ⟨rfl, hp⟩
    exact ⟨rfl, cs_putted st hf hc (by rw [okM_iff] at hn; rw [okN_iff]; omega) hp⟩

/-- Copy of the k'th of them, at the i'th place from now on -/
theorem cs_copy {B : Nat} {w : World} {h : Nat → Option (Nat × List Int)} (hs : Cs B w h) {k b : Nat} {l : List Int} (hk : h k = some (b, l)) :
    Calls Tryz.prog 20 #[.pointer (some ⟨b, 0, none⟩)] w fun r w' => ∃ A, r = .returned (.pointer (some ⟨A, 0, none⟩)) ∧ (∀ i, Cs B w' (upd h i (A, l))) ∧ Below B w w' := by
  obtain ⟨f, st, hf⟩ := hs
  rw [hf k] at hk
  cases hc : f k with
  | none => rw [hc] at hk; simp at hk
  | some c =>
    rw [hc] at hk; simp at hk
    obtain ⟨rfl, rfl⟩ := hk
    obtain ⟨cap, r1⟩ := st.rep k c hc
    have hok := st.ok k c hc
    refine (copy_any c.b c.l c.s c.g cap w r1).mono ?_
    rintro r w' ⟨rfl, hw'⟩
    obtain ⟨r2, r3, fr, hsz⟩ := copy_reps r1 hw'
    clear hw'
    have fr' : Fr (Mine c.b c.s c.g) w w' := fr.trans (Fr.refl (fun _ => False) _) (fun _ _ q => q.elim) |> fun q => ⟨q.os, q.tape, q.output, q.size, fun j hj hx => q.block j hj (fun e => hx (.inl e))⟩
    have hbl : Below B w w' := fr.below st.base (fun j e => by subst e; exact hok.2.2.1)
    -- the copied clock is shared from now on: all others are apart from it as before
    have st1 : St B w' (upd f k ⟨c.b, c.l, true, c.g⟩) := by
      refine ⟨fun j d hd => ?_, fun j d hd => ?_, fun j m d e hjm hd he => ?_, Nat.le_trans st.base fr.size⟩
      · by_cases e : j = k
        · subst e; rw [upd_same] at hd; simp at hd; subst hd; exact ⟨_, r2⟩
        · rw [upd_other _ _ _ _ e] at hd
          obtain ⟨cd, rd⟩ := st.rep j d hd
          exact ⟨cd, rd.fr fr' (st.apart k j c d (Ne.symm e) hc hd)⟩
      · by_cases e : j = k
        · subst e; rw [upd_same] at hd; simp at hd; subst hd; exact hok
        · rw [upd_other _ _ _ _ e] at hd; exact st.ok j d hd
      · by_cases ej : j = k
        · subst ej
          rw [upd_same] at hd; simp at hd; subst hd
          rw [upd_other _ _ _ _ (Ne.symm hjm)] at he
          have ap := st.apart j m c e hjm hc he
          exact ⟨ap.1, ap.2.1, fun q => by simp at q⟩
        · rw [upd_other _ _ _ _ ej] at hd
          by_cases ek : m = k
          · subst ek
            rw [upd_same] at he; simp at he; subst he
            have ap := st.apart j m d c hjm hd hc
            exact ⟨ap.1, ap.2.1, ap.2.2⟩
          · rw [upd_other _ _ _ _ ek] at he
            exact st.apart j m d e hjm hd he
    refine ⟨_, rfl, fun i => ?_, hbl⟩
    refine ⟨upd (upd f k ⟨c.b, c.l, true, c.g⟩) i ⟨w.heap.size, c.l, true, c.g⟩, ⟨fun j d hd => ?_, fun j d hd => ?_, fun j m d e hjm hd he => ?_, st1.base⟩, fun j => ?_⟩
    · by_cases e : j = i
      · subst e; rw [upd_same] at hd; simp at hd; subst hd; exact ⟨_, r3⟩
      · rw [upd_other _ _ _ _ e] at hd; exact st1.rep j d hd
    · by_cases e : j = i
      · subst e; rw [upd_same] at hd; simp at hd; subst hd; exact ⟨hok.1, hok.2.1, st.base, hok.2.2.2⟩
      · rw [upd_other _ _ _ _ e] at hd; exact st1.ok j d hd
    · -- every other clock lies below the new one's block, and is apart from the numbers that both share
      have lts : ∀ j d, j ≠ i → upd f k ⟨c.b, c.l, true, c.g⟩ j = some d → d.b < w.heap.size ∧ (∀ x, d.g = some x → x < w.heap.size) := by
        intro j d _ hd
        by_cases e : j = k
        · subst e; rw [upd_same] at hd; simp at hd; subst hd; exact ⟨r1.lt, fun x hx => r1.glt hx⟩
        · rw [upd_other _ _ _ _ e] at hd
          obtain ⟨cd, rd⟩ := st.rep j d hd
          exact ⟨rd.lt, fun x hx => rd.glt hx⟩
      by_cases ej : j = i
      · subst ej
        rw [upd_same] at hd; simp at hd; subst hd
        rw [upd_other _ _ _ _ (Ne.symm hjm)] at he
        obtain ⟨l1, l2⟩ := lts m e (Ne.symm hjm) he
        exact ⟨by show e.b ≠ w.heap.size; omega, fun q => by have := l2 _ q; have : w.heap.size < w.heap.size := this; omega, fun q => by simp at q⟩
      · rw [upd_other _ _ _ _ ej] at hd
        by_cases ek : m = i
        · subst ek
          rw [upd_same] at he; simp at he; subst he
          obtain ⟨l1, l2⟩ := lts j d ej hd
          have hself : d.s = false → ∀ x, d.g = some x → c.g ≠ some x := by
            intro hs x hx
            by_cases e : j = k
            · subst e; rw [upd_same] at hd; simp at hd; subst hd; simp at hs
            · rw [upd_other _ _ _ _ e] at hd
              exact ((st.apart j k d c e hd hc).2.2 hs x hx).2
          have hb2 : c.g ≠ some d.b := by
            by_cases e : j = k
            · subst e; rw [upd_same] at hd; simp at hd; subst hd
              intro q
              exact (r1.data _ q).1 rfl
            · rw [upd_other _ _ _ _ e] at hd
              exact (st.apart j k d c e hd hc).2.1
          exact ⟨by show w.heap.size ≠ d.b; omega, hb2, fun hs x hx => ⟨by have := l2 x hx; show x ≠ w.heap.size; omega, hself hs x hx⟩⟩
        · rw [upd_other _ _ _ _ ek] at he
          exact st1.apart j m d e hjm hd he
    · by_cases e : j = i
      · subst e; rw [upd_same, upd_same]; rfl
      · rw [upd_other _ _ _ _ e, upd_other _ _ _ _ e]
        by_cases e2 : j = k
        · subst e2; rw [upd_same, hf j, hc]; rfl
        · rw [upd_other _ _ _ _ e2]; exact hf j
end Ck
end Go.Proofs.YtakbbhngcdccpaaGreat
