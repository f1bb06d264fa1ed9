/- Package clock: Join, over this seat's program. -/
import Derived.Test.YtakbbhngcdccpaaGreatCo
namespace Go.Proofs.YtakbbhngcdccpaaGreat
open Go.ChangeShapes Go.WideShapes Go.ChangeAt Go.RowKit
namespace Ck

/-- the clock (b, s, g) writes nothing of what the clock (b2, g2) lies in -/
def Apart (b : Nat) (s : Bool) (g : Option Nat) (b2 : Nat) (g2 : Option Nat) : Prop :=
  b2 ≠ b ∧ g2 ≠ some b ∧ (s = false → ∀ x, g = some x → x ≠ b2 ∧ g2 ≠ some x)

theorem Apart.next {w : World} {b b2 : Nat} {s s' : Bool} {g g' g2 : Option Nat} (h : Apart b s g b2 g2) (hn : Nx w s g s' g') (h1 : b2 < w.heap.size) (h2 : ∀ x, g2 = some x → x < w.heap.size) : Apart b s' g' b2 g2 := by
  refine ⟨h.1, h.2.1, fun hs x hx => ?_⟩
  rcases hn with ⟨rfl, rfl⟩ | ⟨_, y, hy, hle⟩
  · exact h.2.2 hs x hx
  · rw [hx] at hy
    simp at hy
    subst hy
    exact ⟨by omega, fun e => by have := h2 x e; omega⟩

theorem Rep.fr {w w' : World} {b b2 : Nat} {s s2 : Bool} {g g2 : Option Nat} {m : List Int} {c2 : Nat} (h : Rep w b2 m s2 g2 c2) (hF : Fr (Mine b s g) w w') (ha : Apart b s g b2 g2) : Rep w' b2 m s2 g2 c2 := by
  refine h.keep (hF.block b2 h.lt ?_) fun x hx => hF.block x (h.glt hx) ?_
  · rintro (e | ⟨hs, hg⟩)
    · exact ha.1 e
    · exact (ha.2.2 hs b2 hg).1 rfl
  · rintro (e | ⟨hs, hg⟩)
    · subst e; exact ha.2.1 hx
    · exact (ha.2.2 hs x hg).2 hx

theorem Nx.refl (w : World) (s : Bool) (g : Option Nat) : Nx w s g s g := .inl ⟨rfl, rfl⟩
theorem Nx.trans {w w1 : World} {s s1 s2 : Bool} {g g1 g2 : Option Nat} (h : Nx w s g s1 g1) (k : Nx w1 s1 g1 s2 g2) (hs : w.heap.size ≤ w1.heap.size) : Nx w s g s2 g2 := by
  rcases k with ⟨rfl, rfl⟩ | ⟨e, x, hx, hle⟩
  · exact h
  · exact .inr ⟨e, x, hx, Nat.le_trans hs hle⟩
theorem Fr.next {w w1 w2 : World} {b : Nat} {s s1 : Bool} {g g1 : Option Nat} (h : Fr (Mine b s g) w w1) (hn : Nx w s g s1 g1) (k : Fr (Mine b s1 g1) w1 w2) : Fr (Mine b s g) w w2 := by
  refine h.trans k fun j hj hm => ?_
  rcases hm with e | ⟨hs, hg⟩
  · exact .inl e
  · rcases hn with ⟨rfl, rfl⟩ | ⟨_, x, hx, hle⟩
    · exact .inr ⟨hs, hg⟩
    · rw [hx] at hg
      simp at hg
      omega

theorem nth_set (l : List Int) (k j : Nat) (v : Int) (hk : k < l.length) : nth (l.set k v) j = if j = k then v else nth l j := by
  by_cases h : j = k
  · subst h; simp [nth, hk]
  · simp [nth, h, Ne.symm h]

theorem Rep.setNum {w : World} {b g cap k : Nat} {l : List Int} (h : Rep w b l false (some g) cap) (hk : k < l.length) (v : Int) : Rep (w.setCell ⟨g, k, none⟩ (.int .i64 v)) b (l.set k v) false (some g) cap := by
  obtain ⟨hne, cur, hc, hcs, hcd⟩ := h.data g rfl
  refine ⟨?_, by simpa using h.len, by simpa using h.le, h.mx, fun q => by simp at q, fun q => by simp at q, fun x hx => ?_⟩
  · rw [Below.heap_setCell _ _ _ _ (Ne.symm hne), h.head]
    simp
  · simp at hx
    subst hx
    have hle := h.le
    refine ⟨hne, _, heap_setCell_same hc _, by simpa using hcs, fun j hj => ?_⟩
    rw [nth_set l k j v hk]
    simp at hj
    by_cases e : j = k
    · subst e
      have : j < cur.size := by omega
      simp [this]
    · rw [if_neg e, Array.getElem?_setIfInBounds_ne (Ne.symm e)]
      exact hcd j hj

theorem Owned.nx {w : World} {s : Bool} {g g' : Option Nat} (h : (s = false ∧ g' = g) ∨ ∃ x, g' = some x ∧ w.heap.size ≤ x) : Nx w s g false g' := by
  rcases h with ⟨rfl, rfl⟩ | ⟨x, hx, hle⟩
  · exact .inl ⟨rfl, rfl⟩
  · exact .inr ⟨rfl, x, hx, hle⟩

/-- of each tid the greater number -/
def jn (l m : List Int) : List Int := (List.range (max l.length m.length)).map fun k => max (nth l k) (nth m k)
theorem jn_length (l m : List Int) : (jn l m).length = max l.length m.length := by simp [jn]
theorem nth_jn (l m : List Int) (k : Nat) : nth (jn l m) k = max (nth l k) (nth m k) := by
  by_cases h : k < max l.length m.length
  · rw [nth_lt _ _ (by rw [jn_length]; exact h)]; simp [jn]
  · rw [nth_out _ _ (by rw [jn_length]; omega), nth_out l k (by omega), nth_out m k (by omega)]; rfl

/-- what a Join has done when k numbers have been looked at: the relation of its loop -/
def Jr (w : World) (b : Nat) (l : List Int) (s : Bool) (g : Option Nat) (b2 : Nat) (m : List Int) (s2 : Bool) (g2 : Option Nat) (c2 k : Nat) (x : Bool) (wr : World) : Prop :=
  ∃ l' s' g' cap', Rep wr b l' s' g' cap' ∧ Rep wr b2 m s2 g2 c2 ∧ (∀ j, nth l' j = if j < k then max (nth l j) (nth m j) else nth l j) ∧
    ((x = true ∧ l'.length = max l.length m.length ∧ ∃ j, nth l j < nth m j) ∨ (x = false ∧ l' = l ∧ ∀ j, j < k → nth m j ≤ nth l j)) ∧ Nx w s g s' g' ∧ Fr (Mine b s g) w wr

theorem Jr.start {w : World} {b : Nat} {l : List Int} {s : Bool} {g : Option Nat} {cap b2 : Nat} {m : List Int} {s2 : Bool} {g2 : Option Nat} {c2 : Nat} (h : Rep w b l s g cap) (h2 : Rep w b2 m s2 g2 c2) : Jr w b l s g b2 m s2 g2 c2 0 false w :=
  ⟨l, s, g, cap, h, h2, fun j => by simp, .inr ⟨rfl, rfl, fun j hj => absurd hj (Nat.not_lt_zero _)⟩, Nx.refl _ _ _, Fr.refl _ _⟩

theorem Jr.skip {w wr : World} {b : Nat} {l : List Int} {s : Bool} {g : Option Nat} {b2 : Nat} {m : List Int} {s2 : Bool} {g2 : Option Nat} {c2 k : Nat} {x : Bool} (h : Jr w b l s g b2 m s2 g2 c2 k x wr) (hk : nth m k ≤ nth l k) : Jr w b l s g b2 m s2 g2 c2 (k + 1) x wr := by
  obtain ⟨l', s', g', cap', r1, r2, hn, hx, h3⟩ := h
  refine ⟨l', s', g', cap', r1, r2, fun j => ?_, ?_, h3⟩
  · rw [hn j]
    by_cases e : j = k
    · subst e
      rw [if_neg (Nat.lt_irrefl _), if_pos (Nat.lt_succ_self _)]
      omega
    · by_cases hj : j < k
      · rw [if_pos hj, if_pos (by omega)]
      · rw [if_neg hj, if_neg (by omega)]
  · rcases hx with hx | ⟨e1, e2, e3⟩
    · exact .inl hx
    · refine .inr ⟨e1, e2, fun j hj => ?_⟩
      by_cases e : j = k
      · subst e; exact hk
      · exact e3 j (by omega)

theorem Jr.take {w wr w1 : World} {b : Nat} {l : List Int} {s : Bool} {g : Option Nat} {b2 : Nat} {m : List Int} {s2 : Bool} {g2 : Option Nat} {c2 k : Nat} {x : Bool}
    {l' : List Int} {s' : Bool} {g' : Option Nat} {y cap'' : Nat} (ha : Apart b s g b2 g2)
    (r2 : Rep wr b2 m s2 g2 c2) (hn : ∀ j, nth l' j = if j < k then max (nth l j) (nth m j) else nth l j)
    (hx : (x = true ∧ l'.length = max l.length m.length ∧ ∃ j, nth l j < nth m j) ∨ (x = false ∧ l' = l ∧ ∀ j, j < k → nth m j ≤ nth l j))
    (nx : Nx w s g s' g') (fr : Fr (Mine b s g) w wr) (h2 : b2 < w.heap.size) (h3 : ∀ z, g2 = some z → z < w.heap.size)
    (o1 : Rep w1 b (pad l' m.length) false (some y) cap'') (o2 : (s' = false ∧ some y = g') ∨ ∃ z, some y = some z ∧ wr.heap.size ≤ z) (o3 : Fr (Mine b s' g') wr w1)
    (hkm : k < m.length) (hk : nth l k < nth m k) :
    Jr w b l s g b2 m s2 g2 c2 (k + 1) true (w1.setCell ⟨y, k, none⟩ (.int .i64 (nth m k))) := by
  have hpl : k < (pad l' m.length).length := by rw [pad_length]; omega
  have nx1 : Nx wr s' g' false (some y) := Owned.nx o2
  have nx2 : Nx w s g false (some y) := nx.trans nx1 fr.size
  have fr1 : Fr (Mine b s g) w w1 := fr.next nx o3
  have r2' : Rep w1 b2 m s2 g2 c2 := r2.fr o3 (ha.next nx h2 h3)
  have fr2 : Fr (Mine b false (some y)) w1 (w1.setCell ⟨y, k, none⟩ (.int .i64 (nth m k))) := (Fr.refl _ _).setCell (.inl (.inr ⟨rfl, rfl⟩)) _
  refine ⟨(pad l' m.length).set k (nth m k), false, some y, cap'', o1.setNum hpl _, r2'.fr fr2 (ha.next nx2 h2 h3), fun j => ?_, .inl ⟨rfl, ?_, k, hk⟩, nx2, fr1.next nx2 fr2⟩
  · rw [nth_set _ _ _ _ hpl, nth_pad, hn j]
    by_cases e : j = k
    · subst e
      rw [if_pos rfl, if_pos (Nat.lt_succ_self _)]
      omega
    · rw [if_neg e]
      by_cases hj : j < k
      · rw [if_pos hj, if_pos (by omega)]
      · rw [if_neg hj, if_neg (by omega)]
  · rw [List.length_set, pad_length]
    rcases hx with ⟨_, e, _⟩ | ⟨_, e, _⟩
    · rw [e]; omega
    · rw [e]

set_option maxHeartbeats 400000 in
theorem join_nil (v : Value) (w : World) :
    Calls Tryz.prog 101 #[.pointer none, v] w fun r w' => r = .returned (.bool false) ∧ w' = w := by
  go_enter Tryz.func101, Tryz.ntmps101
  go_wp2
  go_ret
  exact ⟨rfl, rfl⟩

set_option maxHeartbeats 400000 in
theorem join_of_nil (a : Addr) (w : World) :
    Calls Tryz.prog 101 #[.pointer (some a), .pointer none] w fun r w' => r = .returned (.bool false) ∧ w' = w := by
  go_enter Tryz.func101, Tryz.ntmps101
  go_wp2
  go_ret
  exact ⟨rfl, rfl⟩

set_option maxHeartbeats 1600000 in
theorem join_any (b b2 : Nat) (l m : List Int) (s s2 : Bool) (g g2 : Option Nat) (cap c2 : Nat) (w : World) (h : Rep w b l s g cap) (h2 : Rep w b2 m s2 g2 c2) (ha : Apart b s g b2 g2) :
    Calls Tryz.prog 101 #[.pointer (some ⟨b, 0, none⟩), .pointer (some ⟨b2, 0, none⟩)] w fun r w' => ∃ x, r = .returned (.bool x) ∧ Jr w b l s g b2 m s2 g2 c2 m.length x w' := by
  have H := hide h
  have H2 := hide h2
  have HA := hide ha
  have c0 := cell_of h2.head 0
  simp at c0
  have hm := h2.len
  clear h h2 ha
  go_enter Tryz.func101, Tryz.ntmps101
  go_wp2_with fail
  go_loopw [5, 19] (fun ch i wr => ∃ k : Nat, k ≤ m.length ∧ i = .int .i64 k ∧ ∃ x, ch = .bool x ∧ Jr w b l s g b2 m s2 g2 c2 k x wr) (fun _ i _ => m.length - (intOf i).toNat)
  case atStart => exact ⟨0, Nat.zero_le _, rfl, false, rfl, Jr.start H.out H2.out⟩
  case round =>
    obtain ⟨k, hk, rfl, x, rfl, hj⟩ := hrel
    have HJ := hide hj
    clear hj c0
    by_cases hlt : k < m.length
    · obtain ⟨l', s', g', cap', r1, r2, hn, hx, nx, fr⟩ := HJ.out
      obtain ⟨y2, o2, e2, hc2⟩ := r2.at_ k hlt
      rw [e2]
      have d0 := cell_of r2.head 0
      simp at d0
      rw [e2] at d0
      have G : Hid (gt l' (k : Int) = nth l k) := by
        show _ = _
        rw [gt_nat, hn k, if_neg (Nat.lt_irrefl _)]
      have R1 := hide r1
      have R2 := hide r2
      have HN := hide hn
      have HX := hide hx
      have NX := hide nx
      have FR := hide fr
      have E2 := hide e2
      clear r1 r2 hn hx nx fr e2
      by_cases hlt2 : nth l k < nth m k
      · go_wp2_with (first | (go_at_call 37; refine (get_any b l' _ _ R1.out.ck).mono ?_; rw [G.out]; rintro r w' ⟨rfl, rfl⟩) | (go_at_call 69; refine (own_any b l' s' g' cap' m.length _ R1.out hm).mono ?_))
        rintro r w1 ⟨rfl, g1, cap1, o1, o2, o3⟩
        obtain ⟨y, rfl⟩ : ∃ y, g1 = some y := by
          cases g1 with
          | none => have e1 := o1.nil rfl; have e2 := o1.le; rw [pad_length] at e2; omega
          | some y => exact ⟨y, rfl⟩
        obtain ⟨hne, cur, hcur, hcs, hcd⟩ := o1.data y rfl
        have hpl : k < (pad l' m.length).length := by rw [pad_length]; omega
        have hpl' : (k : Int) < ((pad l' m.length).length : Int) := by omega
        have hpm := o1.len
        have q0 := cell_of o1.head 0
        simp at q0
        have q1 := (cell_of hcur k).trans (hcd k hpl)
        have q2 := frozen_of hcur k
        have O1 := hide o1
        have O2 := hide o2
        have O3 := hide o3
        clear o1 o2 o3 hcur hcs hcd hc2 d0
        go_wp2
        go_roundw
        case rel => exact ⟨k + 1, by omega, by go_num, true, rfl, Jr.take HA.out R2.out HN.out HX.out NX.out FR.out H2.out.lt (fun z hz => H2.out.glt hz) O1.out O2.out O3.out hlt hlt2⟩
        case measure => simp [intOf]; omega
      · go_wp2_with (first | (go_at_call 37; refine (get_any b l' _ _ R1.out.ck).mono ?_; rw [G.out]; rintro r w' ⟨rfl, rfl⟩))
        go_roundw
        case rel => exact ⟨k + 1, by omega, by go_num, x, rfl, HJ.out.skip (by omega)⟩
        case measure => simp [intOf]; omega
    · have e : k = m.length := by omega
      subst e
      go_wp2
      go_ret
      exact ⟨x, rfl, HJ.out⟩
end Ck
end Go.Proofs.YtakbbhngcdccpaaGreat
