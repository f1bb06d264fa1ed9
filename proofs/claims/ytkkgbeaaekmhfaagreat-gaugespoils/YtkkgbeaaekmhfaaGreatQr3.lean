/- A loom's trace is taken by the reader: single events; without memory. -/
import Derived.Test.YtkkgbeaaekmhfaaGreatZjGl12
import Derived.Test.YtkkgbeaaekmhfaaGreatQr2
namespace Go.Proofs.YtkkgbeaaekmhfaaGreat
namespace Lo
open Ba

/-- the reader beside the loom -/
structure GI (s : Lm) (gs : Gu.Gs) : Prop where
  st : gs.st = s.cr.map (·.s)
  pn : gs.pn = s.pk
  len : (gs.ch.length : Int) = s.md
  ch : ∀ (i : Nat) (st : St), s.sts[i]? = some (some st) → gs.ch.getD (nth s.nm i).toNat Gu.chz = vw st
  ow : Gu.owed gs.la = false
structure RI (s : Lm) (gs : Gu.Gs) : Prop where
  acc : Gu.AccH Gu.gs0 s.tr gs
  gi : GI s gs
  w : WQ s.sts s.cr
  c : CQ s.sts
theorem RI.one {s s' : Lm} {gs gs' : Gu.Gs} {e : Ev} (h : RI s gs) (ht : s'.tr = s.tr ++ [e]) (hs : ∀ nx, Gu.stepH gs e nx = some gs') (gi : GI s' gs') (w : WQ s'.sts s'.cr) (c : CQ s'.sts) : RI s' gs' :=
  ⟨by rw [ht]; exact h.acc.app (Gu.AccH.one hs), gi, w, c⟩
theorem RI.two {s s' : Lm} {gs g1 g2 gs' : Gu.Gs} {e x : Ev} (h : RI s gs) (ht : s'.tr = s.tr ++ [e, x]) (h1 : Gu.stepH gs e (some x) = some g1) (h2 : Gu.stepH gs e none = some g2) (hs : ∀ nx, Gu.stepH g1 x nx = some gs') (gi : GI s' gs') (w : WQ s'.sts s'.cr) (c : CQ s'.sts) : RI s' gs' :=
  ⟨by rw [ht]; exact h.acc.app (Gu.AccH.two h1 h2 hs), gi, w, c⟩
theorem sh_ok {gs : Gu.Gs} {e : Ev} {nx : Option Ev} {st : List Int} {pn : Bool} {ch3 ch5 ch6 : List Gu.Chn} {la : Ev} (h2 : Gu.r2 gs.st gs.pn e = some (st, pn)) (h3 : Gu.r3 gs.ch e = some ch3) (h4 : Gu.r4 gs.la e = some la) (h5 : Gu.r5 ch3 e nx = some ch5) (h6 : Gu.r6 ch5 e = some ch6) : Gu.stepH gs e nx = some ⟨st, pn, ch6, la⟩ := by
  unfold Gu.stepH
  rw [h2]
  simp only [h3, h4, h5, h6]
/-- an event that is about no channel -/
theorem sh_plain {gs : Gu.Gs} {e : Ev} {st : List Int} {pn : Bool} (h2 : Gu.r2 gs.st gs.pn e = some (st, pn)) (hk : e.k ≠ 2 ∧ e.k ≠ 3 ∧ e.k ≠ 4 ∧ e.k ≠ 5 ∧ e.k ≠ 7) (hc : e.c < gs.ch.length) (ho : Gu.owed gs.la = false) : ∀ nx, Gu.stepH gs e nx = some ⟨st, pn, gs.ch, e⟩ := fun nx => by
  obtain ⟨k2, k3, k4, k5, k7⟩ := hk
  refine sh_ok h2 (ch3 := gs.ch) ?_ ?_ (ch5 := gs.ch) ?_ ?_
  · unfold Gu.r3
    rw [if_neg k2, if_pos hc]
  · unfold Gu.r4
    rw [ho]
    simp [k7]
  · unfold Gu.r5 Gu.moves
    simp [k3, k4]
  · unfold Gu.r6
    simp [k3, k4, k5]
theorem owed_k {e : Ev} (h3 : e.k ≠ 3) (h4 : e.k ≠ 4) : Gu.owed e = false := by
  unfold Gu.owed
  simp [h3, h4]
theorem r2_in {cr : List Mb} {e : Ev} {y : Mb} (hg : Cr.gt cr e.g = some y) (hm : Gu.may y.s e.k = true) (h13 : e.k ≠ 13) : Gu.r2 (cr.map (·.s)) false e =
    if e.k = 1 then if e.m ≠ cr.length then none else some (cr.map (·.s) ++ [0], false)
    else if e.k = 6 then some ((cr.map (·.s)).set e.g.toNat 1, false)
    else if e.k = 7 then some ((cr.map (·.s)).set e.g.toNat 0, false)
    else if e.k = 11 then some ((cr.map (·.s)).set e.g.toNat 2, false)
    else if e.k = 12 then some (cr.map (·.s), true)
    else some (cr.map (·.s), false) := by
  obtain ⟨h0, h1, h2⟩ := gt_at hg
  unfold Gu.r2
  rw [if_neg (by simp), if_neg h13, if_neg (by rw [List.length_map]; omega), st_at hg, if_neg (by rw [hm]; simp), List.length_map]
theorem map_same {cr : List Mb} {g : Int} {y : Mb} (h : Cr.gt cr g = some y) : (cr.map (·.s)).set g.toNat y.s = cr.map (·.s) := by
  obtain ⟨_, h1, h2⟩ := gt_at h
  rw [← List.map_set]
  congr 1
  apply List.ext_getElem?
  intro j
  rw [List.getElem?_set]
  split
  · rename_i e
    subst e
    rw [h2]
  · rfl
theorem go_map {cr : List Mb} {g d : Int} {y : Mb} (h : Cr.gt cr g = some y) (hy : y.s = 0) : (Cr.chL cr g 0 0 d).map (·.s) = cr.map (·.s) := by
  rw [ch_map h hy]
  have := map_same h
  rw [hy] at this
  exact this
section
variable {s : Lm} {gs : Gu.Gs} {g : Int} {y : Mb}
/-- an event of who goes on, about no channel -/
theorem RI.go (h : RI s gs) (hp : s.pk = false) (e : Ev) (hg : Cr.gt s.cr e.g = some y) (hy : y.s = 0) (hk : e.k = 8 ∨ e.k = 9 ∨ e.k = 10) (hc : e.c = -1) : ∃ gs', RI (goS s e) gs' := by
  have hl := h.gi.len
  have r2 : Gu.r2 gs.st gs.pn e = some (s.cr.map (·.s), false) := by
    rw [h.gi.st, h.gi.pn, hp, r2_in hg (by unfold Gu.may; rcases hk with q | q | q <;> simp [q, hy]) (by rcases hk with q | q | q <;> omega)]
    rcases hk with q | q | q <;> simp [q]
  refine ⟨_, h.one (s' := goS s e) rfl (sh_plain r2 (by rcases hk with q | q | q <;> omega) (by omega) h.gi.ow) ⟨?_, ?_, hl, h.gi.ch, owed_k (e := e) (by rcases hk with q | q | q <;> omega) (by rcases hk with q | q | q <;> omega)⟩ (h.w.ch hg (by omega) _ _ _) h.c⟩
  · exact (go_map hg hy).symm
  · exact hp.symm
theorem RI.compact (h : RI s gs) (hp : s.pk = false) (p : List Int) : ∃ gs', RI (tellS { s with p := p } (bareE 13 (-1))) gs' := by
  have hl := h.gi.len
  have r2 : Gu.r2 gs.st gs.pn (bareE 13 (-1)) = some (gs.st, gs.pn) := by
    unfold Gu.r2
    rw [h.gi.pn, hp]
    simp [bareE]
  exact ⟨_, h.one (s' := tellS { s with p := p } (bareE 13 (-1))) rfl (sh_plain r2 (by simp [bareE]) (by show (-1 : Int) < _; omega) h.gi.ow) ⟨h.gi.st, h.gi.pn, hl, h.gi.ch, owed_k (by simp [bareE]) (by simp [bareE])⟩ h.w h.c⟩
theorem RI.exit (h : RI s gs) (hp : s.pk = false) (hg : Cr.gt s.cr g = some y) (hy : y.s = 0) : ∃ gs', RI (tellS { s with cr := Cr.chL s.cr g 0 2 0 } (bareE 11 g)) gs' := by
  have hl := h.gi.len
  have r2 : Gu.r2 gs.st gs.pn (bareE 11 g) = some ((s.cr.map (·.s)).set g.toNat 2, false) := by
    rw [h.gi.st, h.gi.pn, hp, r2_in (e := bareE 11 g) hg (by unfold Gu.may; simp [bareE, hy]) (by simp [bareE])]
    simp [bareE]
  exact ⟨_, h.one (s' := tellS { s with cr := Cr.chL s.cr g 0 2 0 } (bareE 11 g)) rfl (sh_plain r2 (by simp [bareE]) (by show (-1 : Int) < _; omega) h.gi.ow) ⟨(ch_map hg hy).symm, hp.symm, hl, h.gi.ch, owed_k (by simp [bareE]) (by simp [bareE])⟩ (h.w.ch hg (by omega) _ _ _) h.c⟩
theorem RI.panic (h : RI s gs) (hp : s.pk = false) (hg : Cr.gt s.cr g = some y) (hy : y.s ≠ 2) : ∃ gs', RI (panicS s g) gs' := by
  have hl := h.gi.len
  have r2 : Gu.r2 gs.st gs.pn (bareE 12 g) = some (s.cr.map (·.s), true) := by
    rw [h.gi.st, h.gi.pn, hp, r2_in (e := bareE 12 g) hg (by unfold Gu.may; simp [bareE, hy]) (by simp [bareE])]
    simp [bareE]
  exact ⟨_, h.one (s' := panicS s g) rfl (sh_plain r2 (by simp [bareE]) (by show (-1 : Int) < _; omega) h.gi.ow) ⟨rfl, rfl, hl, h.gi.ch, owed_k (by simp [bareE]) (by simp [bareE])⟩ h.w h.c⟩
/-- one waits -/
theorem RI.waits (h : RI s gs) (hp : s.pk = false) {sts' : List (Option St)} (e : Ev) (hg : Cr.gt s.cr e.g = some y) (hy : y.s = 0) (hk : e.k = 6) (hc : e.c < s.md) (sv : Sv s.sts sts') (wg : WG e.g sts' s.cr) (cq : CQ sts') : ∃ gs', RI (waitsS { s with sts := sts' } e) gs' := by
  have hl := h.gi.len
  have r2 : Gu.r2 gs.st gs.pn e = some ((s.cr.map (·.s)).set e.g.toNat 1, false) := by
    rw [h.gi.st, h.gi.pn, hp, r2_in hg (by unfold Gu.may; simp [hk, hy]) (by omega)]
    simp [hk]
  refine ⟨_, h.one (s' := waitsS { s with sts := sts' } e) rfl (sh_plain r2 (by omega) (by omega) h.gi.ow) ⟨(ch_map hg hy).symm, hp.symm, hl, fun i st hst => ?_, owed_k (e := e) (by omega) (by omega)⟩ (wg.park hg hy _) cq⟩
  obtain ⟨x, hx, e2⟩ := sv i st hst
  rw [e2]
  exact h.gi.ch i x hx
theorem WQ.app {sts : List (Option St)} {cr : List Mb} (h : WQ sts cr) (z : Mb) : WQ sts (cr ++ [z]) := fun x hx => by
  obtain ⟨q, hq, q1⟩ := h x hx
  refine ⟨q, ?_, q1⟩
  obtain ⟨h0, h1, h2⟩ := gt_at hq
  unfold Cr.gt
  rw [if_neg (by omega), List.getElem?_append_left h1]
  exact h2
theorem RI.spawn (h : RI s gs) (hp : s.pk = false) (a : Int) (ha : 0 ≤ a) (hc : s.cr.length < 512) (hg : Cr.gt s.cr g = some y) (hy : y.s = 0) : ∃ gs', RI (goS { s with cr := Cr.spL s.cr a } ⟨1, g, -1, -1, a, Cr.spV s.cr a, false, false⟩) gs' := by
  have hl := h.gi.len
  have e1 : Cr.spV s.cr a = s.cr.length := by unfold Cr.spV; rw [if_neg (by omega), if_neg (by omega)]
  have e2 : Cr.spL s.cr a = s.cr ++ [⟨a, 0, 0⟩] := by unfold Cr.spL; rw [if_neg (by omega), if_neg (by omega)]
  rw [e1, e2]
  have r2 : Gu.r2 gs.st gs.pn ⟨1, g, -1, -1, a, s.cr.length, false, false⟩ = some (s.cr.map (·.s) ++ [0], false) := by
    rw [h.gi.st, h.gi.pn, hp, r2_in (e := ⟨1, g, -1, -1, a, s.cr.length, false, false⟩) hg (by unfold Gu.may; simp [hy]) (by simp)]
    simp
  have hg' : Cr.gt (s.cr ++ [⟨a, 0, 0⟩]) g = some y := by
    obtain ⟨h0, h1, h2⟩ := gt_at hg
    unfold Cr.gt
    rw [if_neg (by omega), List.getElem?_append_left h1]
    exact h2
  refine ⟨_, h.one (s' := goS { s with cr := s.cr ++ [⟨a, 0, 0⟩] } ⟨1, g, -1, -1, a, s.cr.length, false, false⟩) rfl (sh_plain r2 (by simp) (by show (-1 : Int) < _; omega) h.gi.ow) ⟨?_, hp.symm, hl, h.gi.ch, owed_k (by simp) (by simp)⟩ ((h.w.app _).ch hg' (by omega) _ _ _) h.c⟩
  show _ = (Cr.chL (s.cr ++ [⟨a, 0, 0⟩]) g 0 0 1).map (·.s)
  rw [go_map hg' hy]
  simp
end
end Lo
end Go.Proofs.YtkkgbeaaekmhfaaGreat
