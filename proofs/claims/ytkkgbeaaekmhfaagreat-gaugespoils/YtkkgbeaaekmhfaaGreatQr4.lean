/- A loom's trace is taken by the reader: channels; without memory. -/
import Derived.Test.YtkkgbeaaekmhfaaGreatZjGl12
import Derived.Test.YtkkgbeaaekmhfaaGreatQr3
namespace Go.Proofs.YtkkgbeaaekmhfaaGreat
namespace Lo
open Ba

theorem set_id {α : Type} {l : List α} {i : Nat} {x : α} (h : l[i]? = some x) : l.set i x = l := by
  apply List.ext_getElem?
  intro j
  rw [List.getElem?_set]
  split
  · rename_i e
    subst e
    rw [h]
    simp [(List.getElem?_eq_some_iff.1 h).1]
  · rfl
theorem getD_set_same {α : Type} (l : List α) (n : Nat) (x z : α) (h : n < l.length) : (l.set n x).getD n z = x := by
  simp [List.getD_eq_getElem?_getD, h]
theorem getD_set_other {α : Type} (l : List α) (n m : Nat) (x z : α) (h : m ≠ n) : (l.set n x).getD m z = l.getD m z := by
  simp [List.getD_eq_getElem?_getD, List.getElem?_set_ne (Ne.symm h)]
section
variable {s : Lm} {gs : Gu.Gs} {g : Int} {y : Mb}
/-- where a channel stands -/
theorem RI.at_ (h : RI s gs) (v : VI s) {c : Int} {st : St} (hc : Fk.nmB s.sts c = some st) : 0 ≤ num s c ∧ num s c < gs.ch.length ∧ gs.ch.getD (num s c).toNat Gu.chz = vw st ∧ Fine st ∧ J st := by
  obtain ⟨c8, n0, nl, -, hJ⟩ := v.nmd hc
  have hl := h.gi.len
  exact ⟨n0, by omega, h.gi.ch _ _ (Fk.nmB_at hc), h.c _ _ (Fk.nmB_at hc), hJ⟩
theorem ch_set (h : GI s gs) (v : VI s) {c : Int} {st st' : St} (hc : Fk.nmB s.sts c = some st) : ∀ (i : Nat) (z : St), (s.sts.set c.toNat (some st'))[i]? = some (some z) → (gs.ch.set (num s c).toNat (vw st')).getD (nth s.nm i).toNat Gu.chz = vw z := by
  obtain ⟨c8, n0, nl, -, -⟩ := v.nmd hc
  have hl := h.len
  intro i z hz
  rw [List.getElem?_set] at hz
  split at hz
  · rename_i e
    subst e
    split at hz
    · simp at hz
      subst hz
      show (gs.ch.set (num s c).toNat (vw st')).getD (num s c).toNat Gu.chz = _
      rw [getD_set_same _ _ _ _ (by omega)]
    · cases hz
  · rename_i e
    have hi : i < 8 := by have := (List.getElem?_eq_some_iff.1 hz).1; rw [v.l1] at this; exact this
    obtain ⟨a0, -, -⟩ := v.ch i z hz
    rw [getD_set_other _ _ _ _ _ (fun q => e (v.inj i c.toNat hi c8 (by unfold num at q; have h2 : (0 : Int) ≤ nth s.nm c.toNat := n0; omega) a0).symm)]
    exact h.ch i z hz
theorem wq_set (h : RI s gs) {c : Int} {st st' : St} (hc : Fk.nmB s.sts c = some st) (hs : ∀ x, x ∈ st'.snd ∨ x ∈ st'.rcv → x ∈ st.snd ∨ x ∈ st.rcv) : WQ (s.sts.set c.toNat (some st')) s.cr :=
  h.w.sub fun x hx => by
    rcases wm_set hx with q | q
    · exact q
    · exact ⟨_, st, Fk.nmB_at hc, hs x q⟩
theorem r2_go {e : Ev} (h : RI s gs) (hp : s.pk = false) (hg : Cr.gt s.cr e.g = some y) (hy : y.s = 0) (hk : e.k = 2 ∨ e.k = 3 ∨ e.k = 4 ∨ e.k = 5) : Gu.r2 gs.st gs.pn e = some (s.cr.map (·.s), false) := by
  rw [h.gi.st, h.gi.pn, hp, r2_in hg (by unfold Gu.may; rcases hk with q | q | q | q <;> simp [q, hy]) (by rcases hk with q | q | q | q <;> omega)]
  rcases hk with q | q | q | q <;> simp [q]
theorem r4_go {e : Ev} (h : RI s gs) (hk : e.k ≠ 7) : Gu.r4 gs.la e = some e := by
  unfold Gu.r4
  rw [h.gi.ow]
  simp [hk]
theorem r3_go {e : Ev} (hk : e.k ≠ 2) (hc : e.c < gs.ch.length) : Gu.r3 gs.ch e = some gs.ch := by
  unfold Gu.r3
  rw [if_neg hk, if_pos hc]
/-- a channel is made -/
theorem RI.make (h : RI s gs) (v : VI s) (hp : s.pk = false) (a b : Int) (ha : 0 ≤ a ∧ a < 8) (hb : 0 ≤ b) (hg : Cr.gt s.cr g = some y) (hy : y.s = 0) : ∃ gs', RI (goS (opensS s a b) ⟨2, g, s.md, -1, b, -1, false, false⟩) gs' := by
  have hl := h.gi.len
  have h0 := v.md0
  obtain ⟨e, he⟩ : ∃ e : Ev, e = ⟨2, g, s.md, -1, b, -1, false, false⟩ := ⟨_, rfl⟩
  have hk : e.k = 2 := by rw [he]
  have hgg : e.g = g := by rw [he]
  have hec : e.c = s.md := by rw [he]
  have hev : e.v = b := by rw [he]
  rw [← he]
  have r2 := r2_go (e := e) h hp (by rw [hgg]; exact hg) hy (.inl hk)
  have hs : ∀ nx, Gu.stepH gs e nx = some ⟨s.cr.map (·.s), false, gs.ch ++ [⟨b, [], false⟩], e⟩ := fun nx => by
    refine sh_ok r2 (ch3 := gs.ch ++ [⟨b, [], false⟩]) ?_ (r4_go h (by omega)) (ch5 := gs.ch ++ [⟨b, [], false⟩]) ?_ ?_
    · unfold Gu.r3
      rw [if_pos hk, if_neg (by rw [hec, hl]; simp), hev]
    · unfold Gu.r5 Gu.moves
      simp [hk]
    · unfold Gu.r6
      simp [hk]
  refine ⟨_, h.one (s' := goS (opensS s a b) e) rfl hs ⟨?_, hp.symm, ?_, fun i z hz => ?_, owed_k (e := e) (by omega) (by omega)⟩ ?_ ?_⟩
  · show _ = (Cr.chL s.cr e.g 0 0 1).map (·.s)
    rw [hgg]
    exact (go_map hg hy).symm
  · show ((gs.ch ++ [(⟨b, [], false⟩ : Gu.Chn)]).length : Int) = s.md + 1
    simp
    omega
  · have hz' : (s.sts.set a.toNat (some (_root_.Go.Proofs.YtkkgbeaaekmhfaaGreat.Pi.st0 b.toNat)))[i]? = some (some z) := hz
    show (gs.ch ++ [(⟨b, [], false⟩ : Gu.Chn)]).getD (nth (s.nm.set a.toNat s.md) i).toNat Gu.chz = vw z
    rw [List.getElem?_set] at hz'
    split at hz'
    · rename_i e1
      subst e1
      split at hz'
      · simp at hz'
        subst hz'
        have : nth (s.nm.set a.toNat s.md) a.toNat = s.md := by rw [nth_lt _ _ (by rw [List.length_set, v.l2]; omega), List.getElem_set_self]
        rw [this, List.getD_eq_getElem?_getD, List.getElem?_append_right (by omega)]
        have : s.md.toNat - gs.ch.length = 0 := by omega
        rw [this]
        unfold vw _root_.Go.Proofs.YtkkgbeaaekmhfaaGreat.Pi.st0
        simp
        omega
      · cases hz'
    · rename_i e1
      have hi : i < 8 := by have := (List.getElem?_eq_some_iff.1 hz').1; rw [v.l1] at this; exact this
      have hn : nth (s.nm.set a.toNat s.md) i = nth s.nm i := by
        rw [nth_lt _ _ (by rw [List.length_set, v.l2]; exact hi), nth_lt _ _ (by rw [v.l2]; exact hi), List.getElem_set_ne e1]
      obtain ⟨a0, -, -⟩ := v.ch i z hz'
      have := v.nlt i hi
      rw [hn, List.getD_eq_getElem?_getD, List.getElem?_append_left (by omega), ← List.getD_eq_getElem?_getD]
      exact h.gi.ch i z hz'
  · refine WQ.ch (h.w.sub fun x hx => ?_) (by rw [hgg]; exact hg) (by omega) _ _ _
    rcases wm_set hx with q | q
    · exact q
    · unfold _root_.Go.Proofs.YtkkgbeaaekmhfaaGreat.Pi.st0 at q
      simp at q
  · exact h.c.set ⟨(fun q => by unfold _root_.Go.Proofs.YtkkgbeaaekmhfaaGreat.Pi.st0 at q; cases q), Nat.zero_le _⟩ _
/-- a channel's state behind an event of who goes on -/
theorem RI.act (h : RI s gs) (v : VI s) (hp : s.pk = false) (e : Ev) (hg : Cr.gt s.cr e.g = some y) (hy : y.s = 0) (hk : e.k = 3 ∨ e.k = 4 ∨ e.k = 5) {c : Int} {st st' : St} (hc : Fk.nmB s.sts c = some st) (hec : e.c = num s c) (ho : Gu.owed e = false)
    (h5 : ∀ nx, Gu.r5 gs.ch e nx = some (gs.ch.set (num s c).toNat (vw st')) ∧ Gu.r6 (gs.ch.set (num s c).toNat (vw st')) e = some (gs.ch.set (num s c).toNat (vw st')) ∨ Gu.r5 gs.ch e nx = some gs.ch ∧ Gu.r6 gs.ch e = some (gs.ch.set (num s c).toNat (vw st'))) (hf : Fine st') (hw : ∀ x, x ∈ st'.snd ∨ x ∈ st'.rcv → x ∈ st.snd ∨ x ∈ st.rcv) :
    ∃ gs', RI (goS { s with sts := s.sts.set c.toNat (some st') } e) gs' ∧ gs'.la = e := by
  have hl := h.gi.len
  obtain ⟨n0, nl, -, -, -⟩ := h.at_ v hc
  have r2 := r2_go h hp hg hy (.inr hk)
  have r4 := r4_go (e := e) h (by rcases hk with q | q | q <;> omega)
  have r3 := r3_go (gs := gs) (e := e) (by rcases hk with q | q | q <;> omega) (by rw [hec]; exact nl)
  refine ⟨⟨s.cr.map (·.s), false, gs.ch.set (num s c).toNat (vw st'), e⟩, h.one (s' := goS { s with sts := s.sts.set c.toNat (some st') } e) rfl (fun nx => ?_) ⟨(go_map hg hy).symm, hp.symm, (by show ((gs.ch.set _ _).length : Int) = s.md; rw [List.length_set]; exact hl), ch_set h.gi v hc, ho⟩ (WQ.ch (wq_set h hc hw) hg (by omega) _ _ _) (h.c.set hf _), rfl⟩
  rcases h5 nx with ⟨a, b⟩ | ⟨a, b⟩
  · exact sh_ok r2 r3 r4 a b
  · exact sh_ok r2 r3 r4 a b
end
end Lo
end Go.Proofs.YtkkgbeaaekmhfaaGreat
