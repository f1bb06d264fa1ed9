/- A loom's trace is taken by the reader: sends, receives, closings; without memory. -/
import Derived.Test.YtkkgbeaaekmhfaaGreatZjGl12
import Derived.Test.YtkkgbeaaekmhfaaGreatQr4
namespace Go.Proofs.YtkkgbeaaekmhfaaGreat
namespace Lo
open Ba

section
variable {s : Lm} {gs : Gu.Gs} {g : Int} {y : Mb}
theorem moves3 {e : Ev} (h : e.k = 3) : Gu.moves e = true := by unfold Gu.moves; simp [h]
theorem moves4 {e : Ev} (h : e.k = 4) (ho : e.o = true) : Gu.moves e = true := by unfold Gu.moves; simp [h, ho]
theorem r5_of {ch : List Gu.Chn} {e : Ev} {nx : Option Ev} {x x' : Gu.Chn} (hm : Gu.moves e = true) (hx : ch.getD e.c.toNat Gu.chz = x) (h : Gu.r5c x e nx = some x') : Gu.r5 ch e nx = some (ch.set e.c.toNat x') := by
  unfold Gu.r5
  rw [if_pos hm, hx, h]
  rfl
theorem r6_send {ch : List Gu.Chn} {e : Ev} (hk : e.k = 3) (hx : (ch.getD e.c.toNat Gu.chz).cl = false) : Gu.r6 ch e = some ch := by
  unfold Gu.r6
  simp only [hk, hx]
  simp
theorem r6_recv {ch : List Gu.Chn} {e : Ev} (hk : e.k = 4) (ho : e.o = true) (hx : e.m = -1 ∨ (ch.getD e.c.toNat Gu.chz).cl = false) : Gu.r6 ch e = some ch := by
  unfold Gu.r6
  simp only [hk, ho]
  rw [if_neg (by omega), if_neg (by omega), if_pos trivial, if_neg (by simp), if_pos hx]
/-- a send into the buffer -/
theorem RI.send1 (h : RI s gs) (v : VI s) (hp : s.pk = false) (e : Ev) (hg : Cr.gt s.cr e.g = some y) (hy : y.s = 0) (hk : e.k = 3) (hm : e.m = -1) {c : Int} {st st' : St} (hc : Fk.nmB s.sts c = some st) (hec : e.c = num s c) (hcl : st.closed = false) (hl : st.buf.length < st.size) (hst : st'.size = st.size ∧ st'.buf = st.buf ++ [e.v] ∧ st'.closed = st.closed ∧ st'.snd = st.snd ∧ st'.rcv = st.rcv) :
    ∃ gs', RI (goS { s with sts := s.sts.set c.toNat (some st') } e) gs' := by
  obtain ⟨n0, nl, nv, nf, nj⟩ := h.at_ v hc
  obtain ⟨t1, t2, t3, t4, t5⟩ := hst
  have hvw : vw st' = ⟨st.size, st.buf ++ [e.v], false⟩ := by unfold vw; rw [t1, t2, t3, hcl]
  have a5 : ∀ nx, Gu.r5 gs.ch e nx = some (gs.ch.set (num s c).toNat (vw st')) := fun nx => by
    rw [← hec]
    refine r5_of (x := vw st) (moves3 hk) (by rw [hec]; exact nv) ?_
    unfold Gu.r5c Gu.putP vw
    rw [if_neg (by omega), if_pos hk, if_pos (by simp; omega), t1, t2, t3]
  have a6 : Gu.r6 (gs.ch.set (num s c).toNat (vw st')) e = some (gs.ch.set (num s c).toNat (vw st')) := by
    rw [← hec]
    refine r6_send hk ?_
    rw [getD_set_same _ _ _ _ (by rw [hec]; omega), hvw]
  obtain ⟨gs', r, -⟩ := h.act v hp e hg hy (.inl hk) (st' := st') hc hec (by unfold Gu.owed; simp [hm]) (fun nx => .inl ⟨a5 nx, a6⟩) ⟨(fun q => by rw [t3, hcl] at q; cases q), by rw [t2, t1]; simp; omega⟩ (fun x hx => by rw [t4, t5] at hx; exact hx)
  exact ⟨gs', r⟩
/-- a receive out of the buffer -/
theorem RI.recv1 (h : RI s gs) (v : VI s) (hp : s.pk = false) (e : Ev) (hg : Cr.gt s.cr e.g = some y) (hy : y.s = 0) (hk : e.k = 4) (ho : e.o = true) (hm : e.m = -1) {c : Int} {st st' : St} (hc : Fk.nmB s.sts c = some st) (hec : e.c = num s c) {b : List Int} (hb : st.buf = e.v :: b) (hst : st'.size = st.size ∧ st'.buf = b ∧ st'.closed = st.closed ∧ st'.snd = st.snd ∧ st'.rcv = st.rcv) :
    ∃ gs', RI (goS { s with sts := s.sts.set c.toNat (some st') } e) gs' := by
  obtain ⟨n0, nl, nv, nf, nj⟩ := h.at_ v hc
  obtain ⟨t1, t2, t3, t4, t5⟩ := hst
  have hbl := nf.bf
  rw [hb] at hbl
  simp at hbl
  have a5 : ∀ nx, Gu.r5 gs.ch e nx = some (gs.ch.set (num s c).toNat (vw st')) := fun nx => by
    rw [← hec]
    refine r5_of (x := vw st) (moves4 hk ho) (by rw [hec]; exact nv) ?_
    unfold Gu.r5c Gu.putP vw
    rw [if_pos (.inl hk), if_neg (by omega), if_neg (by omega)]
    simp only [hb]
    rw [if_neg (by simp), if_pos (by omega), t1, t2, t3]
  obtain ⟨gs', r, -⟩ := h.act v hp e hg hy (.inr (.inl hk)) (st' := st') hc hec (by unfold Gu.owed; simp [hm]) (fun nx => .inl ⟨a5 nx, r6_recv hk ho (.inl hm)⟩) ⟨(fun q => by rw [t4, t5]; rw [t3] at q; exact nf.cl q), by rw [t2, t1]; omega⟩ (fun x hx => by rw [t4, t5] at hx; exact hx)
  exact ⟨gs', r⟩
/-- a receive from who closed -/
theorem RI.recv0 (h : RI s gs) (v : VI s) (hp : s.pk = false) (e : Ev) (hg : Cr.gt s.cr e.g = some y) (hy : y.s = 0) (hk : e.k = 4) (ho : e.o = false) (hm : e.m = -1) {c : Int} {st : St} (hc : Fk.nmB s.sts c = some st) (hec : e.c = num s c) (hb : st.buf = []) (hcl : st.closed = true) :
    ∃ gs', RI (goS { s with sts := s.sts.set c.toNat (some st) } e) gs' := by
  obtain ⟨n0, nl, nv, nf, nj⟩ := h.at_ v hc
  have a5 : ∀ nx, Gu.r5 gs.ch e nx = some gs.ch := fun nx => by
    unfold Gu.r5 Gu.moves
    simp [hk, ho]
  have a6 : Gu.r6 gs.ch e = some (gs.ch.set (num s c).toNat (vw st)) := by
    have e1 : gs.ch.set (num s c).toNat (vw st) = gs.ch := set_id (by
      rw [← nv, List.getD_eq_getElem?_getD]
      rw [List.getElem?_eq_getElem (by omega)]
      rfl)
    rw [e1]
    unfold Gu.r6
    simp only [hec, nv, hk, ho]
    rw [if_neg (by omega), if_neg (by omega), if_pos trivial, if_pos trivial]
    unfold vw
    simp [hb, hcl]
  obtain ⟨gs', r, -⟩ := h.act v hp e hg hy (.inr (.inl hk)) (st' := st) hc hec (by unfold Gu.owed; simp [hm]) (fun nx => .inr ⟨a5 nx, a6⟩) nf (fun x hx => hx)
  exact ⟨gs', r⟩
/-- who waited to receive is woken by a closing -/
theorem RI.wakeC (h : RI s gs) (hp : s.pk = false) {c : Int} (hc : c < s.md) (hla : gs.la.k = 5 ∧ gs.la.g = g ∧ gs.la.c = c) (x a : Int) (hx : Cr.gt s.cr x = some y) (hy : y.s = 1) : ∃ gs', RI (wakesS s ⟨7, x, c, a, 0, g, false, false⟩) gs' ∧ gs'.la = gs.la := by
  have hl := h.gi.len
  obtain ⟨e, he⟩ : ∃ e : Ev, e = ⟨7, x, c, a, 0, g, false, false⟩ := ⟨_, rfl⟩
  have hk : e.k = 7 := by rw [he]
  have hgg : e.g = x := by rw [he]
  have hec : e.c = c := by rw [he]
  have hem : e.m = g := by rw [he]
  have hes : e.s = false := by rw [he]
  have heo : e.o = false := by rw [he]
  rw [← he]
  have hx' : Cr.gt s.cr e.g = some y := by rw [hgg]; exact hx
  have r2 : Gu.r2 gs.st gs.pn e = some ((s.cr.map (·.s)).set e.g.toNat 0, false) := by
    rw [h.gi.st, h.gi.pn, hp, r2_in hx' (by unfold Gu.may; simp [hk, hy]) (by omega)]
    simp [hk]
  refine ⟨⟨(s.cr.map (·.s)).set e.g.toNat 0, false, gs.ch, gs.la⟩, h.one (s' := wakesS s e) rfl (fun nx => sh_ok r2 (r3_go (by omega) (by omega)) ?_ (ch5 := gs.ch) ?_ ?_) ⟨(ch_map hx' hy).symm, hp.symm, hl, fun i st hst => ?_, h.gi.ow⟩ (h.w.wake _ _ _ _) (h.c.leave _), rfl⟩
  · unfold Gu.r4
    rw [h.gi.ow]
    rw [if_neg (by simp), if_neg (by omega), if_pos]
    unfold Gu.closeP
    simp [hla.1, hla.2.1, hla.2.2, hem, hec, hes, heo]
  · unfold Gu.r5 Gu.moves
    simp [hk]
  · unfold Gu.r6
    simp [hk]
  · obtain ⟨z, hz, e2⟩ := Sv.leave e.g s.sts i st hst
    rw [e2]
    exact h.gi.ch i z hz
theorem parked_some {s : Lm} {x : Int} (h : parked s x = true) : ∃ y, Cr.gt s.cr x = some y ∧ y.s = 1 := by
  unfold parked Cr.one0 at h
  cases hg : Cr.gt s.cr x with
  | none => rw [hg] at h; simp at h
  | some y => rw [hg] at h; simp at h; exact ⟨y, rfl, h⟩
theorem RI.wakeL {c : Int} : ∀ (l : List Wt) {s : Lm} {gs : Gu.Gs}, RI s gs → s.pk = false → c < s.md → (gs.la.k = 5 ∧ gs.la.g = g ∧ gs.la.c = c) → ∃ gs', RI (wakeAll g c s l) gs'
  | [], _, gs, h, _, _, _ => ⟨gs, h⟩
  | x :: l, s, gs, h, hp, hc, hla => by
    unfold Lo.wakeAll
    cases hq : parked s x.g
    · simp only [Bool.false_eq_true, if_false]
      exact RI.wakeL l h hp hc hla
    · simp only [if_true]
      obtain ⟨y, hy, hy1⟩ := parked_some hq
      obtain ⟨gs1, h1, e1⟩ := h.wakeC hp hc hla x.g x.c hy hy1
      exact RI.wakeL l h1 hp hc (by rw [e1]; exact hla)
/-- a closing -/
theorem RI.close (h : RI s gs) (v : VI s) (hp : s.pk = false) (hg : Cr.gt s.cr g = some y) (hy : y.s = 0) {c : Int} {st : St} (hc : Fk.nmB s.sts c = some st) (hcl : st.closed = false) :
    ∃ gs', RI (wakeAll g (num s c) (goS { s with sts := s.sts.set c.toNat (some (_root_.Go.Proofs.YtkkgbeaaekmhfaaGreat.Pi.closeS st)) } ⟨5, g, num s c, -1, -1, -1, false, false⟩) st.rcv) gs' := by
  obtain ⟨n0, nl, nv, nf, nj⟩ := h.at_ v hc
  have hl := h.gi.len
  have hcs : _root_.Go.Proofs.YtkkgbeaaekmhfaaGreat.Pi.closeS st = { st with snd := [], rcv := [], closed := true } := by unfold _root_.Go.Proofs.YtkkgbeaaekmhfaaGreat.Pi.closeS; rw [hcl]; rfl
  have a5 : ∀ nx, Gu.r5 gs.ch ⟨5, g, num s c, -1, -1, -1, false, false⟩ nx = some gs.ch := fun nx => by
    unfold Gu.r5 Gu.moves
    simp
  have a6 : Gu.r6 gs.ch ⟨5, g, num s c, -1, -1, -1, false, false⟩ = some (gs.ch.set (num s c).toNat (vw (_root_.Go.Proofs.YtkkgbeaaekmhfaaGreat.Pi.closeS st))) := by
    unfold Gu.r6
    simp only [nv]
    rw [if_pos trivial, if_neg (by unfold vw; simp [hcl]), hcs]
    rfl
  obtain ⟨gs', r, e1⟩ := h.act v hp ⟨5, g, num s c, -1, -1, -1, false, false⟩ hg hy (.inr (.inr rfl)) (st' := _root_.Go.Proofs.YtkkgbeaaekmhfaaGreat.Pi.closeS st) hc rfl (owed_k (by simp) (by simp)) (fun nx => .inr ⟨a5 nx, a6⟩) (by rw [hcs]; exact ⟨fun _ => ⟨rfl, rfl⟩, nf.bf⟩) (fun x hx => by rw [hcs] at hx; simp at hx)
  exact RI.wakeL st.rcv r hp (by show num s c < s.md; omega) (by rw [e1]; exact ⟨rfl, rfl, rfl⟩)
end
end Lo
end Go.Proofs.YtkkgbeaaekmhfaaGreat
