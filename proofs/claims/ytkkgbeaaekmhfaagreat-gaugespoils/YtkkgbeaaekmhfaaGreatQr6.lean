/- A loom's trace is taken by the reader: services, and each operation; without memory. -/
import Derived.Test.YtkkgbeaaekmhfaaGreatZjGl12
import Derived.Test.YtkkgbeaaekmhfaaGreatQr5
namespace Go.Proofs.YtkkgbeaaekmhfaaGreat
namespace Lo
open Ba

section
variable {s : Lm} {gs : Gu.Gs} {g : Int} {y z : Mb}
/-- one who waited is served -/
theorem RI.serve (h : RI s gs) (v : VI s) (hp : s.pk = false) (e x : Ev) (hg : Cr.gt s.cr e.g = some y) (hy : y.s = 0) (hz : Cr.gt s.cr e.m = some z) (hz1 : z.s = 1) (hk : e.k = 3 ∨ e.k = 4) {c : Int} {st st' : St} (hc : Fk.nmB s.sts c = some st) (hec : e.c = num s c)
    (hx : x.k = 7 ∧ x.g = e.m ∧ x.c = e.c ∧ x.m = e.g ∧ x.o = true) (hxs : (e.k = 4 ∧ x.s = true) ∨ (e.k = 3 ∧ x.s = false ∧ x.v = e.v))
    (h5 : Gu.r5 gs.ch e (some x) = some (gs.ch.set (num s c).toNat (vw st'))) (h6 : Gu.r6 (gs.ch.set (num s c).toNat (vw st')) e = some (gs.ch.set (num s c).toNat (vw st'))) {ch2 ch3 : List Gu.Chn} (h52 : Gu.r5 gs.ch e none = some ch2) (h62 : Gu.r6 ch2 e = some ch3) (hf : Fine st') (hw : ∀ x, x ∈ st'.snd ∨ x ∈ st'.rcv → x ∈ st.snd ∨ x ∈ st.rcv) :
    ∃ gs', RI (wakesS (goS { s with sts := s.sts.set c.toNat (some st') } e) x) gs' := by
  have hl := h.gi.len
  obtain ⟨n0, nl, -, -, -⟩ := h.at_ v hc
  obtain ⟨x1, x2, x3, x4, x5⟩ := hx
  have hm0 := (gt_at hz).1
  have hne : e.m ≠ e.g := fun q => by rw [q, hg] at hz; cases hz; omega
  have r2 := r2_go h hp hg hy (by rcases hk with q | q <;> omega)
  have r4 := r4_go (e := e) h (by rcases hk with q | q <;> omega)
  have r3 := r3_go (gs := gs) (e := e) (by rcases hk with q | q <;> omega) (by rw [hec]; exact nl)
  have hz' : Cr.gt (Cr.chL s.cr e.g 0 0 1) x.g = some z := by rw [x2, gt_ch_other hne]; exact hz
  have r2x : Gu.r2 (s.cr.map (·.s)) false x = some ((s.cr.map (·.s)).set x.g.toNat 0, false) := by
    rw [← go_map (d := 1) hg hy, r2_in hz' (by unfold Gu.may; simp [x1, hz1]) (by omega)]
    simp [x1]
  have r4x : Gu.r4 e x = some x := by
    unfold Gu.r4
    have ho : Gu.owed e = true := by
      unfold Gu.owed
      rcases hk with q | q <;> simp [q] <;> omega
    rw [if_pos ho, if_pos]
    unfold Gu.servP
    rw [if_neg (by simp [x1, x2, x3, x4, x5])]
    rcases hxs with ⟨q, q2⟩ | ⟨q, q2, q3⟩
    · rw [if_pos q]; exact q2
    · rw [if_neg (by omega)]; simp [q2, q3]
  refine ⟨⟨(s.cr.map (·.s)).set x.g.toNat 0, false, gs.ch.set (num s c).toNat (vw st'), x⟩, h.two (s' := wakesS (goS { s with sts := s.sts.set c.toNat (some st') } e) x) (e := e) (x := x) ?_ (sh_ok r2 r3 r4 h5 h6) (sh_ok r2 r3 r4 h52 h62) (fun nx => sh_ok (gs := ⟨s.cr.map (·.s), false, gs.ch.set (num s c).toNat (vw st'), e⟩) r2x (r3_go (by omega) (by show x.c < ((gs.ch.set _ _).length : Int); rw [List.length_set, x3, hec]; exact nl)) r4x (ch5 := gs.ch.set (num s c).toNat (vw st')) ?_ ?_) ⟨?_, hp.symm, ?_, fun i w hw2 => ?_, owed_k (e := x) (by omega) (by omega)⟩ ?_ ?_⟩
  · show s.tr ++ [e] ++ [x] = s.tr ++ [e, x]
    simp
  · unfold Gu.r5 Gu.moves
    simp [x1]
  · unfold Gu.r6
    simp [x1]
  · show _ = (Cr.chL (Cr.chL s.cr e.g 0 0 1) x.g 1 0 1).map (·.s)
    rw [ch_map hz' hz1, go_map hg hy]
  · show ((gs.ch.set _ _).length : Int) = s.md
    rw [List.length_set]
    exact hl
  · obtain ⟨q, hq, e2⟩ := Sv.leave x.g (s.sts.set c.toNat (some st')) i w hw2
    rw [e2]
    exact ch_set h.gi v hc i q hq
  · exact WQ.wake (WQ.ch (wq_set h hc hw) hg (by omega) 0 0 1) _ _ _ _
  · exact (h.c.set hf _).leave _
theorem RI.eqv {s' : Lm} (h : RI s gs) (h1 : s'.tr = s.tr) (h2 : s'.cr = s.cr) (h3 : s'.sts = s.sts) (h4 : s'.nm = s.nm) (h5 : s'.md = s.md) (h6 : s'.pk = s.pk) : RI s' gs := by
  refine ⟨by rw [h1]; exact h.acc, ⟨by rw [h2]; exact h.gi.st, by rw [h6]; exact h.gi.pn, by rw [h5]; exact h.gi.len, fun i st hi => ?_, h.gi.ow⟩, by rw [h3, h2]; exact h.w, by rw [h3]; exact h.c⟩
  rw [h4]
  rw [h3] at hi
  exact h.gi.ch i st hi
theorem tryS_no {sts : List (Option St)} {c : Ca} (h : Fk.tryE sts c ≠ 0 ∨ (Fk.tryG sts c).rd = false) : Fk.tryS sts c = sts := by
  unfold Fk.tryS
  unfold Fk.tryE Fk.tryG at h
  split
  · rfl
  · rename_i st e
    rw [e] at h
    simp only at h
    have key : (if c.sd then _root_.Go.Proofs.YtkkgbeaaekmhfaaGreat.Pi.sendS st c.v else _root_.Go.Proofs.YtkkgbeaaekmhfaaGreat.Pi.recvS st) = st := by
      cases hs : c.sd
      · simp only [hs, Bool.false_eq_true, if_false] at h ⊢
        rcases h with h | h
        · exact absurd rfl h
        · unfold _root_.Go.Proofs.YtkkgbeaaekmhfaaGreat.Pi.recvG at h
          unfold _root_.Go.Proofs.YtkkgbeaaekmhfaaGreat.Pi.recvS
          split at h <;> simp_all
      · simp only [hs, if_true] at h ⊢
        unfold _root_.Go.Proofs.YtkkgbeaaekmhfaaGreat.Pi.sendS
        unfold _root_.Go.Proofs.YtkkgbeaaekmhfaaGreat.Pi.sendE _root_.Go.Proofs.YtkkgbeaaekmhfaaGreat.Pi.sendG at h
        cases hc : st.closed
        · simp only [hc, Bool.false_eq_true, if_false] at h ⊢
          rcases h with h | h
          · exact absurd rfl h
          · split at h
            · simp at h
            · rename_i hr
              simp only [hr]
              split at h
              · simp at h
              · rename_i hl
                rw [if_neg hl]
        · simp
    rw [key]
    exact set_id (Fk.nmB_at e)
theorem try_no {s : Lm} {g a : Int} {c : Ca} (h : (tryF s g a c).done = false) : (tryF s g a c).s = s := by
  unfold tryF at h ⊢
  split
  · rename_i q
    simp only [tryS_no q]
  · rename_i q
    rw [if_neg q] at h
    split at h <;> cases h
/-- who waits first, with what is known of it -/
theorem RI.mate (h : RI s gs) {c : Int} {st : St} (hc : Fk.nmB s.sts c = some st) {x : Wt} (hx : x ∈ st.snd ∨ x ∈ st.rcv) : ∃ z, Cr.gt s.cr x.g = some z ∧ z.s = 1 := h.w x ⟨_, st, Fk.nmB_at hc, hx⟩
theorem RI.try_ (h : RI s gs) (v : VI s) (hp : s.pk = false) (hg : Cr.gt s.cr g = some y) (hy : y.s = 0) (a : Int) (c : Ca) : ∃ gs', RI (tryF s g a c).s gs' := by
  cases hd : (tryF s g a c).done
  · rw [try_no hd]
    exact ⟨gs, h⟩
  unfold tryF at hd ⊢
  by_cases q : Fk.tryE s.sts c ≠ 0 ∨ (Fk.tryG s.sts c).rd = false
  · rw [if_pos q] at hd
    cases hd
  rw [if_neg q]
  clear hd
  cases hn : Fk.nmB s.sts c.ch with
  | none =>
    exfalso
    apply q
    right
    unfold Fk.tryG
    rw [hn]
    rfl
  | some st =>
    obtain ⟨n0, nl, nv, nf, nj⟩ := h.at_ v hn
    have eG : Fk.tryG s.sts c = if c.sd then _root_.Go.Proofs.YtkkgbeaaekmhfaaGreat.Pi.sendG st else _root_.Go.Proofs.YtkkgbeaaekmhfaaGreat.Pi.recvG st := by unfold Fk.tryG; rw [hn]
    have eS : Fk.tryS s.sts c = s.sts.set c.ch.toNat (some (if c.sd then _root_.Go.Proofs.YtkkgbeaaekmhfaaGreat.Pi.sendS st c.v else _root_.Go.Proofs.YtkkgbeaaekmhfaaGreat.Pi.recvS st)) := by unfold Fk.tryS; rw [hn]
    have eE : Fk.tryE s.sts c = if c.sd then _root_.Go.Proofs.YtkkgbeaaekmhfaaGreat.Pi.sendE st else 0 := by unfold Fk.tryE; rw [hn]
    rw [eS]
    cases hs : c.sd
    · simp only [hs, Bool.false_eq_true, if_false] at eG q ⊢
      rw [eG] at q ⊢
      rcases hb : st.buf with _ | ⟨b0, b⟩ <;> rcases hq : st.snd with _ | ⟨m, t⟩
      · -- closed, or nothing
        have hG : _root_.Go.Proofs.YtkkgbeaaekmhfaaGreat.Pi.recvG st = ⟨st.closed, false, false, 0, ⟨0, 0, 0⟩⟩ := by unfold _root_.Go.Proofs.YtkkgbeaaekmhfaaGreat.Pi.recvG; rw [hb, hq]
        have hS : _root_.Go.Proofs.YtkkgbeaaekmhfaaGreat.Pi.recvS st = st := by unfold _root_.Go.Proofs.YtkkgbeaaekmhfaaGreat.Pi.recvS; rw [hb, hq]
        have hcl : st.closed = true := by
          cases hc : st.closed
          · exfalso; apply q; right; rw [hG]; exact hc
          · rfl
        rw [hG, hS]
        simp only [Bool.false_eq_true, if_false]
        exact h.recv0 v hp (tryV s g a c ⟨st.closed, false, false, 0, ⟨0, 0, 0⟩⟩) hg hy (by simp [tryV, hs]) rfl (by simp [tryV]) hn rfl hb hcl
      · have hG : _root_.Go.Proofs.YtkkgbeaaekmhfaaGreat.Pi.recvG st = ⟨true, true, true, m.v, m⟩ := by unfold _root_.Go.Proofs.YtkkgbeaaekmhfaaGreat.Pi.recvG; rw [hb, hq]
        have hS : _root_.Go.Proofs.YtkkgbeaaekmhfaaGreat.Pi.recvS st = { st with snd := t, sent := st.sent + 1, got := st.got + 1 } := by unfold _root_.Go.Proofs.YtkkgbeaaekmhfaaGreat.Pi.recvS; rw [hb, hq]
        rw [hG, hS]
        simp only [if_true]
        obtain ⟨z, hz, hz1⟩ := h.mate hn (x := m) (.inl (by rw [hq]; simp))
        have hcl : st.closed = false := by
          cases hc : st.closed
          · rfl
          · have := (nf.cl hc).1; rw [hq] at this; cases this
        have hm0 := (gt_at hz).1
        obtain ⟨e, he⟩ : ∃ e, e = tryV s g a c ⟨true, true, true, m.v, m⟩ := ⟨_, rfl⟩
        have ek : e.k = 4 := by rw [he]; simp [tryV, hs]
        have em : e.m = m.g := by rw [he]; simp [tryV]
        have ev : e.v = m.v := by rw [he]; simp [tryV, hs]
        have eo : e.o = true := by rw [he]; rfl
        have es : e.s = false := by rw [he]; simp [tryV, hs]
        have ec : e.c = num s c.ch := by rw [he]; rfl
        rw [← he]
        have r5s : Gu.r5 gs.ch e (some (servV e ⟨true, true, true, m.v, m⟩)) = some (gs.ch.set (num s c.ch).toNat (vw { st with snd := t, sent := st.sent + 1, got := st.got + 1 })) := by
          rw [← ec]
          refine r5_of (x := vw st) (moves4 ek eo) (by rw [ec]; exact nv) ?_
          unfold Gu.r5c Gu.putP vw
          rw [if_pos (.inl ek), if_neg (by omega), if_pos (by omega)]
          simp only [hb, servV, es, Bool.false_eq_true, if_false, List.nil_append]
          rw [if_neg (by simp [ev]), if_pos (by simp)]
        have r5n : Gu.r5 gs.ch e none = some (gs.ch.set e.c.toNat (vw st)) := by
          refine r5_of (x := vw st) (moves4 ek eo) (by rw [ec]; exact nv) ?_
          unfold Gu.r5c Gu.putP vw
          rw [if_pos (.inl ek), if_neg (by omega), if_pos (by omega)]
          simp only [hb]
          rw [if_pos (by omega)]
        exact h.serve v hp e (servV e ⟨true, true, true, m.v, m⟩) (by rw [he]; exact hg) hy (by rw [em]; exact hz) hz1 (.inr ek) hn ec ⟨rfl, em.symm, rfl, rfl, rfl⟩ (.inl ⟨ek, by simp [servV, es]⟩) r5s
          (r6_recv ek eo (.inr (by rw [ec, getD_set_same _ _ _ _ (by omega)]; exact hcl))) r5n (r6_recv ek eo (.inr (by rw [getD_set_same _ _ _ _ (by omega)]; exact hcl))) ⟨(fun w => by simp only at w; rw [hcl] at w; cases w), nf.bf⟩ (fun x hx => by
            rcases hx with hx | hx
            · exact .inl (by rw [hq]; exact List.mem_cons_of_mem _ hx)
            · exact .inr hx)
      · have hG : _root_.Go.Proofs.YtkkgbeaaekmhfaaGreat.Pi.recvG st = ⟨true, true, false, b0, ⟨0, 0, 0⟩⟩ := by unfold _root_.Go.Proofs.YtkkgbeaaekmhfaaGreat.Pi.recvG; rw [hb, hq]
        have hS : _root_.Go.Proofs.YtkkgbeaaekmhfaaGreat.Pi.recvS st = { st with buf := b, got := st.got + 1 } := by unfold _root_.Go.Proofs.YtkkgbeaaekmhfaaGreat.Pi.recvS; rw [hb, hq]
        rw [hG, hS]
        simp only [Bool.false_eq_true, if_false]
        exact h.recv1 v hp (tryV s g a c ⟨true, true, false, b0, ⟨0, 0, 0⟩⟩) hg hy (by simp [tryV, hs]) rfl (by simp [tryV]) hn rfl (b := b) (by rw [hb]; simp [tryV, hs]) ⟨rfl, rfl, rfl, rfl, rfl⟩
      · have hG : _root_.Go.Proofs.YtkkgbeaaekmhfaaGreat.Pi.recvG st = ⟨true, true, true, b0, m⟩ := by unfold _root_.Go.Proofs.YtkkgbeaaekmhfaaGreat.Pi.recvG; rw [hb, hq]
        have hS : _root_.Go.Proofs.YtkkgbeaaekmhfaaGreat.Pi.recvS st = { st with buf := b ++ [m.v], snd := t, sent := st.sent + 1, got := st.got + 1 } := by unfold _root_.Go.Proofs.YtkkgbeaaekmhfaaGreat.Pi.recvS; rw [hb, hq]
        rw [hG, hS]
        simp only [if_true]
        obtain ⟨z, hz, hz1⟩ := h.mate hn (x := m) (.inl (by rw [hq]; simp))
        have hcl : st.closed = false := by
          cases hc : st.closed
          · rfl
          · have := (nf.cl hc).1; rw [hq] at this; cases this
        have hm0 := (gt_at hz).1
        have hbl := nf.bf
        rw [hb] at hbl
        simp at hbl
        obtain ⟨e, he⟩ : ∃ e, e = tryV s g a c ⟨true, true, true, b0, m⟩ := ⟨_, rfl⟩
        have ek : e.k = 4 := by rw [he]; simp [tryV, hs]
        have em : e.m = m.g := by rw [he]; simp [tryV]
        have ev : e.v = b0 := by rw [he]; simp [tryV, hs]
        have eo : e.o = true := by rw [he]; rfl
        have es : e.s = false := by rw [he]; simp [tryV, hs]
        have ec : e.c = num s c.ch := by rw [he]; rfl
        rw [← he]
        have r5s : Gu.r5 gs.ch e (some (servV e ⟨true, true, true, b0, m⟩)) = some (gs.ch.set (num s c.ch).toNat (vw { st with buf := b ++ [m.v], snd := t, sent := st.sent + 1, got := st.got + 1 })) := by
          rw [← ec]
          refine r5_of (x := vw st) (moves4 ek eo) (by rw [ec]; exact nv) ?_
          unfold Gu.r5c Gu.putP vw
          rw [if_pos (.inl ek), if_neg (by omega), if_pos (by omega)]
          simp only [hb, servV, es, Bool.false_eq_true, if_false, List.cons_append]
          rw [if_neg (by simp [ev]), if_pos (by simp; omega)]
        have r5n : Gu.r5 gs.ch e none = some (gs.ch.set e.c.toNat ⟨st.size, b, st.closed⟩) := by
          refine r5_of (x := vw st) (moves4 ek eo) (by rw [ec]; exact nv) ?_
          unfold Gu.r5c Gu.putP vw
          rw [if_pos (.inl ek), if_neg (by omega), if_pos (by omega)]
          simp only [hb]
          rw [if_neg (by simp [ev]), if_pos (by omega)]
        exact h.serve v hp e (servV e ⟨true, true, true, b0, m⟩) (by rw [he]; exact hg) hy (by rw [em]; exact hz) hz1 (.inr ek) hn ec ⟨rfl, em.symm, rfl, rfl, rfl⟩ (.inl ⟨ek, by simp [servV, es]⟩) r5s
          (r6_recv ek eo (.inr (by rw [ec, getD_set_same _ _ _ _ (by omega)]; exact hcl))) r5n (r6_recv ek eo (.inr (by rw [getD_set_same _ _ _ _ (by omega)]; exact hcl))) ⟨(fun w => by simp only at w; rw [hcl] at w; cases w), by simp; omega⟩ (fun x hx => by
            rcases hx with hx | hx
            · exact .inl (by rw [hq]; exact List.mem_cons_of_mem _ hx)
            · exact .inr hx)
    · simp only [hs, if_true] at eG eE q ⊢
      rw [eG, eE] at q
      rw [eG]
      have hcl : st.closed = false := by
        cases hc : st.closed
        · rfl
        · exfalso; apply q; left; unfold _root_.Go.Proofs.YtkkgbeaaekmhfaaGreat.Pi.sendE; rw [hc]; decide
      rcases hq : st.rcv with _ | ⟨m, t⟩
      · have hl : st.buf.length < st.size := by
          by_cases hl : st.buf.length < st.size
          · exact hl
          · exfalso; apply q; right; unfold _root_.Go.Proofs.YtkkgbeaaekmhfaaGreat.Pi.sendG; rw [hcl, hq]; simp [hl]; rfl
        have hG : _root_.Go.Proofs.YtkkgbeaaekmhfaaGreat.Pi.sendG st = ⟨true, false, false, 0, ⟨0, 0, 0⟩⟩ := by unfold _root_.Go.Proofs.YtkkgbeaaekmhfaaGreat.Pi.sendG; rw [hcl, hq]; simp [hl]
        have hS : _root_.Go.Proofs.YtkkgbeaaekmhfaaGreat.Pi.sendS st c.v = { st with buf := st.buf ++ [c.v], sent := st.sent + 1 } := by unfold _root_.Go.Proofs.YtkkgbeaaekmhfaaGreat.Pi.sendS; rw [hcl, hq]; simp [hl]
        rw [hG, hS]
        simp only [Bool.false_eq_true, if_false]
        exact h.send1 v hp (tryV s g a c ⟨true, false, false, 0, ⟨0, 0, 0⟩⟩) hg hy (by simp [tryV, hs]) (by simp [tryV]) hn rfl hcl hl ⟨rfl, by simp [tryV, hs], rfl, rfl, rfl⟩
      · have hG : _root_.Go.Proofs.YtkkgbeaaekmhfaaGreat.Pi.sendG st = ⟨true, false, true, 0, m⟩ := by unfold _root_.Go.Proofs.YtkkgbeaaekmhfaaGreat.Pi.sendG; rw [hcl, hq]; simp
        have hS : _root_.Go.Proofs.YtkkgbeaaekmhfaaGreat.Pi.sendS st c.v = { st with rcv := t, sent := st.sent + 1, got := st.got + 1 } := by unfold _root_.Go.Proofs.YtkkgbeaaekmhfaaGreat.Pi.sendS; rw [hcl, hq]; simp
        rw [hG, hS]
        simp only [if_true]
        obtain ⟨z, hz, hz1⟩ := h.mate hn (x := m) (.inr (by rw [hq]; simp))
        have hm0 := (gt_at hz).1
        have hb : st.buf = [] := nj (by rw [hq]; simp)
        obtain ⟨e, he⟩ : ∃ e, e = tryV s g a c ⟨true, false, true, 0, m⟩ := ⟨_, rfl⟩
        have ek : e.k = 3 := by rw [he]; simp [tryV, hs]
        have em : e.m = m.g := by rw [he]; simp [tryV]
        have es : e.s = true := by rw [he]; simp [tryV, hs]
        have ec : e.c = num s c.ch := by rw [he]; rfl
        rw [← he]
        have r5s : ∀ nx, Gu.r5 gs.ch e nx = some (gs.ch.set (num s c.ch).toNat (vw { st with rcv := t, sent := st.sent + 1, got := st.got + 1 })) := fun nx => by
          rw [← ec]
          refine r5_of (x := vw st) (moves3 ek) (by rw [ec]; exact nv) ?_
          unfold Gu.r5c Gu.putP vw
          rw [if_pos (.inr (by omega)), if_pos ek]
          simp only [hb, List.nil_append]
          rw [if_neg (by simp), if_pos (by simp)]
        have r6s : Gu.r6 (gs.ch.set (num s c.ch).toNat (vw { st with rcv := t, sent := st.sent + 1, got := st.got + 1 })) e = some (gs.ch.set (num s c.ch).toNat (vw { st with rcv := t, sent := st.sent + 1, got := st.got + 1 })) := r6_send ek (by rw [ec, getD_set_same _ _ _ _ (by omega)]; exact hcl)
        exact h.serve v hp e (servV e ⟨true, false, true, 0, m⟩) (by rw [he]; exact hg) hy (by rw [em]; exact hz) hz1 (.inl ek) hn ec ⟨rfl, em.symm, rfl, rfl, rfl⟩ (.inr ⟨ek, by simp [servV, es], by simp [servV, es]⟩) (r5s _) r6s (r5s _) r6s ⟨(fun w => by simp only at w; rw [hcl] at w; cases w), nf.bf⟩ (fun x hx => by
            rcases hx with hx | hx
            · exact .inl hx
            · exact .inr (by rw [hq]; exact List.mem_cons_of_mem _ hx))
end
end Lo
end Go.Proofs.YtkkgbeaaekmhfaaGreat
