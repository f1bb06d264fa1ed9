/- Slots and the reference's slots side by side: each step of both, over this seat's program. -/
import Derived.Test.YtekdcfdjohlfcaaTv
import Derived.Test.YtekdcfdjohlfcaaTh
import Derived.Test.YtekdcfdjohlfcaaTn
import Derived.Test.YtekdcfdjohlfcaaTo
import Derived.Test.YtekdcfdjohlfcaaTp
namespace Go.Proofs.Ytekdcfdjohlfcaa
open Go.ChangeShapes Go.WideShapes Go.ChangeAt Go.RowKit
namespace Sl
open Ck
open Ba (KF Bd Nw)

def RB (G : Nat) (vs vr : Value) : Nat → Prop := fun k => k = G ∨ vs.ownBlock = some k ∨ vr.ownBlock = some k
def YR (Y0 : Nat → Prop) (G : Nat) (vs vr : Value) : Nat → Prop := fun k => Y0 k ∨ RB G vs vr k
theorem RX.blk {w w' : World} {G : Nat} {st : Rst} {vs vr : Value} (s : RX w G st vs vr) (hb : ∀ k, RB G vs vr k → w'.heap[k]? = w.heap[k]?) : RX w' G st vs vr :=
  ⟨(hb G (.inl rfl)).trans s.hp, own_blk s.os fun g e => hb g (.inr (.inl e)), own_blk s.or_ fun g e => hb g (.inr (.inr e)), s.ap, s.gs, s.gr⟩
theorem RX.rlt {w : World} {G : Nat} {st : Rst} {vs vr : Value} (s : RX w G st vs vr) : ∀ k, RB G vs vr k → k < w.heap.size := by
  rintro k (rfl | e | e)
  · exact s.lt
  · exact (s.os.lt k e).2
  · exact (s.or_.lt k e).2
theorem SX.turn {Y Y' : Nat → Prop} {S : Nat} {w w' : World} {st : Sst} {h : Nat → Option (List Int)} {vg vb : Value} (s : SX Y S w st h vg vb) (hsz : w.heap.size ≤ w'.heap.size) (hb : ∀ k, k < w.heap.size → ¬ Y k → w'.heap[k]? = w.heap[k]?) (hi : ∀ k, Y' k → Y k ∨ w.heap.size ≤ k) (hd : ∀ k, Y' k → k < w'.heap.size) : SX Y' S w' st h vg vb := by
  have f := s.foreign hsz hb
  have hlt := s.lt
  refine ⟨f.hp, f.gv, f.bk, s.ap, fun q => ?_, fun k e q => ?_, fun k e q => ?_, s.sg, s.sb, cx_ext s.cx (fun k hk hn => hb k hk fun q => hn (.inl q)) ?_ ?_, s.dom⟩
  · rcases hi S q with q | q
    · exact s.ys q
    · omega
  · have := (s.gv.lt k e).2
    rcases hi k q with q | q
    · exact s.yg k e q
    · omega
  · have := (s.bk.lt k e).2
    rcases hi k q with q | q
    · exact s.yb k e q
    · omega
  · rintro k (q | q | q | q)
    · rcases hi k q with q | q
      · exact .inl (.inl q)
      · exact .inr q
    · exact .inl (.inr (.inl q))
    · exact .inl (.inr (.inr (.inl q)))
    · exact .inl (.inr (.inr (.inr q)))
  · rintro k (q | q | q | q)
    · exact hd k q
    · rw [q]; omega
    · have := (s.gv.lt k q).2; omega
    · have := (s.bk.lt k q).2; omega
/-- both side by side -/
def JH (Y0 : Nat → Prop) (S G : Nat) (w : World) (st : Sst) (h : Nat → Option (List Int)) (rs : Rst) : Prop := ∃ vs vr, SW (YR Y0 G vs vr) S w st h ∧ RX w G rs vs vr ∧ ∀ k, RB G vs vr k → ¬ Y0 k
section
variable {Y0 : Nat → Prop} {S G : Nat} {w w' : World} {st st' : Sst} {h h' : Nat → Option (List Int)} {rs rs' : Rst}
theorem JH.below (j : JH Y0 S G w st h rs) (b : Below w.heap.size w w') : JH Y0 S G w' st h rs := by
  obtain ⟨vs, vr, s, r, n⟩ := j
  exact ⟨vs, vr, s.below b, r.below b, n⟩
theorem JH.ylt (j : JH Y0 S G w st h rs) : ∀ k, Y0 k → k < w.heap.size := by
  obtain ⟨vs, vr, s, r, n⟩ := j
  exact fun k q => s.ylt k (.inl q)
theorem JH.kp (j : JH Y0 S G w st h rs) (b : Below w.heap.size w w') : Kp Y0 w w' := Kp.of b j.ylt
theorem JH.get (j : JH Y0 S G w st h rs) {b : Nat} {l : List Int} (e : h b = some l) : CK w b l ∧ Canon l ∧ Valid l := by
  obtain ⟨vs, vr, s, r, n⟩ := j
  exact s.get e
/-- a step of the slots -/
theorem JH.sl {vs vr : Value} (r : RX w G rs vs vr) (n : ∀ k, RB G vs vr k → ¬ Y0 k) (s : SW (YR Y0 G vs vr) S w' st' h') (k : Kp (YR Y0 G vs vr) w w') : JH Y0 S G w' st' h' rs ∧ Kp Y0 w w' :=
  ⟨⟨vs, vr, s, r.blk fun x q => k.block x (.inr q), n⟩, Kp.mono k fun _ q => .inl q⟩
/-- a step of the reference -/
theorem JH.rf {vs vr vs' vr' : Value} (s : SW (YR Y0 G vs vr) S w st h) (n : ∀ k, RB G vs vr k → ¬ Y0 k) (r : RX w' G rs' vs' vr') (k : KF (RB G vs vr) w w') (hn : ∀ x, RB G vs' vr' x → RB G vs vr x ∨ w.heap.size ≤ x) : JH Y0 S G w' st h rs' ∧ Kp Y0 w w' := by
  have hy := s.ylt
  obtain ⟨vg, vb, s⟩ := s
  refine ⟨⟨vs', vr', ⟨vg, vb, s.turn k.size (fun x hx q => k.block x hx fun e => q (.inr e)) ?_ ?_⟩, r, ?_⟩, ⟨k.os, k.tape, k.output, k.size, fun x q => k.block x (hy x (.inl q)) fun e => n x e q⟩⟩
  · rintro x (q | q)
    · exact .inl (.inl q)
    · rcases hn x q with q | q
      · exact .inl (.inr q)
      · exact .inr q
  · rintro x (q | q)
    · exact Nat.lt_of_lt_of_le (hy x (.inl q)) k.size
    · exact r.rlt x q
  · intro x q y
    rcases hn x q with q | q
    · exact n x q y
    · have := hy x (.inl y); omega
end
/-- what is fetched is the same -/
def PF (h : Nat → Option (List Int)) (p : Option Nat) (o : Option (Nat → Int)) : Prop := p = none ∧ o = none ∨ ∃ x F l, p = some x ∧ o = some F ∧ h x = some l ∧ Good l F
theorem PF.ext {h h' : Nat → Option (List Int)} {p : Option Nat} {o : Option (Nat → Int)} (q : PF h p o) (e : Ext h h') : PF h' p o := by
  rcases q with q | ⟨x, F, l, q1, q2, q3, q4⟩
  · exact .inl q
  · exact .inr ⟨x, F, l, q1, q2, e _ _ q3, q4⟩
def fullR (rs : Rst) : Bool := decide (rs.recd.length + rs.sz ≤ rs.sent.length ∧ rs.recd.length + 1 ≤ rs.sent.length)
theorem full_yes {rs : Rst} (h : fullR rs = true) : rs.recd.length + rs.sz ≤ rs.sent.length ∧ rs.recd.length + 1 ≤ rs.sent.length := of_decide_eq_true h
theorem full_no {rs : Rst} (h : ¬ fullR rs = true) : ¬ (rs.recd.length + rs.sz ≤ rs.sent.length ∧ rs.recd.length + 1 ≤ rs.sent.length) := fun q => h (decide_eq_true q)
def seE (rs : Rst) : Int := if rs.closed = true then 90 else if fullR rs = true then 5 else 0
def seS (rs : Rst) (F : Nat → Int) : Rst := if rs.closed = true ∨ fullR rs = true then rs else { rs with sent := rs.sent ++ [F] }
def seF (rs : Rst) : Option (Nat → Int) := if rs.closed = true ∨ fullR rs = true then none else rpk rs true
def reE (rs : Rst) : Int := if (rpk rs false).isSome then 0 else 6
def reS (rs : Rst) (F : Nat → Int) : Rst := if (rpk rs false).isSome then { rs with recd := rs.recd ++ [F] } else rs
def clE (rs : Rst) : Int := if rs.closed = true then 90 else 0
def clS (rs : Rst) (F : Nat → Int) : Rst := if rs.closed = true then rs else { rs with closed := true, clg := F }
def drS (rs : Rst) (t : Int) : Rst := { rs with sent := rs.sent.map (zf t), recd := rs.recd.map (zf t), clg := zf t rs.clg }
section
variable {Y0 : Nat → Prop} {S G : Nat} {w w' : World} {st st' : Sst} {h h' : Nat → Option (List Int)} {rs rs' : Rst}
theorem CR.gl (c : CR st h rs) : st.gv.length ≤ rs.sent.length := by
  have := c.gv.len
  rw [List.length_drop] at this
  omega
theorem CR.bl (c : CR st h rs) : st.bk.length ≤ rs.recd.length := by
  have := c.bk.len
  have q := rh2_len rs rs.recd.length
  omega
theorem sendP (j : JH Y0 S G w st h rs) (c : CR st h rs) (hl : rs.sent.length ≤ 1000) (a : Nat) (l : List Int) (ha : h a = some l) (F : Nat → Int) (g : Good l F) :
    Calls Try.prog 10 #[.pointer (some ⟨S, 0, none⟩), .pointer (some ⟨a, 0, none⟩)] w fun r w' => ∃ p st' h', r = .returned (.tuple #[clv p, .int .i64 (seE rs)]) ∧ Ext h h' ∧ JH Y0 S G w' st' h' rs ∧ Kp Y0 w w' ∧ CR st' h' (seS rs F) ∧ PF h' p (seF rs) := by
  obtain ⟨vs, vr, s, r, n⟩ := j
  have e1 := c.sn
  have e2 := c.rc
  have e3 := c.le
  have e4 := c.gl
  obtain ⟨q1, q2, q3⟩ := c.sendE
  unfold seE seS seF
  by_cases hc : rs.closed = true
  · rw [if_pos hc, if_pos (.inl hc), if_pos (.inl hc)]
    have hE := q1 hc
    have s0 := s
    obtain ⟨vg, vb, s⟩ := s
    refine (send_err s _ (by rw [hE]; decide) (by omega) (by omega)).mono ?_
    rintro r' w' ⟨rfl, b⟩
    exact ⟨none, st, h, by rw [hE]; rfl, Ext.refl _, JH.below ⟨vs, vr, s0, r, n⟩ b, JH.kp ⟨vs, vr, s0, r, n⟩ b, c, .inl ⟨rfl, rfl⟩⟩
  · have hc' : rs.closed = false := by cases q : rs.closed with | true => exact absurd q hc | false => rfl
    by_cases hf : fullR rs = true
    · rw [if_neg hc, if_pos hf, if_pos (.inr hf), if_pos (.inr hf)]
      have hE := q2 hc' (full_yes hf)
      have s0 := s
      obtain ⟨vg, vb, s⟩ := s
      refine (send_err s _ (by rw [hE]; decide) (by omega) (by omega)).mono ?_
      rintro r' w' ⟨rfl, b⟩
      exact ⟨none, st, h, by rw [hE]; rfl, Ext.refl _, JH.below ⟨vs, vr, s0, r, n⟩ b, JH.kp ⟨vs, vr, s0, r, n⟩ b, c, .inl ⟨rfl, rfl⟩⟩
    · have ho : ¬ (rs.closed = true ∨ fullR rs = true) := fun q => q.elim hc hf
      rw [if_neg hc, if_neg hf, if_neg ho, if_neg ho]
      refine (send_ok s a l ha (q3 hc' (full_no hf)) (by omega) (by omega) (by omega)).mono ?_
      rintro r' w' ⟨rfl, A, h', -, e, hA, s', k⟩
      obtain ⟨j', k'⟩ := JH.sl r n s' k
      exact ⟨fetS st, _, h', rfl, e, j', k', c.send (full_no hf) e hA g, PF.ext c.fet e⟩
theorem sendQ (j : JH Y0 S G w st h rs) (hle : rs.recd.length ≤ rs.sent.length) (hl : rs.sent.length ≤ 1000) (hz : rs.sz ≤ 4) (F : Nat → Int) :
    Calls Try.prog 11 #[.pointer (some ⟨G, 0, none⟩), .agg (ra F)] w fun r w' => r = .returned (.tuple #[.agg (rfv (seF rs)), .int .i64 (seE rs)]) ∧ JH Y0 S G w' st h (seS rs F) ∧ Kp Y0 w w' := by
  have j0 := j
  obtain ⟨vs, vr, s, r, n⟩ := j
  unfold seE seS seF
  by_cases hc : rs.closed = true
  · rw [if_pos hc, if_pos (.inl hc), if_pos (.inl hc)]
    refine (rsend_closed r F hc).mono ?_
    rintro r' w' ⟨rfl, b⟩
    exact ⟨rfl, j0.below b, j0.kp b⟩
  · have hc' : rs.closed = false := by cases q : rs.closed with | true => exact absurd q hc | false => rfl
    by_cases hf : fullR rs = true
    · rw [if_neg hc, if_pos hf, if_pos (.inr hf), if_pos (.inr hf)]
      refine (rsend_full r F hc' (full_yes hf) (by omega)).mono ?_
      rintro r' w' ⟨rfl, b⟩
      exact ⟨rfl, j0.below b, j0.kp b⟩
    · have ho : ¬ (rs.closed = true ∨ fullR rs = true) := fun q => q.elim hc hf
      rw [if_neg hc, if_neg hf, if_neg ho, if_neg ho]
      refine (rsend_ok r F hc' (full_no hf) hle (by omega) hz).mono ?_
      rintro r' w' ⟨rfl, vs', r2, hb, k⟩
      refine ⟨rfl, JH.rf s n r2 ⟨k.os, k.tape, k.output, k.size, fun x hx q => k.block x hx ?_⟩ ?_⟩
      · rintro (e | e)
        · exact q (.inl e)
        · exact q (.inr (.inl e))
      · rintro x (e | e | e)
        · exact .inl (.inl e)
        · rcases hb with hb | ⟨N, hb, hN⟩
          · rw [hb] at e; exact .inl (.inr (.inl e))
          · rw [hb] at e; cases e; exact .inr hN
        · exact .inl (.inr (.inr e))
theorem recvP (j : JH Y0 S G w st h rs) (c : CR st h rs) (hl : rs.sent.length ≤ 1000) (a : Nat) (l : List Int) (ha : h a = some l) (F : Nat → Int) (g : Good l F) :
    Calls Try.prog 13 #[.pointer (some ⟨S, 0, none⟩), .pointer (some ⟨a, 0, none⟩)] w fun r w' => ∃ p st' h', r = .returned (.tuple #[clv p, .int .i64 (reE rs)]) ∧ Ext h h' ∧ JH Y0 S G w' st' h' rs ∧ Kp Y0 w w' ∧ CR st' h' (reS rs F) ∧ PF h' p (rpk rs false) := by
  have j0 := j
  obtain ⟨vs, vr, s, r, n⟩ := j
  have e2 := c.rc
  have e3 := c.le
  have e5 := c.bl
  unfold reE reS
  have hx := c.nxt
  cases hp : rpk rs false with
  | none =>
    have hg : st.gv = [] := by
      rcases hx with ⟨q, -⟩ | ⟨x, F', l', -, q, -⟩
      · exact List.head?_eq_none_iff.1 q
      · rw [hp] at q; cases q
    obtain ⟨vg, vb, s⟩ := s
    refine (recv_none s _ hg).mono ?_
    rintro r' w' ⟨rfl, b⟩
    exact ⟨none, st, h, rfl, Ext.refl _, j0.below b, j0.kp b, c, .inl ⟨rfl, rfl⟩⟩
  | some F' =>
    rcases hx with ⟨-, q⟩ | ⟨x, F2, l', q1, q2, q3, q4⟩
    · rw [hp] at q; cases q
    rw [hp] at q2
    cases q2
    obtain ⟨gl, hg⟩ : ∃ gl, st.gv = x :: gl := by
      cases hq : st.gv with
      | nil => rw [hq] at q1; cases q1
      | cons y gl => rw [hq] at q1; cases q1; exact ⟨gl, rfl⟩
    refine (recv_ok s a l ha x gl hg (by omega) (by omega)).mono ?_
    rintro r' w' ⟨rfl, A, h', e, hA, s', k⟩
    obtain ⟨j', k'⟩ := JH.sl r n s' k
    exact ⟨some x, _, h', rfl, e, j', k', c.recv hp e hA g, .inr ⟨x, F', l', rfl, rfl, e _ _ q3, q4⟩⟩
theorem recvQ (j : JH Y0 S G w st h rs) (hle : rs.recd.length ≤ rs.sent.length) (hl : rs.sent.length ≤ 1000) (F : Nat → Int) :
    Calls Try.prog 14 #[.pointer (some ⟨G, 0, none⟩), .agg (ra F)] w fun r w' => r = .returned (.tuple #[.agg (rfv (rpk rs false)), .int .i64 (reE rs)]) ∧ JH Y0 S G w' st h (reS rs F) ∧ Kp Y0 w w' := by
  have j0 := j
  obtain ⟨vs, vr, s, r, n⟩ := j
  unfold reE reS
  cases hp : rpk rs false with
  | none =>
    refine (rrecv_none r F hp).mono ?_
    rintro r' w' ⟨rfl, b⟩
    exact ⟨rfl, j0.below b, j0.kp b⟩
  | some F' =>
    refine (rrecv_ok r F F' hp (by omega)).mono ?_
    rintro r' w' ⟨rfl, vr', r2, hb, k⟩
    rw [hp]
    refine ⟨rfl, JH.rf s n r2 ⟨k.os, k.tape, k.output, k.size, fun x hx q => k.block x hx ?_⟩ ?_⟩
    · rintro (e | e)
      · exact q (.inl e)
      · exact q (.inr (.inr e))
    · rintro x (e | e | e)
      · exact .inl (.inl e)
      · exact .inl (.inr (.inl e))
      · rcases hb with hb | ⟨N, hb, hN⟩
        · rw [hb] at e; exact .inl (.inr (.inr e))
        · rw [hb] at e; cases e; exact .inr hN
theorem closeP (j : JH Y0 S G w st h rs) (c : CR st h rs) (a : Nat) (l : List Int) (ha : h a = some l) (F : Nat → Int) (g : Good l F) :
    Calls Try.prog 15 #[.pointer (some ⟨S, 0, none⟩), .pointer (some ⟨a, 0, none⟩)] w fun r w' => ∃ st' h', r = .returned (.int .i64 (clE rs)) ∧ Ext h h' ∧ JH Y0 S G w' st' h' rs ∧ Kp Y0 w w' ∧ CR st' h' (clS rs F) := by
  have j0 := j
  obtain ⟨vs, vr, s, r, n⟩ := j
  unfold clE clS
  rcases c.cl with ⟨q1, q2⟩ | ⟨b, l', q1, q2, -⟩
  · rw [if_neg (by rw [q2]; decide), if_neg (by rw [q2]; decide)]
    refine (close_ok s a l ha q1).mono ?_
    rintro r' w' ⟨rfl, A, h', e, hA, s', k⟩
    obtain ⟨j', k'⟩ := JH.sl r n s' k
    exact ⟨_, h', rfl, e, j', k', c.close e hA g⟩
  · rw [if_pos q2, if_pos q2]
    obtain ⟨vg, vb, s⟩ := s
    refine (close_err s _ b q1).mono ?_
    rintro r' w' ⟨rfl, rfl⟩
    exact ⟨st, h, rfl, Ext.refl _, j0, Kp.refl _ _, c⟩
theorem closeQ (j : JH Y0 S G w st h rs) (F : Nat → Int) :
    Calls Try.prog 16 #[.pointer (some ⟨G, 0, none⟩), .agg (ra F)] w fun r w' => r = .returned (.int .i64 (clE rs)) ∧ JH Y0 S G w' st h (clS rs F) ∧ Kp Y0 w w' := by
  have j0 := j
  obtain ⟨vs, vr, s, r, n⟩ := j
  unfold clE clS
  by_cases hc : rs.closed = true
  · rw [if_pos hc, if_pos hc]
    refine (rclose_closed r F hc).mono ?_
    rintro r' w' ⟨rfl, b⟩
    exact ⟨rfl, j0.below b, j0.kp b⟩
  · rw [if_neg hc, if_neg hc]
    refine (rclose_ok r F (by cases q : rs.closed with | true => exact absurd q hc | false => rfl)).mono ?_
    rintro r' w' ⟨rfl, r2, k⟩
    exact ⟨rfl, JH.rf s n r2 ⟨k.os, k.tape, k.output, k.size, fun x hx q => k.block x hx fun e => q (.inl e)⟩ fun x q => .inl q⟩
theorem dropP (j : JH Y0 S G w st h rs) (c : CR st h rs) (hl : rs.sent.length ≤ 1000) (t : Int) :
    Calls Try.prog 17 #[.pointer (some ⟨S, 0, none⟩), .int .i64 t] w fun r w' => ∃ h', r = .returned (.tuple #[]) ∧ JH Y0 S G w' st h' rs ∧ Kp Y0 w w' ∧ CR st h' (drS rs t) := by
  obtain ⟨vs, vr, s, r, n⟩ := j
  have e3 := c.le
  have e4 := c.gl
  have e5 := c.bl
  refine (drop_any s t (by omega) (by omega)).mono ?_
  rintro r' w' ⟨rfl, h', e, s', k⟩
  obtain ⟨j', k'⟩ := JH.sl r n s' k
  exact ⟨h', rfl, j', k', c.drop e⟩
theorem dropQ (j : JH Y0 S G w st h rs) (hle : rs.recd.length ≤ rs.sent.length) (hl : rs.sent.length ≤ 1000) (t : Int) :
    Calls Try.prog 18 #[.pointer (some ⟨G, 0, none⟩), .int .i64 t] w fun r w' => r = .returned (.tuple #[]) ∧ JH Y0 S G w' st h (drS rs t) ∧ Kp Y0 w w' := by
  obtain ⟨vs, vr, s, r, n⟩ := j
  refine (rdrop_any r t (by omega) (by omega)).mono ?_
  rintro r' w' ⟨rfl, r2, k⟩
  exact ⟨rfl, JH.rf s n r2 k fun x q => .inl q⟩
/-- same, of what was fetched -/
theorem same_pf (j : JH Y0 S G w st h rs) {p : Option Nat} {o : Option (Nat → Int)} (q : PF h p o) :
    Calls Try.prog 12 #[clv p, .agg (rfv o)] w fun r w' => r = .returned (.bool true) ∧ Below w.heap.size w w' := by
  rcases q with ⟨rfl, rfl⟩ | ⟨x, F, l, rfl, rfl, hx, g⟩
  · exact same_no nf w
  · obtain ⟨ck, cn, vl⟩ := j.get hx
    have h256 : l.length ≤ 256 := by obtain ⟨_, _, _, _, _, _, q⟩ := ck; exact q
    exact same_yes x l F w ck g vl cn h256
end
end Sl
end Go.Proofs.Ytekdcfdjohlfcaa
