import Derived.Test.YtblfimobiibmjabGreatZjAx12
namespace Go.Proofs.YtblfimobiibmjabGreat
namespace Lo
open Ba
structure Sme (s s' : Lm) : Prop where
 ps : s'.ps = s.ps
 p : s'.p = s.p
 d : ∀ x ∈ s'.d, x ∈ s.d
 dl : s'.d.length ≤ s.d.length
theorem Sme.refl (s : Lm) : Sme s s := ⟨rfl, rfl, fun _ h => h, Nat.le_refl _⟩
theorem Sme.trans {a b c : Lm} (h : Sme a b) (k : Sme b c) : Sme a c := ⟨k.ps.trans h.ps, k.p.trans h.p, fun x hx => h.d x (k.d x hx), Nat.le_trans k.dl h.dl⟩
theorem sme_try (s : Lm) (g at_ : Int) (c : Ca) : Sme s (tryF s g at_ c).s := by
 unfold tryF
 split
 ·exact ⟨rfl, rfl, fun _ h => h, Nat.le_refl _⟩
 ·split <;> exact ⟨rfl, rfl, fun _ h => h, Nat.le_refl _⟩
theorem sme_alone (s : Lm) (g : Int) (c : Ca) : Sme s (aloneF s g c).s := by
 have h := sme_try s g (-1) c
 unfold aloneF
 split
 ·exact h
 ·exact ⟨h.ps, h.p, h.d, h.dl⟩
theorem dr_len (d : List Int) (n : Int) : (Pk.dr d n).length ≤ d.length := by
 unfold Pk.dr
 split
 ·exact Nat.le_refl _
 ·simp
theorem sme_choose (s : Lm) (g : Int) (o : OpD) : Sme s (chooseF s g o).s := by
 unfold chooseF
 split
 ·have h := sme_try { s with d := Pk.dr s.d (Fk.rdyL (cas o) s.sts).length } g (nth (Fk.rdyL (cas o) s.sts) (Pk.dv s.d (Fk.rdyL (cas o) s.sts).length).toNat) (caseAt o (nth (Fk.rdyL (cas o) s.sts) (Pk.dv s.d (Fk.rdyL (cas o) s.sts).length).toNat))
  exact ⟨h.ps, h.p, fun x hx => Pk.dr_sub (h.d x hx), Nat.le_trans h.dl (dr_len _ _)⟩
 ·split <;> exact ⟨rfl, rfl, fun _ h => h, Nat.le_refl _⟩
theorem sme_all (g c : Int) : ∀ (l : List Wt) (s : Lm), Sme s (wakeAll g c s l)
 | [], s => Sme.refl s
 | x :: l, s => by
   show Sme s (wakeAll g c (if parked s x.g then _ else s) l)
   refine Sme.trans ?_ (sme_all g c l _)
   split
   ·exact ⟨rfl, rfl, fun _ h => h, Nat.le_refl _⟩
   ·exact Sme.refl s
theorem sme_closes (s : Lm) (g k : Int) : Sme s (closesF s g k).s := by
 unfold closesF
 split
 ·exact Sme.refl s
 ·split
  ·exact Sme.refl s
  ·exact Sme.trans (b := goS { s with sts := _ } _) ⟨rfl, rfl, fun _ h => h, Nat.le_refl _⟩ (sme_all _ _ _ _)
theorem Sme.panic {s s' : Lm} (h : Sme s s') (g : Int) : Sme s (panicS s' g) := ⟨h.ps, h.p, h.d, h.dl⟩
theorem sme_do (s : Lm) (g : Int) (o : OpD) : Sme s (doF s g o) := by
 unfold doF
 split
 ·exact ⟨rfl, rfl, fun _ h => h, Nat.le_refl _⟩
 ·split
  ·exact ⟨rfl, rfl, fun _ h => h, Nat.le_refl _⟩
  ·split
   ·exact ⟨rfl, rfl, fun _ h => h, Nat.le_refl _⟩
   ·split
    ·exact ⟨rfl, rfl, fun _ h => h, Nat.le_refl _⟩
    ·split
     ·exact ⟨rfl, rfl, fun _ h => h, Nat.le_refl _⟩
     ·split
      ·split
       ·exact sme_alone _ _ _
       ·exact (sme_alone _ _ _).panic _
      ·split
       ·exact sme_alone _ _ _
       ·split
        ·split
         ·exact sme_closes _ _ _
         ·exact (sme_closes _ _ _).panic _
        ·split
         ·split
          ·exact sme_choose _ _ _
          ·exact (sme_choose _ _ _).panic _
         ·exact Sme.refl s
theorem schk_ok {sc : Sh.Sc} (h : Sh.schk sc = 0) : (0 < sc.ps.length ∧ sc.ps.length ≤ 8) ∧ (∀ q ∈ sc.ps, q.length ≤ 32) ∧ sc.pl.length ≤ 200 ∧ sc.dr.length ≤ 64 ∧ Sh.ari sc.ps.length sc.ps = true ∧ (∀ x ∈ sc.pl, -1 ≤ x ∧ x ≤ 1000) ∧ ∀ x ∈ sc.dr, 0 ≤ x ∧ x ≤ 1000 := by
 unfold Sh.schk at h
 cases h1 : !((decide (1 ≤ sc.T) && decide (sc.T ≤ 256)) && (decide (1 ≤ sc.M) && decide (sc.M ≤ 1048576)))
 ·rw [h1] at h
  cases h2 : Sh.isl sc.ps sc.pl.length sc.dr.length
  ·rw [h2] at h
   cases h3 : !(!decide (sc.ps.length = 0) && Sh.ari sc.ps.length sc.ps)
   ·rw [h3] at h
    cases h4 : !(Sh.ab (-1) 1000 sc.pl && Sh.ab 0 1000 sc.dr)
    ·simp only [Bool.not_eq_false', Bool.and_eq_true, Bool.not_eq_true', decide_eq_false_iff_not] at h3 h4
     unfold Sh.isl at h2
     simp only [Bool.or_eq_false_iff, decide_eq_false_iff_not, List.any_eq_false, decide_eq_true_eq] at h2
     have q1 := (Sh.ab_iff _ _ _).1 h4.1
     have q2 := (Sh.ab_iff _ _ _).1 h4.2
     refine ⟨⟨by omega, by omega⟩, fun q hq => by have := h2.1 q hq; omega, by omega, by omega, h3.2, q1, q2⟩
    ·rw [h4] at h
     simp at h
   ·rw [h3] at h
    simp at h
  ·rw [h2] at h
   simp at h
 ·rw [h1] at h
  simp at h
theorem abl_mem : ∀ (l : List Mb) (j : Nat) (x : Int), x ∈ Cr.ablF j l → ∃ (k : Nat) (y : Mb), x = ((j + k : Nat) : Int) ∧ l[k]? = some y ∧ y.s = 0 := by
 intro l
 induction l with
 | nil => intro j x h; simp [Cr.ablF] at h
 | cons y l ih =>
   intro j x h
   unfold Cr.ablF at h
   split at h
   ·rw [List.mem_cons] at h
    rcases h with q | q
    ·exact ⟨0, y, by rw [q]; simp, rfl, by assumption⟩
    ·obtain ⟨k, z, e, e2, e3⟩ := ih (j + 1) x q
     exact ⟨k + 1, z, by rw [e]; congr 1; omega, by simpa using e2, e3⟩
   ·obtain ⟨k, z, e, e2, e3⟩ := ih (j + 1) x h
    exact ⟨k + 1, z, by rw [e]; congr 1; omega, by simpa using e2, e3⟩
theorem abl_pos : ∀ (l : List Mb) (j : Nat), Cr.hasS l 0 = true → 0 < (Cr.ablF j l).length := by
 intro l
 induction l with
 | nil => intro j h; simp [Cr.hasS] at h
 | cons y l ih =>
   intro j h
   unfold Cr.ablF
   split
   ·simp
   ·rename_i hs
    apply ih
    unfold Cr.hasS at h ⊢
    rw [List.any_cons] at h
    have : (y.s == 0) = false := by simp [hs]
    rw [this] at h
    simpa using h
theorem who_ok {s : Lm} (hv : verd s = 0) (ht : 0 ≤ nth s.p 0) : ∃ (k : Nat) (y : Mb), whoN s = (k : Int) ∧ s.cr[k]? = some y ∧ y.s = 0 := by
 unfold verd at hv
 split at hv
 ·omega
 ·split at hv
  ·omega
  ·rename_i h1
   have h2 : Cr.hasS s.cr 0 = true := by
    cases hh : Cr.hasS s.cr 0
    ·exfalso
     apply h1
     unfold Cr.ovr
     rw [hh]
     simp
     split <;> omega
    ·rfl
   have hp := abl_pos s.cr 0 h2
   have hlt : (nth s.p 0).toNat % (Cr.abl s.cr).length < (Cr.abl s.cr).length := Nat.mod_lt _ hp
   have hm : whoN s ∈ Cr.ablF 0 s.cr := by
    unfold whoN Pk.ofx
    rw [if_neg (by omega), if_neg (by have : (Cr.abl s.cr).length = (Cr.ablF 0 s.cr).length := rfl; omega), nth_lt _ _ hlt]
    exact List.getElem_mem hlt
   obtain ⟨k, y, e, e2, e3⟩ := abl_mem s.cr 0 _ hm
   exact ⟨k, y, by rw [e]; simp, e2, e3⟩
theorem exit_chk {n : Nat} (h : 0 < n) (h8 : n ≤ 8) : De.chk exitO (n : Int) = 0 := by
 unfold De.chk exitO
 have h1 : De.okP (n : Int) = true := by unfold De.okP; simp; omega
 rw [h1]
 simp [De.upB, De.mA, De.mB]
structure Inv (sc : Sh.Sc) (n : Nat) (s : Lm) : Prop where
 ps : s.ps = sc.ps
 b : B1 sc.ps.length (2 * n * n + 2 * n) n (4 * n) (n + 1) n s
 p : s.p = sc.pl.drop n
 d : ∀ x ∈ s.d, 0 ≤ x
 dl : s.d.length ≤ 64
 le : n ≤ sc.pl.length
theorem Inv.new {sc : Sh.Sc} (h : Sh.schk sc = 0) : Inv sc 0 (newS sc) := by
 obtain ⟨h1, h2, h3, h4, h5, h6, h7⟩ := schk_ok h
 refine ⟨rfl, ⟨⟨?_, by simp [newS]⟩, ?_, by simp [newS], ?_, by simp [newS], by simp [newS], by simp [newS]⟩, by simp [newS], fun x hx => (h7 x hx).1, h4, Nat.zero_le _⟩
 ·intro x hx
  simp [newS] at hx
  rw [hx]
  simp
 ·intro x hx
  simp [newS] at hx
  rw [hx]
  simp
  omega
 ·intro i st e
  have := List.mem_of_getElem? e
  simp [newS] at this
theorem sq_step (n : Nat) : 2 * (n + 1) * (n + 1) + 2 * (n + 1) = 2 * n * n + 2 * n + (4 * n + 4) := by
 have : 2 * (n + 1) * (n + 1) = 2 * n * n + 4 * n + 2 := by
  simp only [Nat.mul_add, Nat.add_mul]
  omega
 omega
theorem op_chk {sc : Sh.Sc} {n : Nat} {s : Lm} (h : Sh.schk sc = 0) (i : Inv sc n s) (g : Int) : De.chk (opOf s g) sc.ps.length = 0 := by
 obtain ⟨h1, -, -, -, h5, -, -⟩ := schk_ok h
 unfold opOf
 rw [i.ps]
 cases hp : sc.ps[(Cr.one0 (Cr.gt s.cr g)).p.toNat]? with
 | none => simp; exact exit_chk h1.1 h1.2
 | some P =>
   simp only [Option.getD_some]
   cases ho : P[(Cr.one0 (Cr.gt s.cr g)).q.toNat]? with
   | none => exact exit_chk h1.1 h1.2
   | some o => exact Sh.ari_of h5 hp ho
theorem Inv.step {sc : Sh.Sc} {n : Nat} {s : Lm} (h : Sh.schk sc = 0) (i : Inv sc n s) (hv : verd s = 0) : Inv sc (n + 1) (stepF s) := by
 obtain ⟨h1, h2, h3, h4, h5, h6, h7⟩ := schk_ok h
 have hpl : 0 < s.p.length := by
  unfold verd at hv
  split at hv
  ·omega
  ·split at hv
   ·omega
   ·split at hv
    ·omega
    ·omega
 have hn : n < sc.pl.length := by
  rw [i.p, List.length_drop] at hpl
  omega
 have hp' : s.p.tail = sc.pl.drop (n + 1) := by rw [i.p, List.tail_drop]
 have b0 : B1 sc.ps.length (2 * n * n + 2 * n) n (4 * n) (n + 1) n { s with p := s.p.tail } := ⟨⟨i.b.bw.cb, i.b.bw.tn⟩, i.b.cp, i.b.cl, i.b.sb, i.b.sl, i.b.nl, i.b.md⟩
 have hs := sq_step n
 unfold stepF
 rw [if_neg (by omega)]
 split
 ·refine ⟨i.ps, ?_, hp', i.d, i.dl, by omega⟩
  exact (b0.tell _).mono (by omega) (by omega) (by omega) (by omega) (by omega)
 ·have sm := sme_do { s with p := s.p.tail } (whoN s) (opOf s (whoN s))
  refine ⟨sm.ps.trans i.ps, ?_, sm.p.trans hp', fun x hx => i.d x (sm.d x hx), Nat.le_trans sm.dl i.dl, by omega⟩
  exact (b0.do_ _ _ (op_chk h i _)).mono (by omega) (by omega) (by omega) (by omega) (by omega)
end Lo
end Go.Proofs.YtblfimobiibmjabGreat
namespace Go.Proofs.YtblfimobiibmjabGreat
namespace Rlo
open Ba Lo
theorem send_rdy (st : St) : _root_.Go.Proofs.YtblfimobiibmjabGreat.Pi.rdy st true = ((_root_.Go.Proofs.YtblfimobiibmjabGreat.Pi.sendG st).rd || decide (_root_.Go.Proofs.YtblfimobiibmjabGreat.Pi.sendE st = 90)) := by
 unfold _root_.Go.Proofs.YtblfimobiibmjabGreat.Pi.rdy _root_.Go.Proofs.YtblfimobiibmjabGreat.Pi.sendG _root_.Go.Proofs.YtblfimobiibmjabGreat.Pi.sendE _root_.Go.Proofs.YtblfimobiibmjabGreat.Pi.room _root_.Go.Proofs.YtblfimobiibmjabGreat.Pi.own
 cases hc : st.closed
 ·cases hr : st.rcv with
  | cons y t => simp
  | nil =>
    by_cases hb : st.buf.length < st.size
    ·simp [hb]
    ·simp [hb, _root_.Go.Proofs.YtblfimobiibmjabGreat.Pi.gz]
 ·simp
theorem recv_rdy (st : St) : _root_.Go.Proofs.YtblfimobiibmjabGreat.Pi.rdy st false = (_root_.Go.Proofs.YtblfimobiibmjabGreat.Pi.recvG st).rd := by
 unfold _root_.Go.Proofs.YtblfimobiibmjabGreat.Pi.rdy _root_.Go.Proofs.YtblfimobiibmjabGreat.Pi.recvG _root_.Go.Proofs.YtblfimobiibmjabGreat.Pi.room _root_.Go.Proofs.YtblfimobiibmjabGreat.Pi.own
 cases hb : st.buf with
 | nil =>
   cases hs : st.snd with
   | nil => simp
   | cons y t => simp
 | cons x t =>
   cases hs : st.snd with
   | nil => simp
   | cons y t => simp
theorem try_rdy (s : List (Option St)) (c : Ca) : Fk.crdy s c = ((Fk.tryG s c).rd || decide (Fk.tryE s c = 90)) := by
 unfold Fk.crdy Fk.tryG Fk.tryE
 cases Fk.nmB s c.ch with
 | none => simp [_root_.Go.Proofs.YtblfimobiibmjabGreat.Pi.gz]
 | some st =>
   simp only
   cases hc : c.sd
   ·simp [recv_rdy]
   ·simp [send_rdy]
theorem try_e (s : List (Option St)) (c : Ca) : Fk.tryE s c = 0 ∨ Fk.tryE s c = 90 := by
 unfold Fk.tryE
 cases Fk.nmB s c.ch with
 | none => exact .inl rfl
 | some st =>
   simp only
   cases hc : c.sd
   ·exact .inl (by simp)
   ·unfold _root_.Go.Proofs.YtblfimobiibmjabGreat.Pi.sendE
    cases st.closed <;> simp
theorem try_er (s : List (Option St)) (c : Ca) (h : c.sd = false) : Fk.tryE s c = 0 := by
 unfold Fk.tryE
 cases Fk.nmB s c.ch with
 | none => rfl
 | some st => simp [h]
theorem send_ok (s : List (Option St)) (c : Ca) (h : c.sd = true) : (Fk.tryG s c).ok = false := by
 unfold Fk.tryG
 cases Fk.nmB s c.ch with
 | none => rfl
 | some st =>
   simp only [h, if_true]
   unfold _root_.Go.Proofs.YtblfimobiibmjabGreat.Pi.sendG
   split
   ·rfl
   ·split
    ·rfl
    ·split <;> rfl
theorem set_same {α : Type} {l : List α} {i : Nat} {x : α} (h : l[i]? = some x) : l.set i x = l := by
 apply List.ext_getElem?
 intro j
 rw [List.getElem?_set]
 split
 ·rename_i e
  subst e
  rw [if_pos (List.getElem?_eq_some_iff.1 h).1, h]
 ·rfl
theorem tryS_not {sts : List (Option St)} {c : Ca} (h : Fk.tryE sts c ≠ 0 ∨ (Fk.tryG sts c).rd = false) : Fk.tryS sts c = sts := by
 unfold Fk.tryS
 unfold Fk.tryE Fk.tryG at h
 split
 ·rfl
 ·rename_i st e
  rw [e] at h
  simp only at h
  have key : (if c.sd then _root_.Go.Proofs.YtblfimobiibmjabGreat.Pi.sendS st c.v else _root_.Go.Proofs.YtblfimobiibmjabGreat.Pi.recvS st) = st := by
   cases hs : c.sd
   ·simp only [hs, Bool.false_eq_true, if_false] at h ⊢
    rcases h with h | h
    ·exact absurd rfl h
    ·unfold _root_.Go.Proofs.YtblfimobiibmjabGreat.Pi.recvG at h
     unfold _root_.Go.Proofs.YtblfimobiibmjabGreat.Pi.recvS
     split at h <;> simp_all
   ·simp only [hs, if_true] at h ⊢
    unfold _root_.Go.Proofs.YtblfimobiibmjabGreat.Pi.sendS
    unfold _root_.Go.Proofs.YtblfimobiibmjabGreat.Pi.sendE _root_.Go.Proofs.YtblfimobiibmjabGreat.Pi.sendG at h
    cases hc : st.closed
    ·simp only [hc, Bool.false_eq_true, if_false] at h ⊢
     rcases h with h | h
     ·exact absurd rfl h
     ·split at h
      ·simp at h
      ·rename_i hr
       simp only [hr]
       split at h
       ·simp at h
       ·rename_i hl
        rw [if_neg hl]
    ·simp
  rw [key]
  exact set_same (Fk.nmB_at e)
theorem talk_try (s : Lm) (g a : Int) (c : Ca) (h : Fk.crdy s.sts c = true) : talkF s g a c = if (tryF s g a c).fine then (tryF s g a c).s else panicS (tryF s g a c).s g := by
 rw [try_rdy] at h
 rcases try_e s.sts c with e | e
 ·have hr : (Fk.tryG s.sts c).rd = true := by simpa [e] using h
  have hn : ¬ (Fk.tryE s.sts c ≠ 0 ∨ (Fk.tryG s.sts c).rd = false) := by rintro (q | q); exact q e; rw [hr] at q; cases q
  have h0 : ¬ (Fk.tryE s.sts c ≠ 0) := fun q => q e
  unfold talkF tryF
  simp only [if_neg hn, if_neg h0]
  split <;> simp
 ·have h0 : Fk.tryE s.sts c ≠ 0 := by omega
  unfold talkF tryF
  rw [if_pos h0]
  simp [e]
def aloneR (s : Lm) (g : Int) (c : Ca) : Lm := if Fk.crdy s.sts c then talkF s g (-1) c else waitsS { s with sts := waitN s.sts c g } ⟨6, g, num s c.ch, -1, c.v, -1, c.sd, false⟩
theorem alone_is (s : Lm) (g : Int) (c : Ca) : aloneR s g c = if (aloneF s g c).fine then (aloneF s g c).s else panicS (aloneF s g c).s g := by
 unfold aloneR
 cases h : Fk.crdy s.sts c
 ·rw [try_rdy] at h
  simp only [Bool.or_eq_false_iff, decide_eq_false_iff_not] at h
  have e : Fk.tryE s.sts c = 0 := by rcases try_e s.sts c with e | e; exact e; exact absurd e h.2
  have ht : tryF s g (-1) c = ⟨s, false, true⟩ := by
   unfold tryF
   rw [if_pos (.inr h.1), tryS_not (.inr h.1), e]
   rfl
  unfold aloneF
  rw [ht]
  simp
 ·rw [if_pos rfl, talk_try s g (-1) c h]
  rw [try_rdy] at h
  unfold aloneF
  have hd : ((tryF s g (-1) c).done || !(tryF s g (-1) c).fine) = true := by
   unfold tryF
   rcases try_e s.sts c with e | e
   ·have hr : (Fk.tryG s.sts c).rd = true := by simpa [e] using h
    rw [if_neg (by simp [e, hr])]
    split <;> simp
   ·rw [if_pos (.inl (by omega))]
    simp [e]
  rw [if_pos hd]
theorem alone_fine (s : Lm) (g : Int) (c : Ca) (h : c.sd = false) : (aloneF s g c).fine = true := by
 have e := try_er s.sts c h
 unfold aloneF
 have hf : (tryF s g (-1) c).fine = true := by
  unfold tryF
  split
  ·simp [e]
  ·split <;> rfl
 split
 ·exact hf
 ·rfl
def pickR (s : Lm) (o : OpD) : Int := nth (Fk.rdyL (cas o) s.sts) (Pk.dv s.d (Fk.rdyL (cas o) s.sts).length).toNat
def chooseR (s : Lm) (g : Int) (o : OpD) : Lm :=
 if 0 < (Fk.rdyL (cas o) s.sts).length then talkF { s with d := Pk.dr s.d (Fk.rdyL (cas o) s.sts).length } g (pickR s o) (caseAt o (pickR s o))
 else if o.def_ then goS s (bareE 8 g)
 else waitsS { s with sts := Fk.pkA g (cas o) s.sts } ⟨6, g, -1, o.cases.length, 0, -1, false, false⟩
theorem rdyL_mem {l : List Ca} {sts : List (Option St)} {x : Int} (h : x ∈ Fk.rdyL l sts) : ∃ (i : Nat) (c : Ca), x = (i : Int) ∧ l[i]? = some c ∧ Fk.crdy sts c = true := by
 unfold Fk.rdyL Fk.ps at h
 rw [List.mem_map] at h
 obtain ⟨i, hi, rfl⟩ := h
 rw [List.mem_filter] at hi
 cases hc : l[i]? with
 | none => rw [hc] at hi; simp at hi
 | some c => rw [hc] at hi; exact ⟨i, c, rfl, hc, hi.2⟩
theorem rdyL_len (l : List Ca) (sts : List (Option St)) : (Fk.rdyL l sts).length ≤ l.length := by
 unfold Fk.rdyL Fk.ps
 rw [List.length_map]
 exact Nat.le_trans (List.length_filter_le _ _) (by simp)
theorem pick_at {s : Lm} {o : OpD} (h0 : 0 < (Fk.rdyL (cas o) s.sts).length) (h4 : o.cases.length ≤ 4) (hd : ∀ x ∈ s.d, 0 ≤ x) :
 ∃ (j i : Nat) (c : De.Cs), Pk.dv s.d (Fk.rdyL (cas o) s.sts).length = (j : Int) ∧ j < (Fk.rdyL (cas o) s.sts).length ∧ nth (Fk.rdyL (cas o) s.sts) j = (i : Int) ∧ pickR s o = (i : Int) ∧ o.cases[i]? = some c ∧ caseAt o (pickR s o) = cav c ∧ Fk.crdy s.sts (cav c) = true := by
 have hl : (Fk.rdyL (cas o) s.sts).length ≤ 4 := Nat.le_trans (rdyL_len _ _) (by unfold cas; simpa using h4)
 obtain ⟨j, hj, hjl⟩ := dv_nat hd h0 hl
 have hp : pickR s o = nth (Fk.rdyL (cas o) s.sts) j := by unfold pickR; rw [hj, Int.toNat_natCast]
 have hm : nth (Fk.rdyL (cas o) s.sts) j ∈ Fk.rdyL (cas o) s.sts := by
  rw [nth_lt _ _ hjl]
  exact List.getElem_mem hjl
 obtain ⟨i, c', e, hc, hr⟩ := rdyL_mem hm
 have hc2 : ((o.cases[i]?).map cav) = some c' := by unfold cas at hc; rwa [List.getElem?_map] at hc
 cases hoc : o.cases[i]? with
 | none => rw [hoc] at hc2; cases hc2
 | some c =>
   rw [hoc] at hc2
   cases hc2
   refine ⟨j, i, c, hj, hjl, e, by rw [hp, e], hoc, ?_, hr⟩
   rw [hp, e]
   unfold caseAt
   rw [Int.toNat_natCast, hc]
   rfl
theorem choose_is (s : Lm) (g : Int) (o : OpD) (h4 : o.cases.length ≤ 4) (hd : ∀ x ∈ s.d, 0 ≤ x) : chooseR s g o = if (chooseF s g o).fine then (chooseF s g o).s else panicS (chooseF s g o).s g := by
 unfold chooseR chooseF
 by_cases h0 : 0 < (Fk.rdyL (cas o) s.sts).length
 ·rw [if_pos h0, if_pos h0]
  obtain ⟨j, i, c, e1, e2, e3, e4, e5, e6, e7⟩ := pick_at h0 h4 hd
  rw [talk_try _ _ _ _ (by show Fk.crdy s.sts _ = true; rw [e6]; exact e7)]
  rfl
 ·rw [if_neg h0, if_neg h0]
  split <;> rfl
def Wy (sts : List (Option St)) (x : Wt) : Prop := ∃ (i : Nat) (st : St), sts[i]? = some (some st) ∧ (x ∈ st.snd ∨ x ∈ st.rcv)
def Kb (n : Nat) (sts : List (Option St)) : Prop := ∀ x, Wy sts x → 0 ≤ x.g ∧ x.g < (n : Int)
theorem Kb.mono {n m : Nat} {sts : List (Option St)} (h : Kb n sts) (hm : n ≤ m) : Kb m sts := fun x hx => by have := h x hx; omega
theorem wy_set {sts : List (Option St)} {i : Nat} {st : St} {x : Wt} (h : Wy (sts.set i (some st)) x) : Wy sts x ∨ x ∈ st.snd ∨ x ∈ st.rcv := by
 obtain ⟨j, z, hz, hx⟩ := h
 rw [List.getElem?_set] at hz
 split at hz
 ·split at hz
  ·simp at hz
   subst hz
   exact .inr hx
  ·cases hz
 ·exact .inl ⟨j, z, hz, hx⟩
theorem Kb.set {n : Nat} {sts : List (Option St)} (h : Kb n sts) {i : Nat} {st : St} (hs : ∀ x, x ∈ st.snd ∨ x ∈ st.rcv → 0 ≤ x.g ∧ x.g < (n : Int)) : Kb n (sts.set i (some st)) := fun x hx => by
 rcases wy_set hx with q | q
 ·exact h x q
 ·exact hs x q
theorem Kb.of {n : Nat} {sts : List (Option St)} (h : Kb n sts) {c : Int} {st : St} (hc : Fk.nmB sts c = some st) : ∀ x, x ∈ st.snd ∨ x ∈ st.rcv → 0 ≤ x.g ∧ x.g < (n : Int) := fun x hx => h x ⟨_, st, Fk.nmB_at hc, hx⟩
theorem Kb.leave {n : Nat} {sts : List (Option St)} (h : Kb n sts) (g : Int) : Kb n (Fk.leaveS g sts) := fun x ⟨i, z, hz, hx⟩ => by
 unfold Fk.leaveS at hz
 rw [List.getElem?_map] at hz
 cases hy : sts[i]? with
 | none => rw [hy] at hz; cases hz
 | some o =>
   rw [hy] at hz
   cases o with
   | none => simp [Fk.dropO] at hz
   | some y =>
     simp [Fk.dropO] at hz
     subst hz
     refine h x ⟨i, y, hy, ?_⟩
     unfold _root_.Go.Proofs.YtblfimobiibmjabGreat.Pi.dropS Pe.dr at hx
     simp at hx
     rcases hx with q | q
     ·exact .inl q.1
     ·exact .inr q.1
theorem Kb.try_ {n : Nat} {sts : List (Option St)} (h : Kb n sts) (c : Ca) : Kb n (Fk.tryS sts c) := by
 unfold Fk.tryS
 split
 ·exact h
 ·rename_i st e
  refine h.set fun x hx => h.of e x ?_
  cases hs : c.sd
  ·rw [hs] at hx
   simp only [Bool.false_eq_true, if_false] at hx
   unfold _root_.Go.Proofs.YtblfimobiibmjabGreat.Pi.recvS at hx
   split at hx <;> simp_all
   all_goals first | (rcases hx with q | q <;> simp [q]; done) | skip
  ·rw [hs] at hx
   simp only [if_true] at hx
   unfold _root_.Go.Proofs.YtblfimobiibmjabGreat.Pi.sendS at hx
   split at hx
   ·exact hx
   ·split at hx
    ·rename_i hr
     rw [hr]
     rcases hx with q | q
     ·exact .inl q
     ·exact .inr (List.mem_cons_of_mem _ q)
    ·split at hx <;> exact hx
theorem Kb.wait {n : Nat} {sts : List (Option St)} (h : Kb n sts) {c : Int} {st : St} (hc : Fk.nmB sts c = some st) (b : Bool) {g : Int} (hg : 0 ≤ g ∧ g < (n : Int)) (p v : Int) : Kb n (sts.set c.toNat (some (_root_.Go.Proofs.YtblfimobiibmjabGreat.Pi.waitS st b ⟨g, p, v⟩))) := by
 have al : ∀ {l : List Wt} {x z : Wt}, z ∈ Pe.al l x → z ∈ l ∨ z = x := by
  intro l x z h
  unfold Pe.al at h
  split at h
  ·split at h
   ·exact .inl h
   ·simp at h
    exact h
  ·exact .inl h
 refine h.set fun x hx => ?_
 have : (x ∈ st.snd ∨ x ∈ st.rcv) ∨ x = ⟨g, p, v⟩ := by
  unfold _root_.Go.Proofs.YtblfimobiibmjabGreat.Pi.waitS at hx
  split at hx
  ·exact .inl hx
  ·split at hx
   ·rcases hx with q | q
    ·rcases al q with z | z
     ·exact .inl (.inl z)
     ·exact .inr z
    ·exact .inl (.inr q)
   ·rcases hx with q | q
    ·exact .inl (.inl q)
    ·rcases al q with z | z
     ·exact .inl (.inr z)
     ·exact .inr z
 rcases this with q | q
 ·exact h.of hc x q
 ·rw [q]
  exact hg
theorem Kb.waitN {n : Nat} {sts : List (Option St)} (h : Kb n sts) (c : Ca) {g : Int} (hg : 0 ≤ g ∧ g < (n : Int)) : Kb n (Lo.waitN sts c g) := by
 unfold Lo.waitN
 split
 ·exact h
 ·rename_i st e
  exact h.wait e _ hg _ _
theorem Kb.pkS {n : Nat} {sts : List (Option St)} (h : Kb n sts) (l : List Ca) {g : Int} (hg : 0 ≤ g ∧ g < (n : Int)) : ∀ k, Kb n (Fk.pkS g l sts k)
 | 0 => h
 | k + 1 => by
   unfold Fk.pkS
   split
   ·exact h.pkS l hg k
   ·unfold Fk.pk1
    split
    ·exact h.pkS l hg k
    ·rename_i st e
     exact (h.pkS l hg k).wait e _ hg _ _
theorem Kb.pkA {n : Nat} {sts : List (Option St)} (h : Kb n sts) (l : List Ca) {g : Int} (hg : 0 ≤ g ∧ g < (n : Int)) : Kb n (Fk.pkA g l sts) := by
 unfold Fk.pkA
 split
 ·exact h
 ·split
  ·exact h
  ·exact h.pkS l hg _
theorem ch_len (l : List Mb) (g a b d : Int) : (Cr.chL l g a b d).length = l.length := by
 unfold Cr.chL
 split
 ·rfl
 ·split
  ·simp
  ·rfl
theorem sp_len (l : List Mb) (p : Int) : l.length ≤ (Cr.spL l p).length := by
 unfold Cr.spL
 split
 ·exact Nat.le_refl _
 ·split
  ·exact Nat.le_refl _
  ·simp
def WB (s : Lm) : Prop := Kb s.cr.length s.sts
theorem WB.tell {s : Lm} (h : WB s) (e : Ev) : WB (tellS s e) := h
theorem WB.go {s : Lm} (h : WB s) (e : Ev) : WB (goS s e) := by
 show Kb (Cr.chL s.cr e.g 0 0 1).length s.sts
 rw [ch_len]
 exact h
theorem WB.waits {s : Lm} (h : WB s) (e : Ev) : WB (waitsS s e) := by
 show Kb (Cr.chL s.cr e.g 0 1 0).length s.sts
 rw [ch_len]
 exact h
theorem WB.wakes {s : Lm} (h : WB s) (e : Ev) : WB (wakesS s e) := by
 show Kb (Cr.chL s.cr e.g 1 0 1).length (Fk.leaveS e.g s.sts)
 rw [ch_len]
 exact h.leave _
theorem WB.panic {s : Lm} (h : WB s) (g : Int) : WB (panicS s g) := h
theorem WB.talk {s : Lm} (h : WB s) (g a : Int) (c : Ca) : WB (talkF s g a c) := by
 have h1 : WB { s with sts := Fk.tryS s.sts c } := Kb.try_ h c
 unfold talkF
 split
 ·exact h1.panic _
 ·split
  ·exact (h1.go _).wakes _
  ·exact h1.go _
theorem WB.alone {s : Lm} (h : WB s) (g : Int) (hg : 0 ≤ g ∧ g < (s.cr.length : Int)) (c : Ca) : WB (aloneR s g c) := by
 unfold aloneR
 split
 ·exact h.talk _ _ _
 ·exact WB.waits (s := { s with sts := Lo.waitN s.sts c g }) (Kb.waitN h c hg) _
theorem WB.choose {s : Lm} (h : WB s) (g : Int) (hg : 0 ≤ g ∧ g < (s.cr.length : Int)) (o : OpD) : WB (chooseR s g o) := by
 unfold chooseR
 split
 ·exact WB.talk (s := { s with d := Pk.dr s.d (Fk.rdyL (cas o) s.sts).length }) h _ _ _
 ·split
  ·exact h.go _
  ·exact WB.waits (s := { s with sts := Fk.pkA g (cas o) s.sts }) (Kb.pkA h _ hg) _
theorem WB.all (g c : Int) : ∀ (l : List Wt) (s : Lm), WB s → WB (wakeAll g c s l)
 | [], _, h => h
 | x :: l, s, h => by
   show WB (wakeAll g c (if parked s x.g then _ else s) l)
   apply WB.all g c l
   split
   ·exact h.wakes _
   ·exact h
theorem WB.closes {s : Lm} (h : WB s) (g k : Int) : WB (closesF s g k).s := by
 unfold closesF
 split
 ·exact h
 ·rename_i st e
  split
  ·exact h
  ·rename_i hc
   have h1 : WB { s with sts := s.sts.set k.toNat (some (_root_.Go.Proofs.YtblfimobiibmjabGreat.Pi.closeS st)) } := Kb.set h (by
    unfold _root_.Go.Proofs.YtblfimobiibmjabGreat.Pi.closeS
    rw [if_neg hc]
    intro x hx
    simp at hx)
   exact WB.all _ _ _ _ (h1.go _)
theorem WB.do_ {s : Lm} (h : WB s) (g : Int) (hg : 0 ≤ g ∧ g < (s.cr.length : Int)) (o : OpD) (h4 : o.cases.length ≤ 4) (hd : ∀ x ∈ s.d, 0 ≤ x) : WB (doF s g o) := by
 unfold doF
 split
 ·refine WB.go (s := { s with cr := Cr.spL s.cr o.a }) ?_ _
  exact Kb.mono h (sp_len _ _)
 ·split
  ·refine WB.go (s := opensS s o.a o.b) ?_ _
   exact Kb.set h (fun x hx => by simp [_root_.Go.Proofs.YtblfimobiibmjabGreat.Pi.st0] at hx)
  ·split
   ·exact h.go _
   ·split
    ·exact h.go _
    ·split
     ·show Kb (Cr.chL s.cr g 0 2 0).length s.sts
      rw [ch_len]
      exact h
     ·split
      ·rw [← alone_is]
       exact h.alone g hg _
      ·split
       ·have := h.alone g hg ⟨false, o.a, 0⟩
        rw [alone_is, alone_fine _ _ _ rfl] at this
        exact this
       ·split
        ·split
         ·exact h.closes _ _
         ·exact (h.closes _ _).panic _
        ·split
         ·rw [← choose_is _ _ _ h4 hd]
          exact h.choose g hg _
         ·exact h
theorem WB.new (sc : Sh.Sc) : WB (newS sc) := by
 rintro x ⟨i, st, hs, _⟩
 have := List.mem_of_getElem? hs
 simp [newS] at this
theorem WB.step {sc : Sh.Sc} {n : Nat} {s : Lm} (h : WB s) (hs : Sh.schk sc = 0) (i : Inv sc n s) : WB (stepF s) := by
 unfold stepF
 split
 ·exact h
 ·rename_i hv
  split
  ·exact WB.tell (s := { s with p := s.p.tail }) h _
  ·rename_i ht
   obtain ⟨h1, h2, h3, h4, h5, h6, h7⟩ := schk_ok hs
   have hv0 : verd s = 0 := by omega
   have hpl : 0 < s.p.length := by
    rcases Nat.eq_zero_or_pos s.p.length with z | z
    ·exfalso
     unfold verd at hv0
     rw [if_pos z] at hv0
     split at hv0
     ·omega
     ·split at hv0 <;> omega
    ·exact z
   have ht0 : 0 ≤ nth s.p 0 := by
    have hm : nth s.p 0 ∈ sc.pl := by
     rw [nth_lt _ _ hpl]
     have hsub : ∀ x ∈ s.p, x ∈ sc.pl := fun x hx => by
      rw [i.p] at hx
      exact List.mem_of_mem_drop hx
     exact hsub _ (List.getElem_mem hpl)
    have := h6 _ hm
    omega
   obtain ⟨k, y, hwk, hky, hy0⟩ := who_ok hv0 ht0
   have hkl := (List.getElem?_eq_some_iff.1 hky).1
   have ho := op_chk hs i (whoN s)
   exact WB.do_ (s := { s with p := s.p.tail }) h (whoN s) (by rw [hwk]; constructor; omega; show ((k : Nat) : Int) < (s.cr.length : Int); omega) _ (op_ok ho).2.2.1 i.d
end Rlo
end Go.Proofs.YtblfimobiibmjabGreat
namespace Go.Proofs.YtblfimobiibmjabGreat
open Go.ChangeShapes Go.WideShapes Go.ChangeAt Go.RowKit
namespace Rlo
open Ba Lo
section
variable {ops : Array Oper} {o : Oper} {a : Act} {w : World} {K : Act → World → Prop} {Q : Exit → Act → World → Prop} {E : Prop}
theorem step_store8 (hgd : o.guard = none) (ty : TypeId) (x y : Operand) (ho : o.op = .store ty x y) (ad : Addr) (v : Value) (w' : World) (hx : a.eval x = .pointer (some ad)) (hy : a.eval y = v) (hs : (storeVar ty ad v).run Tryz.prog w = .ok () w') (h : K (a.put o.dst undef) w') :
 if Region.wanted o (yielded ops a.tmps) = true then Oper.wp Tryz.prog o a w K Q else E := by
 have hw : Region.wanted o (yielded ops a.tmps) = true := by simp [Region.wanted, hgd]
 rw [if_pos hw]
 unfold Oper.wp execOp
 simp only [ho, hx, hy, Instr.storeAt, Instr.sureAddr, Sem.run_bind, Sem.run_pure, Result.andThen_ok, hs]
 exact h
end
theorem kb_row {w : World} {g : Nat} {cs : Array Value} : KB g w (w.setRow g cs) := ⟨rfl, rfl, rfl, by rw [setRow_size]; exact Nat.le_refl _, fun k _ hk => setRow_other w g k cs hk⟩
theorem _root_.Go.Proofs.YtblfimobiibmjabGreat.Ba.KB.cell8 {z : Nat} {w w' : World} (K : KB z w w') {b i : Nat} {v : Value} (h : w.cell? ⟨b, i, none⟩ = some v) (hn : b ≠ z) : w'.cell? ⟨b, i, none⟩ = some v := by
 have := K.block b (World.block_lt_of_cell? w _ h) hn
 rw [← h]
 simp only [World.cell?, this]
set_option maxRecDepth 100000 in
set_option maxHeartbeats 12000000 in
theorem talk_send (L N : Nat) (col : Nat → Nat) (s : Lm) (K : Nat) (g at_ : Int) (sd : Bool) (k : Nat) (v : Int) (w : World) (h : RW w col L N s) (ok : Ok K s) (hK : K ≤ 99000) (hk : k < 8) (hsd : sd = true) :
 Calls Tryz.prog 62 #[.pointer (some ⟨L, 0, none⟩), .int .i64 g, .agg #[.bool sd, .int .i64 (k : Int), .int .i64 v], .int .i64 at_] w fun r w' => r = .returned (.tuple #[]) ∧ ∃ col', RW w' col' L N (talkF s g at_ ⟨sd, k, v⟩) ∧ Tq col col' w w' := by
 obtain ⟨C, B, FB, hd, pa, pc, oa, oc, bs, Fs, cs, ta, tc, h⟩ := h
 obtain ⟨col1, h1, t1, n1⟩ := h.below (below_alloc w (.cells #[.bool sd, .int .i64 (k : Int), .int .i64 v] 97))
 have T1 := hide t1
 have H1 := hide h1
 have E1 := hide (heap_new w (.cells #[.bool sd, .int .i64 (k : Int), .int .i64 v] 97))
 have N1 := hide (n1 w.heap.size (Nat.le_refl _))
 have hL := h.lt
 have PI := hide (fun u (hb : Below (w.alloc (.cells #[.bool sd, .int .i64 (k : Int), .int .i64 v] 97)).heap.size (w.alloc (.cells #[.bool sd, .int .i64 (k : Int), .int .i64 v] 97)) u) => pipes_q (w.alloc (.cells #[.bool sd, .int .i64 (k : Int), .int .i64 v] 97)) u H1.out hb)
 have TY := hide (fun u ob d (hq : Fk.Qs Rp.Rr u ob (vw s.nm bs) (Fv s.nm Fs) s.sts) => Fk.rtry_any ⟨sd, k, v⟩ ob (vw s.nm bs) d (Fv s.nm Fs) s.sts u hq ok.sm)
 obtain ⟨R, hR⟩ : ∃ R, talkF s g at_ ⟨sd, k, v⟩ = R := ⟨_, rfl⟩
 rw [hR]
 unfold talkF at hR
 unfold Fk.cv at TY
 have OK := hide ok
 have HSD := hide hsd
 have tok := send_ok s.sts ⟨sd, k, v⟩ hsd
 clear h t1 h1 n1 ok hsd
 generalize Fk.tryG s.sts ⟨sd, k, v⟩ = t at TY hR tok
 have TOK := hide tok
 clear tok
 generalize Fk.tryE s.sts ⟨sd, k, v⟩ = er at TY hR
 generalize Fk.tryS s.sts ⟨sd, k, v⟩ = sts' at TY hR
 have HR := hide hR
 clear hR
 unfold _root_.Go.Proofs.YtblfimobiibmjabGreat.Pi.gv at TY
 go_enter Tryz.func62, Tryz.ntmps62
 go_wp2_with fail
 go_region_held3 (fun w' => w'.cell? ⟨w.heap.size, 0, none⟩ = some (.bool sd) ∧ w'.cell? ⟨w.heap.size, 1, none⟩ = some (.int .i64 (k : Int)) ∧ w'.cell? ⟨w.heap.size, 2, none⟩ = some (.int .i64 v))
  (first | (go_keep; done) | (exact ⟨set7 z0 (by omega), set7 z1 (by omega), set7 z2 (by omega)⟩) | (exact ⟨y0, y1, y2⟩))
  (first
    | (go_at_call 60; refine (PI.out _ (bdrew1 _)).mono ?_; rintro r w2 ⟨ob, d, rfl, q2, b2⟩; have hb2 := btr (bdrew1 (w.alloc (.cells #[.bool sd, .int .i64 (k : Int), .int .i64 v] 97))) b2; have Y2 := hide (heap_below E1.out hb2); have y0 : w2.cell? ⟨w.heap.size, 0, none⟩ = some (.bool sd) := cell_of Y2.out 0; have y1 : w2.cell? ⟨w.heap.size, 1, none⟩ = some (.int .i64 (k : Int)) := cell_of Y2.out 1; have y2 : w2.cell? ⟨w.heap.size, 2, none⟩ = some (.int .i64 v) := cell_of Y2.out 2; have hY2 : w.heap.size < w2.heap.size := heap_lt Y2.out)
    | (go_at_call 60; refine (PI.out _ (btr (below_alloc _ _) (bdrew1 _))).mono ?_; rintro r w2 ⟨ob, d, rfl, q2, b2⟩; have hb2 := btr (btr (below_alloc (w.alloc (.cells #[.bool sd, .int .i64 (k : Int), .int .i64 v] 97)) (.cells #[.bool false, .bool false, .bool false, .int .i64 0, .int .i64 0, .int .i64 0, .int .i64 0] 155)) (bdrew1 _)) b2; have Y2 := hide (heap_below E1.out hb2); have y0 : w2.cell? ⟨w.heap.size, 0, none⟩ = some (.bool sd) := cell_of Y2.out 0; have y1 : w2.cell? ⟨w.heap.size, 1, none⟩ = some (.int .i64 (k : Int)) := cell_of Y2.out 1; have y2 : w2.cell? ⟨w.heap.size, 2, none⟩ = some (.int .i64 v) := cell_of Y2.out 2; have hY2 : w.heap.size < w2.heap.size := heap_lt Y2.out; have G2 := hide (heap_below (En.heap_new2 w (.cells #[.bool sd, .int .i64 (k : Int), .int .i64 v] 97) (.cells #[.bool false, .bool false, .bool false, .int .i64 0, .int .i64 0, .int .i64 0, .int .i64 0] 155)) (btr (bdrew1 _) b2)))
    | (go_at_call 84; have G2x := G2; refine (TY.out _ ob d q2).mono ?_; rintro r w3 ⟨rfl, p3⟩; obtain ⟨Fs3, cs3, col3, h3, t3, m3⟩ := H1.out.back hb2 p3; have E3 := hide (t3.heap E1.out N1.out); have z0 : w3.cell? ⟨w.heap.size, 0, none⟩ = some (.bool sd) := cell_of E3.out 0; have z1 : w3.cell? ⟨w.heap.size, 1, none⟩ = some (.int .i64 (k : Int)) := cell_of E3.out 1; have z2 : w3.cell? ⟨w.heap.size, 2, none⟩ = some (.int .i64 v) := cell_of E3.out 2; have hE3 : w.heap.size < w3.heap.size := heap_lt E3.out; have G3 := hide ((m3 (w.heap.size + 1) (by rw [World.size_alloc]; omega) (heap_lt G2.out)).2.trans G2.out); have g0 := cell_of G3.out 0; have f0 := frozen_of G3.out 0; have g1 := cell_of G3.out 1; have f1 := frozen_of G3.out 1; have g2 := cell_of G3.out 2; have f2 := frozen_of G3.out 2; have g3 := cell_of G3.out 3; have f3 := frozen_of G3.out 3; have g4 := cell_of G3.out 4; have f4 := frozen_of G3.out 4; have g5 := cell_of G3.out 5; have f5 := frozen_of G3.out 5; have g6 := cell_of G3.out 6; have f6 := frozen_of G3.out 6; simp at g0 g1 g2 g3 g4 g5 g6)
    | (go_at_call 84; refine (TY.out (w2.alloc (.cells #[.bool false, .bool false, .bool false, .int .i64 0, .int .i64 0, .int .i64 0, .int .i64 0] 155)) ob d (q2.below Fk.frR (below_alloc _ _))).mono ?_; rintro r w3 ⟨rfl, p3⟩; obtain ⟨Fs3, cs3, col3, h3, t3, m3⟩ := H1.out.back (btr hb2 (below_alloc _ _)) p3; have E3 := hide (t3.heap E1.out N1.out); have z0 : w3.cell? ⟨w.heap.size, 0, none⟩ = some (.bool sd) := cell_of E3.out 0; have z1 : w3.cell? ⟨w.heap.size, 1, none⟩ = some (.int .i64 (k : Int)) := cell_of E3.out 1; have z2 : w3.cell? ⟨w.heap.size, 2, none⟩ = some (.int .i64 v) := cell_of E3.out 2; have hE3 : w.heap.size < w3.heap.size := heap_lt E3.out; have G3 := hide ((m3 w2.heap.size hb2.size (by rw [World.size_alloc]; omega)).2.trans (heap_new w2 (.cells #[.bool false, .bool false, .bool false, .int .i64 0, .int .i64 0, .int .i64 0, .int .i64 0] 155))); have g0 := cell_of G3.out 0; have f0 := frozen_of G3.out 0; have g1 := cell_of G3.out 1; have f1 := frozen_of G3.out 1; have g2 := cell_of G3.out 2; have f2 := frozen_of G3.out 2; have g3 := cell_of G3.out 3; have f3 := frozen_of G3.out 3; have g4 := cell_of G3.out 4; have f4 := frozen_of G3.out 4; have g5 := cell_of G3.out 5; have f5 := frozen_of G3.out 5; have g6 := cell_of G3.out 6; have f6 := frozen_of G3.out 6; simp at g0 g1 g2 g3 g4 g5 g6)
    | (go_at_call 84; refine (TY.out _ ob d q2).mono ?_; rintro r w3 ⟨rfl, p3⟩; obtain ⟨Fs3, cs3, col3, h3, t3, m3⟩ := H1.out.back hb2 p3; have E3 := hide (t3.heap E1.out N1.out); have z0 : w3.cell? ⟨w.heap.size, 0, none⟩ = some (.bool sd) := cell_of E3.out 0; have z1 : w3.cell? ⟨w.heap.size, 1, none⟩ = some (.int .i64 (k : Int)) := cell_of E3.out 1; have z2 : w3.cell? ⟨w.heap.size, 2, none⟩ = some (.int .i64 v) := cell_of E3.out 2; have hE3 : w.heap.size < w3.heap.size := heap_lt E3.out))
 case' _ =>
  have N3 : Hid (col3 w.heap.size = 7) := (t3.old _ (heap_lt E1.out) (by rw [N1.out]; omega)).trans N1.out
  obtain ⟨col4, h4, t4, ⟨e4, n4⟩, g4, c4⟩ := h3.box (T1.out.trans t3) E3.out N3.out #[.bool t.rd, .bool t.ok, .bool t.wk, .int .i64 t.v, .int .i64 t.m.g, .int .i64 t.m.c, .int .i64 t.m.v] 155
  have H4 := hide h4
  have T4 := hide t4
  have E4 := hide e4
  have N4 := hide n4
  have G4 := hide g4
  have C4 := hide c4
  have hne : w.heap.size < w3.heap.size := hE3
  rename_i hH2
  clear hH2 m3 p3 h3 t3 h4 t4 e4 n4 g4 c4 z0 z1 z2 hE3 T1 H1 E1 E3 N1 N3 TY PI q2 b2 hb2 Y2 y0 y1 y2 hY2
  generalize w3.heap.size = Gb at *
  generalize w3.alloc (.cells #[.bool t.rd, .bool t.ok, .bool t.wk, .int .i64 t.v, .int .i64 t.m.g, .int .i64 t.m.c, .int .i64 t.m.v] 155) = w4 at *
 rotate_left
 case' _ =>
  have N4 : Hid (col3 w.heap.size = 7) := (t3.old _ (heap_lt E1.out) (by rw [N1.out]; omega)).trans N1.out
  have C4 := hide (m3 w2.heap.size hb2.size (by rw [World.size_alloc]; omega)).1
  obtain ⟨w4, hW⟩ : ∃ w4, w4 = ((((((w3.setCell ⟨w2.heap.size, 0, none⟩ (.bool t.rd)).setCell ⟨w2.heap.size, 1, none⟩ (.bool t.ok)).setCell ⟨w2.heap.size, 2, none⟩ (.bool t.wk)).setCell ⟨w2.heap.size, 3, none⟩ (.int .i64 t.v)).setCell ⟨w2.heap.size, 4, none⟩ (.int .i64 t.m.g)).setCell ⟨w2.heap.size, 5, none⟩ (.int .i64 t.m.c)).setCell ⟨w2.heap.size, 6, none⟩ (.int .i64 t.m.v) := ⟨_, rfl⟩
  obtain ⟨h4, t4, e4, gg⟩ := h3.box7 (T1.out.trans t3) E3.out hY2 (by omega) G3.out C4.out (.bool t.rd) (.bool t.ok) (.bool t.wk) (.int .i64 t.v) (.int .i64 t.m.g) (.int .i64 t.m.c) (.int .i64 t.m.v) w4 hW
  rw [← hW]
  have H4 := hide h4
  have T4 := hide t4
  have E4 := hide e4
  have G4 := hide gg
  have hne : w.heap.size < w2.heap.size := hY2
  rename_i hH2
  clear hH2 hW m3 p3 h3 t3 h4 t4 e4 gg z0 z1 z2 hE3 T1 H1 E1 E3 N1 TY PI q2 b2 hb2 Y2 y0 y1 y2 hY2 G3 g0 g1 g2 g3 g4 g5 g6 f0 f1 f2 f3 f4 f5 f6
  generalize w2.heap.size = Gb at *
  generalize col3 = col4 at *
 rotate_left
 case' _ =>
  have N4 : Hid (col3 w.heap.size = 7) := (t3.old _ (heap_lt E1.out) (by rw [N1.out]; omega)).trans N1.out
  have C4 := hide (m3 (w.heap.size + 1) (by rw [World.size_alloc]; omega) (heap_lt G2.out)).1
  obtain ⟨w4, hW⟩ : ∃ w4, w4 = ((((((w3.setCell ⟨w.heap.size + 1, 0, none⟩ (.bool t.rd)).setCell ⟨w.heap.size + 1, 1, none⟩ (.bool t.ok)).setCell ⟨w.heap.size + 1, 2, none⟩ (.bool t.wk)).setCell ⟨w.heap.size + 1, 3, none⟩ (.int .i64 t.v)).setCell ⟨w.heap.size + 1, 4, none⟩ (.int .i64 t.m.g)).setCell ⟨w.heap.size + 1, 5, none⟩ (.int .i64 t.m.c)).setCell ⟨w.heap.size + 1, 6, none⟩ (.int .i64 t.m.v) := ⟨_, rfl⟩
  obtain ⟨h4, t4, e4, gg⟩ := h3.box7 (T1.out.trans t3) E3.out (by omega) (by omega) G3.out C4.out (.bool t.rd) (.bool t.ok) (.bool t.wk) (.int .i64 t.v) (.int .i64 t.m.g) (.int .i64 t.m.c) (.int .i64 t.m.v) w4 hW
  rw [← hW]
  have H4 := hide h4
  have T4 := hide t4
  have E4 := hide e4
  have G4 := hide gg
  have hne : w.heap.size < w.heap.size + 1 := by omega
  rename_i hH2
  clear hH2 hW m3 p3 h3 t3 h4 t4 e4 gg z0 z1 z2 hE3 T1 H1 E1 E3 N1 TY PI q2 b2 hb2 Y2 y0 y1 y2 hY2 G2 G2x G3 g0 g1 g2 g3 g4 g5 g6 f0 f1 f2 f3 f4 f5 f6
  generalize w.heap.size + 1 = Gb at *
  generalize col3 = col4 at *
 all_goals
  have c0 : w4.cell? ⟨w.heap.size, 0, none⟩ = some (.bool sd) := cell_of E4.out 0
  have c1 : w4.cell? ⟨w.heap.size, 1, none⟩ = some (.int .i64 (k : Int)) := cell_of E4.out 1
  have c2 : w4.cell? ⟨w.heap.size, 2, none⟩ = some (.int .i64 v) := cell_of E4.out 2
  have hR := HR.out
  by_cases h0 : er = 0
  ·subst h0
   rw [if_neg (by simp)] at hR
   have q1 : w4.cell? ⟨Gb, 1, none⟩ = some (.bool t.ok) := cell_of G4.out 1
   have q3 : w4.cell? ⟨Gb, 3, none⟩ = some (.int .i64 t.v) := cell_of G4.out 3
   have nu : w4.cell? ⟨L, 8 + k, none⟩ = some (.int .i64 (nth s.nm k)) := H4.out.num hk
   have k0 : (0 : Int) ≤ (k : Int) := by omega
   have k8 : (k : Int) < 8 := by omega
   have ne1 := World.new_ne w4 _ c1
   have ne2 := World.new_ne w4 _ nu
   have ne3 := World.new_ne w4 _ q3
   have ne4 := World.new_ne w4 _ q1
   clear HR
   go_wp2_with fail
   go_region_held3 (fun w' => w'.cell? ⟨w.heap.size, 1, none⟩ = some (.int .i64 (k : Int)) ∧ w'.cell? ⟨L, 8 + k, none⟩ = some (.int .i64 (nth s.nm k)) ∧ w'.cell? ⟨Gb, 3, none⟩ = some (.int .i64 t.v) ∧ w'.cell? ⟨Gb, 1, none⟩ = some (.bool t.ok))
    (go_keep)
    (fail)
   obtain ⟨col5, h5, t5, n5⟩ := H4.out.below (btr (below_alloc w4 (.cells #[.int .i64 4, .int .i64 g, .int .i64 (nth s.nm k), .int .i64 at_, .int .i64 t.v, .int .i64 (-1), .bool false, .bool t.ok] 29)) (bdrew1 _))
   have V5 := hide (heap_below (heap_new w4 (.cells #[.int .i64 4, .int .i64 g, .int .i64 (nth s.nm k), .int .i64 at_, .int .i64 t.v, .int .i64 (-1), .bool false, .bool t.ok] 29)) (bdrew1 _))
   have C5 := hide (n5 w4.heap.size (Nat.le_refl _))
   have G5 := hide (t5.heap G4.out C4.out)
   have D5 : Hid (col5 Gb = 7) := (t5.old _ (heap_lt G4.out) (by rw [C4.out]; omega)).trans C4.out
   have E5 := hide (t5.heap E4.out N4.out)
   have NC5 : Hid (col5 w.heap.size = 7) := (t5.old _ (heap_lt E4.out) (by rw [N4.out]; omega)).trans N4.out
   have T5 := hide (T4.out.trans t5)
   have H5 := hide h5
   have hG4 := heap_lt G4.out
   have hz5 : w.heap.size ≤ w4.heap.size := by omega
   have hne4 : w.heap.size ≠ w4.heap.size := by omega
   have hne5 : Gb ≠ w4.heap.size := by omega
   rename_i hH3
   clear hH3 h5 t5 n5 H4 T4 E4 N4 G4 C4 c0 c1 c2 q1 q3 nu ne1 ne2 ne3 ne4 hG4
   generalize (w4.alloc (.cells #[.int .i64 4, .int .i64 g, .int .i64 (nth s.nm k), .int .i64 at_, .int .i64 t.v, .int .i64 (-1), .bool false, .bool t.ok] 29)).drew = w5 at *
   generalize w4.heap.size = Eb at *
   have c0 : w5.cell? ⟨w.heap.size, 0, none⟩ = some (.bool sd) := cell_of E5.out 0
   have c1 : w5.cell? ⟨w.heap.size, 1, none⟩ = some (.int .i64 (k : Int)) := cell_of E5.out 1
   have c2 : w5.cell? ⟨w.heap.size, 2, none⟩ = some (.int .i64 v) := cell_of E5.out 2
   have q2 : w5.cell? ⟨Gb, 2, none⟩ = some (.bool t.wk) := cell_of G5.out 2
   have q4 : w5.cell? ⟨Gb, 4, none⟩ = some (.int .i64 t.m.g) := cell_of G5.out 4
   have v0 := cell_of V5.out 0
   have v1 := cell_of V5.out 1
   have v2 := cell_of V5.out 2
   have v3 := cell_of V5.out 3
   have v4 := cell_of V5.out 4
   have v5 := cell_of V5.out 5
   have v6 := cell_of V5.out 6
   have v7 := cell_of V5.out 7
   have e0 := frozen_of V5.out 0
   have e1 := frozen_of V5.out 1
   have e2 := frozen_of V5.out 2
   have e3 := frozen_of V5.out 3
   have e4 := frozen_of V5.out 4
   have e5 := frozen_of V5.out 5
   have e6 := frozen_of V5.out 6
   have e7 := frozen_of V5.out 7
   simp at v0 v1 v2 v3 v4 v5 v6 v7
   obtain rfl := HSD.out
   have nu5 : w5.cell? ⟨L, 8 + k, none⟩ = some (.int .i64 (nth s.nm k)) := H5.out.num hk
   have hLE : L ≠ Eb := fun e => by have h1 := H5.out.c0; have h2 := C5.out; rw [← e] at h2; omega
   have STO := hide (run_storeVar_row (P := Tryz.prog) w5.drew Eb 29 29 _ #[.int .i64 3, .int .i64 g, .int .i64 (nth s.nm k), .int .i64 at_, .int .i64 v, .int .i64 (-1), .bool true, .bool false] (heap_below V5.out (bdrew1 _)) (by kernel_rfl) rfl (by first | kernel_rfl | simp [Value.oneCell']))
   have K8 := kb_row (w := w5.drew) (g := Eb) (cs := #[.int .i64 3, .int .i64 g, .int .i64 (nth s.nm k), .int .i64 at_, .int .i64 v, .int .i64 (-1), .bool true, .bool false])
   have C1E := hide (K8.cell8 c1 hne4)
   have NUE := hide (K8.cell8 nu5 hLE)
   have C2E := hide (K8.cell8 c2 hne4)
   have V6 := hide (setRow_heap w5.drew Eb _ #[.int .i64 3, .int .i64 g, .int .i64 (nth s.nm k), .int .i64 at_, .int .i64 v, .int .i64 (-1), .bool true, .bool false] 29 (0, 0) (heap_below V5.out (bdrew1 _)))
   have H6 := hide (H5.out.drew.kb K8 C5.out)
   have T6 := hide (T5.out.drew.kb K8 hz5)
   have G6 := hide (K8.heap (heap_below G5.out (bdrew1 _)) hne5)
   have E6 := hide (K8.heap (heap_below E5.out (bdrew1 _)) hne4)
   clear K8 v0 v1 v2 v3 v4 v5 v6 v7 e0 e1 e2 e3 e4 e5 e6 e7 q2 q4
   go_wp2_with fail
   refine wp_region_held_drew (S := fun w' => w'.cell? ⟨w.heap.size, 1, none⟩ = some (.int .i64 (k : Int)) ∧ w'.cell? ⟨L, 8 + k, none⟩ = some (.int .i64 (nth s.nm k)) ∧ w'.cell? ⟨w.heap.size, 2, none⟩ = some (.int .i64 v)) (by kernel_rfl) ?_ (fun hHeld => ?_)
   ·exact ⟨c1, nu5, c2⟩
   refine wpAnyH_take (i := 0) (v := ?_) rfl (by kernel_rfl) (by kernel_rfl) (by kernel_rfl) (fun _ _ _ h => h) (Or.inl ⟨by rfl, ?_⟩) (by assumption) ?_
   rotate_left
   ·intro w0 hSw; (try dsimp only at hSw); go_simp <;> with_reducible rfl
   try simp only [Act.put, List.getElem_toArray, List.getElem_cons_zero, List.setIfInBounds_toArray, List.set_cons_zero, List.set_cons_succ]
   refine wpAnyH_take (i := 1) (v := ?_) rfl (by kernel_rfl) (by kernel_rfl) (by kernel_rfl) (fun _ _ _ h => h) (Or.inl ⟨by rfl, ?_⟩) (by assumption) ?_
   rotate_left
   ·intro w0 hSw; (try dsimp only at hSw); go_simp <;> with_reducible rfl
   try simp only [Act.put, List.getElem_toArray, List.getElem_cons_zero, List.getElem_cons_succ, List.setIfInBounds_toArray, List.set_cons_zero, List.set_cons_succ]
   refine wpAnyH_take (i := 2) (v := ?_) rfl (by kernel_rfl) (by kernel_rfl) (by kernel_rfl) (fun _ _ _ h => h) (Or.inl ⟨by rfl, ?_⟩) (by assumption) ?_
   rotate_left
   ·intro w0 hSw; (try dsimp only at hSw); go_simp <;> with_reducible rfl
   try simp only [Act.put, List.getElem_toArray, List.getElem_cons_zero, List.getElem_cons_succ, List.setIfInBounds_toArray, List.set_cons_zero, List.set_cons_succ]
   refine wpAnyH_take (i := 3) (v := ?_) rfl (by kernel_rfl) (by kernel_rfl) (by kernel_rfl) (fun _ _ _ h => h) (Or.inl ⟨by rfl, ?_⟩) (by assumption) ?_
   rotate_left
   ·intro w0 hSw; (try dsimp only at hSw); go_simp <;> with_reducible rfl
   try simp only [Act.put, List.getElem_toArray, List.getElem_cons_zero, List.getElem_cons_succ, List.setIfInBounds_toArray, List.set_cons_zero, List.set_cons_succ]
   refine wpAnyH_take (i := 4) (v := ?_) rfl (by kernel_rfl) (by kernel_rfl) (by kernel_rfl) (fun _ _ _ h => h) (Or.inl ⟨by rfl, ?_⟩) (by assumption) ?_
   rotate_left
   ·intro w0 hSw; (try dsimp only at hSw); go_simp <;> with_reducible rfl
   try simp only [Act.put, List.getElem_toArray, List.getElem_cons_zero, List.getElem_cons_succ, List.setIfInBounds_toArray, List.set_cons_zero, List.set_cons_succ]
   refine wpAnyH_take (i := 5) (v := ?_) rfl (by kernel_rfl) (by kernel_rfl) (by kernel_rfl) (fun _ _ _ h => h) (Or.inl ⟨by rfl, ?_⟩) (by assumption) ?_
   rotate_left
   ·intro w0 hSw; (try dsimp only at hSw); go_simp <;> with_reducible rfl
   try simp only [Act.put, List.getElem_toArray, List.getElem_cons_zero, List.getElem_cons_succ, List.setIfInBounds_toArray, List.set_cons_zero, List.set_cons_succ]
   refine wpAnyH_take (i := 6) (v := ?_) rfl (by kernel_rfl) (by kernel_rfl) (by kernel_rfl) (fun _ _ _ h => h) (Or.inl ⟨by rfl, ?_⟩) (by assumption) ?_
   rotate_left
   ·intro w0 hSw; (try dsimp only at hSw); go_simp <;> with_reducible rfl
   try simp only [Act.put, List.getElem_toArray, List.getElem_cons_zero, List.getElem_cons_succ, List.setIfInBounds_toArray, List.set_cons_zero, List.set_cons_succ]
   refine wpAnyH_take (i := 7) (v := ?_) rfl (by kernel_rfl) (by kernel_rfl) (by kernel_rfl) (fun _ _ _ h => h) (Or.inl ⟨by rfl, ?_⟩) (by assumption) ?_
   rotate_left
   ·intro w0 hSw; (try dsimp only at hSw); go_simp <;> with_reducible rfl
   try simp only [Act.put, List.getElem_toArray, List.getElem_cons_zero, List.getElem_cons_succ, List.setIfInBounds_toArray, List.set_cons_zero, List.set_cons_succ]
   refine wpAnyH_take (i := 8) (v := ?_) rfl (by kernel_rfl) (by kernel_rfl) (by kernel_rfl) (fun _ _ _ h => h) (Or.inl ⟨by rfl, ?_⟩) (by assumption) ?_
   rotate_left
   ·intro w0 hSw; (try dsimp only at hSw); go_simp <;> with_reducible rfl
   try simp only [Act.put, List.getElem_toArray, List.getElem_cons_zero, List.getElem_cons_succ, List.setIfInBounds_toArray, List.set_cons_zero, List.set_cons_succ]
   refine wpAnyH_take (i := 9) (v := ?_) rfl (by kernel_rfl) (by kernel_rfl) (by kernel_rfl) (fun _ _ _ h => h) (Or.inl ⟨by rfl, ?_⟩) (by assumption) ?_
   rotate_left
   ·intro w0 hSw; (try dsimp only at hSw); go_simp <;> with_reducible rfl
   try simp only [Act.put, List.getElem_toArray, List.getElem_cons_zero, List.getElem_cons_succ, List.setIfInBounds_toArray, List.set_cons_zero, List.set_cons_succ]
   refine wpAnyH_take (i := 10) (v := ?_) rfl (by kernel_rfl) (by kernel_rfl) (by kernel_rfl) (fun _ _ _ h => h) (Or.inl ⟨by rfl, ?_⟩) (by assumption) ?_
   rotate_left
   ·intro w0 hSw; (try dsimp only at hSw); go_simp <;> with_reducible rfl
   try simp only [Act.put, List.getElem_toArray, List.getElem_cons_zero, List.getElem_cons_succ, List.setIfInBounds_toArray, List.set_cons_zero, List.set_cons_succ]
   refine wpAnyH_take (i := 11) (v := ?_) rfl (by kernel_rfl) (by kernel_rfl) (by kernel_rfl) (fun _ _ _ h => h) (Or.inl ⟨by rfl, ?_⟩) (by assumption) ?_
   rotate_left
   ·intro w0 hSw; (try dsimp only at hSw); go_simp <;> with_reducible rfl
   try simp only [Act.put, List.getElem_toArray, List.getElem_cons_zero, List.getElem_cons_succ, List.setIfInBounds_toArray, List.set_cons_zero, List.set_cons_succ]
   refine wpAnyH_ready (rs := [12]) (by kernel_rfl) (by simp) ?_
   refine AllReadyH.cons rfl (fun K hK => ?_) AllReadyH.nil
   refine step_store8 (by rfl) 29 _ _ (by rfl) ⟨Eb, 0, none⟩ (.agg #[.int .i64 3, .int .i64 g, .int .i64 (nth s.nm k), .int .i64 at_, .int .i64 v, .int .i64 (-1), .bool true, .bool false]) _ (by rfl) (by rfl) STO.out ?_
   refine hK.out _ _ ?_ (fun hHeld => ?_)
   ·exact ⟨C1E.out, NUE.out, C2E.out⟩
   clear hK K
   try simp only [Act.put, List.getElem_toArray, List.getElem_cons_zero, List.getElem_cons_succ]
   refine wpAnyH_done (by kernel_rfl) ?_ _
   clear H5 T5 G5 E5 V5 c0 c1 c2 nu5 STO C1E NUE C2E
   generalize w5.drew.setRow Eb #[.int .i64 3, .int .i64 g, .int .i64 (nth s.nm k), .int .i64 at_, .int .i64 v, .int .i64 (-1), .bool true, .bool false] = w6 at *
   have q2 : w6.cell? ⟨Gb, 2, none⟩ = some (.bool t.wk) := cell_of G6.out 2
   have q4 : w6.cell? ⟨Gb, 4, none⟩ = some (.int .i64 t.m.g) := cell_of G6.out 4
   have v0 := cell_of V6.out 0
   have v1 := cell_of V6.out 1
   have v2 := cell_of V6.out 2
   have v3 := cell_of V6.out 3
   have v4 := cell_of V6.out 4
   have v5 := cell_of V6.out 5
   have v6 := cell_of V6.out 6
   have v7 := cell_of V6.out 7
   have e5 := frozen_of V6.out 5
   simp at v0 v1 v2 v3 v4 v5 v6 v7
   cases hw : t.wk
   ·have hv : tryV s g at_ ⟨true, k, v⟩ t = (⟨3, g, nth s.nm k, at_, v, (-1), true, false⟩ : Ev) := by simp [tryV, num, hw, TOK.out]
    rw [hw] at hR q2
    rw [hv] at hR
    have NO := hide (note_any L N col5 _ (⟨3, g, nth s.nm k, at_, v, (-1), true, false⟩ : Ev) _ H6.out.lw (by have := OK.out.tn; show s.tr.length ≤ _; omega))
    unfold En.evv En.evc at NO
    go_wp2_with fail
    refine NO.out.mono ?_
    rintro r w7 ⟨rfl, col7, h7, t7⟩
    obtain ⟨C7, B7, FB7, hd7, pa7, pc7, oa7, oc7, bs7, Fs7, cs7, ta7, tc7, h7⟩ := h7
    have T7 := hide (T6.out.trans t7)
    have G7 := hide (t7.heap G6.out D5.out)
    have D7 : Hid (col7 Gb = 7) := (t7.old _ (heap_lt G6.out) (by rw [D5.out]; omega)).trans D5.out
    have y6 := cell_of h7.hp 6
    simp [rcs] at y6
    have GO := hide (Cr.rturn00 B7 FB7 s.cr K g w7 h7.cr OK.out.cb (by omega))
    have H7 := hide h7
    clear NO h7 t7 v0 v1 v2 v3 v4 v5 v6 v7 e5 q2 q4
    go_wp2_with fail
    refine GO.out.mono ?_
    rintro r w8 ⟨rfl, p8⟩
    obtain ⟨FB8, col8, h8, t8⟩ := H7.out.crew p8
    have H8 := hide h8
    have T8 := hide (T7.out.trans t8)
    have G8 := hide (t8.heap G7.out D7.out)
    have x2 : w8.cell? ⟨Gb, 2, none⟩ = some (.bool t.wk) := cell_of G8.out 2
    rw [hw] at x2
    clear GO h8 t8 p8 H7 T7
    go_wp2_with fail
    simp only [Bool.false_eq_true, if_false] at hR
    subst hR
    exact bodyPost_ret (results_none rfl _ _ _) rfl ⟨rfl, col8, H8.out.lw, T8.out⟩
   ·have hv : tryV s g at_ ⟨true, k, v⟩ t = (⟨3, g, nth s.nm k, at_, v, t.m.g, true, false⟩ : Ev) := by simp [tryV, num, hw, TOK.out]
    rw [hw] at hR q2
    rw [hv] at hR
    have V9 := hide (Ba.heap_setCell_same V6.out (i := 5) (.int .i64 t.m.g))
    have K6 := (KB.refl Eb w6).setCell 5 (.int .i64 t.m.g)
    have H9 := hide (H6.out.kb K6 C5.out)
    have T9 := hide (T6.out.kb K6 hz5)
    have G9 := hide (K6.heap G6.out hne5)
    have E9 := hide (K6.heap E6.out hne4)
    have F5 : Hid (col5 w.heap.size = 7) := NC5.out
    have NO := hide (note_any L N col5 _ (⟨3, g, nth s.nm k, at_, v, t.m.g, true, false⟩ : Ev) _ H9.out.lw (by have := OK.out.tn; show s.tr.length ≤ _; omega))
    unfold En.evv En.evc at NO
    clear K6
    go_wp2_with fail
    refine NO.out.mono ?_
    rintro r w7 ⟨rfl, col7, h7, t7⟩
    obtain ⟨C7, B7, FB7, hd7, pa7, pc7, oa7, oc7, bs7, Fs7, cs7, ta7, tc7, h7⟩ := h7
    have T7 := hide (T9.out.trans t7)
    have G7 := hide (t7.heap G9.out D5.out)
    have D7 : Hid (col7 Gb = 7) := (t7.old _ (heap_lt G9.out) (by rw [D5.out]; omega)).trans D5.out
    have V7 := hide (t7.heap V9.out C5.out)
    have C7' : Hid (col7 Eb = 7) := (t7.old _ (heap_lt V9.out) (by rw [C5.out]; omega)).trans C5.out
    have E7 := hide (t7.heap E9.out F5.out)
    have F7 : Hid (col7 w.heap.size = 7) := (t7.old _ (heap_lt E9.out) (by rw [F5.out]; omega)).trans F5.out
    have y6 := cell_of h7.hp 6
    simp [rcs] at y6
    have GO := hide (Cr.rturn00 B7 FB7 s.cr K g w7 h7.cr OK.out.cb (by omega))
    have H7 := hide h7
    clear NO h7 t7 v0 v1 v2 v3 v4 v5 v6 v7 e5 q2 q4 H6 H9 T9 T6 G6 G9 V6 V9 E6 E9
    go_wp2_with fail
    refine GO.out.mono ?_
    rintro r w8 ⟨rfl, p8⟩
    obtain ⟨FB8, col8, h8, t8⟩ := H7.out.crew p8
    have H8 := hide h8
    have T8 := hide (T7.out.trans t8)
    have G8 := hide (t8.heap G7.out D7.out)
    have V8 := hide (t8.heap V7.out C7'.out)
    have E8 := hide (t8.heap E7.out F7.out)
    have x2 : w8.cell? ⟨Gb, 2, none⟩ = some (.bool t.wk) := cell_of G8.out 2
    rw [hw] at x2
    have x4 : w8.cell? ⟨Gb, 4, none⟩ = some (.int .i64 t.m.g) := cell_of G8.out 4
    have x5 : w8.cell? ⟨Gb, 5, none⟩ = some (.int .i64 t.m.c) := cell_of G8.out 5
    have x6 : w8.cell? ⟨Gb, 6, none⟩ = some (.int .i64 t.m.v) := cell_of G8.out 6
    have z2 : w8.cell? ⟨Eb, 2, none⟩ = some (.int .i64 (nth s.nm k)) := cell_of V8.out 2
    have s0 : w8.cell? ⟨w.heap.size, 0, none⟩ = some (.bool true) := cell_of E8.out 0
    have s2 : w8.cell? ⟨w.heap.size, 2, none⟩ = some (.int .i64 v) := cell_of E8.out 2
    have WK := hide (wake_any L N col8 _ (K + 1) (servV (⟨3, g, nth s.nm k, at_, v, t.m.g, true, false⟩ : Ev) t) w8 H8.out.lw (Cr.Bn.ch OK.out.cb g 0 0 1 (by omega) (by omega)) (by omega) (by have := OK.out.tn; show (s.tr ++ _).length ≤ _; simp; omega) OK.out.md.2)
    unfold En.evv En.evc servV at WK
    clear GO h8 t8 p8 H7 T7 G7 V7 E7 G8 V8 E8 D7 C7' F7 y6
    go_wp2_with fail
    refine WK.out.mono ?_
    rintro r w9 ⟨rfl, col9, h9, t9⟩
    have H9 := hide h9
    have T9 := hide (T8.out.trans t9)
    clear h9 t9 WK
    go_wp2_with fail
    go_end0
    simp only [if_true] at hR
    subst hR
    exact ⟨rfl, col9, H9.out, T9.out⟩
  ·rw [if_pos h0] at hR
   subst hR
   have h0' : (er != 0) = true := by simp [h0]
   have PN := hide (panics_any L N col4 _ g w4 H4.out.lw (by have := OK.out.tn; show s.tr.length ≤ _; omega))
   clear HR H4
   go_wp2_with fail
   refine PN.out.mono ?_
   rintro r w5 ⟨rfl, col5, h5, t5⟩
   have H5 := hide h5
   have T5 := hide (T4.out.trans t5)
   clear h5 t5 PN
   go_wp2_with fail
   exact bodyPost_ret (results_none rfl _ _ _) rfl ⟨rfl, col5, H5.out, T5.out⟩
end Rlo
end Go.Proofs.YtblfimobiibmjabGreat
namespace Go.Proofs.YtblfimobiibmjabGreat
open Go.ChangeShapes Go.WideShapes Go.ChangeAt Go.RowKit
namespace Rlo
open Ba Lo
theorem vw_set {nm : List Int} {n : Nat} {cs : List (Option St)} {k j : Nat} {x : Option St} (h : NI nm n) (hk : k < 8) (hj : nth nm k = (j : Int)) (hl : j < cs.length) : vw nm (cs.set j x) = (vw nm cs).set k x := by
 apply List.ext_getElem?
 intro i
 by_cases i8 : i < 8
 ·rw [vw_at (by rw [h.len]; exact i8)]
  by_cases e : k = i
  ·subst e
   rw [List.getElem?_set_self (by rw [vw_len, h.len]; exact hk), hj, if_neg (by omega), Int.toNat_natCast, List.getElem?_set_self hl, join_some rfl]
  ·rw [List.getElem?_set_ne e, vw_at (by rw [h.len]; exact i8)]
   by_cases h0 : nth nm i < 0
   ·rw [if_pos h0, if_pos h0]
   ·rw [if_neg h0, if_neg h0, List.getElem?_set_ne (fun e2 => e (h.inj k i hk i8 (by omega) (by omega)))]
 ·rw [List.getElem?_eq_none (by rw [vw_len, h.len]; omega), List.getElem?_eq_none (by rw [List.length_set, vw_len, h.len]; omega)]
section
variable {w w2 : World} {col : Nat → Nat} {L N C B : Nat} {FB : Nat → Prop} {q : Hd} {pa : Option Addr} {pc : Nat} {oa : Option Addr} {oc : Nat} {bs : List (Option Nat)} {Fs : Nat → Nat → Prop} {cs : List (Option St)} {ta : Option Addr} {tc : Nat} {s : Lm}
theorem RX.chan (h : RX w col L N C B FB q pa pc oa oc bs Fs cs ta tc s) {k : Nat} (hk : k < 8) : (Fk.nmB (vw s.nm bs) (k : Int) = none ∧ Fk.nmB s.sts (k : Int) = none) ∨ ∃ (j B1 : Nat) (st : St), nth s.nm k = (j : Int) ∧ j < cs.length ∧ bs[j]? = some (some B1) ∧ cs[j]? = some (some st) ∧ Fk.nmB (vw s.nm bs) (k : Int) = some B1 ∧ Fk.nmB s.sts (k : Int) = some st ∧ Rp.Rr w B1 (Fs j) st := by
 have a1 := vw_at (nm := s.nm) (l := bs) (i := k) (by rw [h.ni.len]; exact hk)
 have a2 := vw_at (nm := s.nm) (l := cs) (i := k) (by rw [h.ni.len]; exact hk)
 rw [← h.vs] at a2
 by_cases h0 : nth s.nm k < 0
 ·rw [if_pos h0] at a1 a2
  exact .inl ⟨nm_at a1, nm_at a2⟩
 ·rw [if_neg h0] at a1 a2
  obtain ⟨j, hj⟩ : ∃ j : Nat, nth s.nm k = (j : Int) := ⟨(nth s.nm k).toNat, by omega⟩
  have jl : j < bs.length := by have := h.nl hk (show 0 ≤ nth s.nm k by omega); rw [hj] at this; simpa using this
  have jc : j < cs.length := by rw [← h.qs.len]; exact jl
  rw [hj, Int.toNat_natCast] at a1 a2
  cases hb : bs[j] with
  | none =>
    have e1 : bs[j]? = some none := by rw [List.getElem?_eq_getElem jl, hb]
    rw [join_some e1] at a1
    rw [join_some (h.qs.non j e1)] at a2
    exact .inl ⟨nm_at a1, nm_at a2⟩
  | some B1 =>
    have e1 : bs[j]? = some (some B1) := by rw [List.getElem?_eq_getElem jl, hb]
    obtain ⟨st, e2, r⟩ := h.qs.one j B1 e1
    rw [join_some e1] at a1
    rw [join_some e2] at a2
    exact .inr ⟨j, B1, st, hj, jc, e1, e2, nm_at a1, nm_at a2, r⟩
theorem RX.chanSet (h : RX w col L N C B FB q pa pc oa oc bs Fs cs ta tc s) {k j B1 : Nat} {F' : Nat → Prop} {st' : St} (hk : k < 8) (hj : nth s.nm k = (j : Int)) (jl : j < cs.length) (hb : bs[j]? = some (some B1)) (kf : KF (Fs j) w w2) (nw : Nw F' (Fs j) w) (p : Rp.Rr w2 B1 F' st') :
 ∃ Fs' cs' col', RX w2 col' L N C B FB q pa pc oa oc bs Fs' cs' ta tc { s with sts := s.sts.set k (some st') } ∧ Tq col col' w w2 := by
 obtain ⟨Fs', col', h2, t2⟩ := h.all (Fk.Rz.step Fk.frR h.qs (Below.refl _ _) hb kf nw p)
 rw [vw_set h.ni hk hj jl, ← h.vs] at h2
 exact ⟨Fs', _, col', h2, t2⟩
end
set_option maxRecDepth 100000 in
set_option maxHeartbeats 1600000 in
theorem note_x {col : Nat → Nat} {L N C B : Nat} {FB : Nat → Prop} {q : Hd} {pa : Option Addr} {pc : Nat} {oa : Option Addr} {oc : Nat} {bs : List (Option Nat)} {Fs : Nat → Nat → Prop} {cs : List (Option St)} {ta : Option Addr} {tc : Nat} {s : Lm} (e : Ev) (w : World) (h : RX w col L N C B FB q pa pc oa oc bs Fs cs ta tc s) (ht : s.tr.length ≤ 1000000) :
 Calls Tryz.prog 38 #[.pointer (some ⟨L, 0, none⟩), En.evv e] w fun r w' => r = .returned (.tuple #[]) ∧ ∃ ta' tc' col', RX w' col' L N C B FB q pa pc oa oc bs Fs cs ta' tc' (tellS s e) ∧ Tq col col' w w' := by
 unfold En.evv En.evc
 obtain ⟨i0, hi, hz0, hz1, hz2⟩ : ∃ i0, Tryz.prog.info? 29 = some i0 ∧ i0.zero = some (.agg #[.int .i64 0, .int .i64 0, .int .i64 0, .int .i64 0, .int .i64 0, .int .i64 0, .bool false, .bool false]) ∧ i0.size = 8 ∧ i0.bytes = 56 := by
  cases hi : Tryz.prog.info? 29 with
  | none => have := info_ev; rw [hi] at this; cases this
  | some i0 =>
    have hx := info_ev
    rw [hi] at hx
    simp at hx
    exact ⟨i0, rfl, hx⟩
 have INF := hide (And.intro hi (And.intro hz0 (And.intro hz1 hz2)))
 have H := hide h
 have y0 : w.cell? ⟨L, 16, none⟩ = some (.slice ta s.tr.length tc) := cell_of h.hp 16
 have f0 : w.frozen? ⟨L, 16, none⟩ = false := frozen_of h.hp 16
 have hL := h.lt
 clear h hi hz0 hz1 hz2
 have BD := hide (btr (btr (below_alloc w (.cells #[.int .i64 e.k, .int .i64 e.g, .int .i64 e.c, .int .i64 e.a, .int .i64 e.v, .int .i64 e.m, .bool e.s, .bool e.o] 29)) (below_alloc _ (.cells #[.int .i64 e.k, .int .i64 e.g, .int .i64 e.c, .int .i64 e.a, .int .i64 e.v, .int .i64 e.m, .bool e.s, .bool e.o] 29))) (bdrew1 _))
 have ow1 : ((w.alloc (.cells #[.int .i64 e.k, .int .i64 e.g, .int .i64 e.c, .int .i64 e.a, .int .i64 e.v, .int .i64 e.m, .bool e.s, .bool e.o] 29)).alloc (.cells #[.int .i64 e.k, .int .i64 e.g, .int .i64 e.c, .int .i64 e.a, .int .i64 e.v, .int .i64 e.m, .bool e.s, .bool e.o] 29)).drew.ownsRow 0 29 8 (.slice ta s.tr.length tc) s.tr.length (ec s.tr) := Cr.own_keep H.out.tr fun g e => by
  obtain ⟨_, cur, hc⟩ := Cr.own_blk H.out.tr g e
  exact BD.out.block g (heap_lt hc)
 obtain ⟨v', w6, hr, hown, hgrow, _, hat⟩ := run_append_own_at (P := Tryz.prog) (((w.alloc (.cells #[.int .i64 e.k, .int .i64 e.g, .int .i64 e.c, .int .i64 e.a, .int .i64 e.v, .int .i64 e.m, .bool e.s, .bool e.o] 29)).alloc (.cells #[.int .i64 e.k, .int .i64 e.g, .int .i64 e.c, .int .i64 e.a, .int .i64 e.v, .int .i64 e.m, .bool e.s, .bool e.o] 29)).drew) 0 22 22 29 i0 _ 8 56 Tryz.underlying22 INF.out.1 INF.out.2.1 INF.out.2.2.1 INF.out.2.2.2 rfl (by decide) _ _ _ ow1 ⟨w.heap.size + 1, 0, none⟩ 1 1 (ec [e]) rfl (src8 w e _) (ec_one _) (by unfold maxLen; omega) (by omega) (Nat.zero_le _)
 rw [← ec_app] at hown
 obtain ⟨ta', tc', rfl⟩ := own_sl hown
 obtain ⟨col', hx, htr⟩ := H.out.told BD.out rfl hown hgrow hat
 have G6 : w6.heap[L]? = some (.cells (rcs q pa s.ps.length pc C B oa bs.length oc s.nm ta s.tr.length tc s.pk) 75 (0, 0)) := by
  refine (hgrow.block L (Nat.lt_of_lt_of_le hL BD.out.size) (fun e => ?_)).trans ((BD.out.block L hL).trans H.out.hp)
  have := H.out.c5 L e.symm
  rw [H.out.c0] at this
  omega
 have y6 : w6.cell? ⟨L, 16, none⟩ = some (.slice ta s.tr.length tc) := cell_of G6 16
 have f6 : w6.frozen? ⟨L, 16, none⟩ = false := frozen_of G6 16
 have HX := hide hx
 have HT := hide htr
 have HR := hide hr
 clear hown hgrow hat hr hx htr G6 ow1 BD
 go_enter Tryz.func38, Tryz.ntmps38
 go_wp2_with fail
 go_region_law (refine Rp.step_append_run _ (by rfl) _ _ _ _ (by rfl) _ _ (by rfl) (by rfl) _ _ HR.out ?_)
 all_goals
  go_wp2_with fail
  go_end0
  exact ⟨rfl, ta', tc', col', HX.out, HT.out⟩
theorem talk_any (L N : Nat) (col : Nat → Nat) (s : Lm) (K : Nat) (g at_ : Int) (sd : Bool) (k : Nat) (v : Int) (w : World) (h : RW w col L N s) (ok : Ok K s) (hK : K ≤ 99000) (hk : k < 8) :
 Calls Tryz.prog 62 #[.pointer (some ⟨L, 0, none⟩), .int .i64 g, .agg #[.bool sd, .int .i64 (k : Int), .int .i64 v], .int .i64 at_] w fun r w' => r = .returned (.tuple #[]) ∧ ∃ col', RW w' col' L N (talkF s g at_ ⟨sd, k, v⟩) ∧ Tq col col' w w' := by
 cases sd
 ·exact talk_recv L N col s K g at_ false k v w h ok hK hk rfl
 ·exact talk_send L N col s K g at_ true k v w h ok hK hk rfl
set_option maxRecDepth 100000 in
set_option maxHeartbeats 3200000 in
theorem alone_r (L N : Nat) (col : Nat → Nat) (s : Lm) (K : Nat) (g : Int) (sd : Bool) (k : Nat) (v : Int) (w : World) (h : RW w col L N s) (ok : Ok K s) (hK : K ≤ 99000) (hk : k < 8) :
 Calls Tryz.prog 41 #[.pointer (some ⟨L, 0, none⟩), .int .i64 g, .agg #[.bool sd, .int .i64 (k : Int), .int .i64 v]] w fun r w' => r = .returned (.tuple #[]) ∧ ∃ col', RW w' col' L N (aloneR s g ⟨sd, k, v⟩) ∧ Tq col col' w w' := by
 obtain ⟨C, B, FB, hd, pa, pc, oa, oc, bs, Fs, cs, ta, tc, h⟩ := h
 obtain ⟨col1, h1, t1, n1⟩ := h.below (below_alloc w (.cells #[.bool sd, .int .i64 (k : Int), .int .i64 v] 97))
 have T1 := hide t1
 have H1 := hide h1
 have E1 := hide (heap_new w (.cells #[.bool sd, .int .i64 (k : Int), .int .i64 v] 97))
 have N1 := hide (n1 w.heap.size (Nat.le_refl _))
 have PI := hide (fun u (hb : Below (w.alloc (.cells #[.bool sd, .int .i64 (k : Int), .int .i64 v] 97)).heap.size (w.alloc (.cells #[.bool sd, .int .i64 (k : Int), .int .i64 v] 97)) u) => pipes_q (w.alloc (.cells #[.bool sd, .int .i64 (k : Int), .int .i64 v] 97)) u H1.out hb)
 have OK := hide ok
 have CH := hide (h.chan hk)
 have NV := hide (fun u oa d (hq : Fk.PR u oa (vw s.nm bs)) => Fk.rnamed_any oa (vw s.nm bs) (k : Int) d u hq)
 obtain ⟨R, hR⟩ : ∃ R, aloneR s g ⟨sd, k, v⟩ = R := ⟨_, rfl⟩
 rw [hR]
 unfold aloneR Fk.crdy waitN at hR
 simp only at hR
 have c1 : (w.alloc (.cells #[.bool sd, .int .i64 (k : Int), .int .i64 v] 97)).cell? ⟨w.heap.size, 1, none⟩ = some (.int .i64 (k : Int)) := cell_of E1.out 1
 clear h t1 h1 n1 ok
 rcases CH.out with ⟨hb0, hs0⟩ | ⟨j, B1, st, hj, jl, hbj, hcj, hb0, hs0, rr⟩
 ·rw [hb0] at NV
  rw [hs0] at hR
  simp only [Bool.false_eq_true, if_false] at hR
  unfold Pe.pt at NV
  simp only [Option.map_none] at NV
  have HR := hide hR
  clear hR CH
  go_enter Tryz.func41, Tryz.ntmps41
  go_wp2_with fail
  go_region_held3 (fun w' => w'.cell? ⟨w.heap.size, 1, none⟩ = some (.int .i64 (k : Int)))
   (first | (go_keep; done) | (exact y1))
   (first
     | (go_at_call 60; refine (PI.out _ (bdrew1 _)).mono ?_; rintro r w2 ⟨ob, d, rfl, q2, b2⟩; have hb2 := btr (bdrew1 (w.alloc (.cells #[.bool sd, .int .i64 (k : Int), .int .i64 v] 97))) b2; have Y2 := hide (heap_below E1.out hb2); have y1 : w2.cell? ⟨w.heap.size, 1, none⟩ = some (.int .i64 (k : Int)) := cell_of Y2.out 1)
     | (go_at_call 59; refine (NV.out _ ob d q2.row).mono ?_; rintro r w3 ⟨rfl, rfl⟩))
  obtain ⟨col3, h3, t3, -⟩ := H1.out.below hb2
  have H3 := hide h3
  have T3 := hide (T1.out.trans t3)
  have N3 : Hid (col3 w.heap.size = 7) := (t3.old _ (heap_lt E1.out) (by rw [N1.out]; omega)).trans N1.out
  have E3 := hide Y2.out
  rename_i hH2
  clear hH2 h3 t3 b2 hb2 q2 Y2 y1 PI NV T1 H1 E1 N1 c1
  go_wp2_with fail
  refine (bare_r 6 g _).mono ?_
  rintro r w5 ⟨rfl, b5⟩
  unfold En.evv En.evc bareE
  obtain ⟨col6, h6, t6, n6⟩ := H3.out.below (btr b5 (below_alloc w5 (.cells #[.int .i64 6, .int .i64 g, .int .i64 (-1), .int .i64 (-1), .int .i64 (-1), .int .i64 (-1), .bool false, .bool false] 29)))
  have V6 := hide (heap_new w5 (.cells #[.int .i64 6, .int .i64 g, .int .i64 (-1), .int .i64 (-1), .int .i64 (-1), .int .i64 (-1), .bool false, .bool false] 29))
  have s5 := b5.size
  have C6 := hide (n6 w5.heap.size s5)
  have E6 := hide (t6.heap E3.out N3.out)
  have N6 : Hid (col6 w.heap.size = 7) := (t6.old _ (heap_lt E3.out) (by rw [N3.out]; omega)).trans N3.out
  have T6 := hide (T3.out.trans t6)
  have H6 := hide h6
  have hE3 := heap_lt E3.out
  have hz6 : w.heap.size ≤ w5.heap.size := by omega
  have hn6 : w.heap.size ≠ w5.heap.size := by omega
  have hL6 : L ≠ w5.heap.size := fun e => by have := H6.out.c0; rw [e, C6.out] at this; omega
  clear h6 t6 n6 b5 T3 E3 N3 hE3
  have u0 : (w5.alloc (.cells #[.int .i64 6, .int .i64 g, .int .i64 (-1), .int .i64 (-1), .int .i64 (-1), .int .i64 (-1), .bool false, .bool false] 29)).cell? ⟨L, 8 + k, none⟩ = some (.int .i64 (nth s.nm k)) := H6.out.num hk
  go_wp2_with fail
  generalize w5.alloc (.cells #[.int .i64 6, .int .i64 g, .int .i64 (-1), .int .i64 (-1), .int .i64 (-1), .int .i64 (-1), .bool false, .bool false] 29) = w6 at *
  generalize w5.heap.size = Eb at *
  have c1 : w6.cell? ⟨w.heap.size, 1, none⟩ = some (.int .i64 (k : Int)) := cell_of E6.out 1
  have v2 := cell_of V6.out 2
  have e2 := frozen_of V6.out 2
  have k0 : (0 : Int) ≤ (k : Int) := by omega
  have k8 : (k : Int) < 8 := by omega
  simp at v2
  go_region_held3 (fun w' => w'.cell? ⟨w.heap.size, 1, none⟩ = some (.int .i64 (k : Int)) ∧ w'.cell? ⟨L, 8 + k, none⟩ = some (.int .i64 (nth s.nm k)))
   (first | (go_keep; done) | (go_split_ands; refine ⟨kset1 ?_ hn6, kset1 ?_ hL6⟩ <;> assumption))
   (fail)
  have V7 := hide (heap_below (Ba.heap_setCell_same V6.out (i := 2) (.int .i64 (nth s.nm k))) (bdrew1 _))
  have K6 := (KB.refl Eb w6).setCell 2 (.int .i64 (nth s.nm k))
  have H7 := hide (H6.out.kb K6 C6.out).drew
  have T7 := hide (T6.out.kb K6 hz6).drew
  have E7 := hide (heap_below (K6.heap E6.out hn6) (bdrew1 _))
  rename_i hH5
  clear hH5 K6 V6 H6 T6 E6 c1 u0 v2 e2
  generalize w6.setCell ⟨Eb, 2, none⟩ (.int .i64 (nth s.nm k)) = w7z at *
  generalize w7z.drew = w7 at *
  have c0 : w7.cell? ⟨w.heap.size, 0, none⟩ = some (.bool sd) := cell_of E7.out 0
  have c2 : w7.cell? ⟨w.heap.size, 2, none⟩ = some (.int .i64 v) := cell_of E7.out 2
  have v0 := cell_of V7.out 0
  have v1 := cell_of V7.out 1
  have v2 := cell_of V7.out 2
  have v3 := cell_of V7.out 3
  have v4 := cell_of V7.out 4
  have v5 := cell_of V7.out 5
  have v6 := cell_of V7.out 6
  have v7 := cell_of V7.out 7
  have e4 := frozen_of V7.out 4
  have e6 := frozen_of V7.out 6
  simp at v0 v1 v2 v3 v4 v5 v6 v7
  have K7 := ((KB.refl Eb w7).setCell 4 (.int .i64 v)).setCell 6 (.bool sd)
  have H8 := hide (H7.out.kb K7 C6.out)
  have T8 := hide (T7.out.kb K7 hz6)
  have E8 := hide (K7.heap E7.out hn6)
  have NO := hide (note_x (⟨6, g, nth s.nm k, -1, v, -1, sd, false⟩ : Ev) _ H8.out (by have := OK.out.tn; omega))
  unfold En.evv En.evc at NO
  clear K7
  go_wp2_with fail
  refine NO.out.mono ?_
  rintro r w9 ⟨rfl, ta9, tc9, col9, h9, t9⟩
  have H9 := hide h9
  have T9 := hide (T8.out.trans t9)
  have E9 := hide (t9.heap E8.out N6.out)
  have N9 : Hid (col9 w.heap.size = 7) := (t9.old _ (heap_lt E8.out) (by rw [N6.out]; omega)).trans N6.out
  clear h9 t9 NO V7 H7 T7 E7 H8 T8 E8 c0 c2 v0 v1 v2 v3 v4 v5 v6 v7 e4 e6
  have ya := cell_of H9.out.hp 6
  simp [rcs] at ya
  have TU := hide (Cr.rturn01 B FB s.cr K g w9 H9.out.cr OK.out.cb (by omega))
  go_wp2_with fail
  refine TU.out.mono ?_
  rintro r wb ⟨rfl, pb⟩
  obtain ⟨FBb, colb, hb, tb⟩ := H9.out.crew pb
  have Hb := hide hb
  have Tb := hide (T9.out.trans tb)
  clear hb tb pb TU
  go_wp2_with fail
  go_end0
  refine ⟨rfl, colb, ?_, Tb.out⟩
  have hR := HR.out
  simp only [num, Int.toNat_natCast] at hR
  rw [← hR]
  exact Hb.out.lw
 ·rw [hb0] at NV
  rw [hs0] at hR
  simp only at hR
  unfold Pe.pt at NV
  simp only [Option.map_some] at NV
  have HR := hide hR
  have RR := hide rr
  have HBJ := hide hbj
  have HJ := hide hj
  have HCJ := hide hcj
  clear hR CH rr hbj hj hcj hb0 hs0
  go_enter Tryz.func41, Tryz.ntmps41
  go_wp2_with fail
  go_region_held3 (fun w' => w'.cell? ⟨w.heap.size, 1, none⟩ = some (.int .i64 (k : Int)))
   (first | (go_keep; done) | (exact y1))
   (first
     | (go_at_call 60; refine (PI.out _ (bdrew1 _)).mono ?_; rintro r w2 ⟨ob, d, rfl, q2, b2⟩; have hb2 := btr (bdrew1 (w.alloc (.cells #[.bool sd, .int .i64 (k : Int), .int .i64 v] 97))) b2; have Y2 := hide (heap_below E1.out hb2); have y1 : w2.cell? ⟨w.heap.size, 1, none⟩ = some (.int .i64 (k : Int)) := cell_of Y2.out 1)
     | (go_at_call 59; refine (NV.out _ ob d q2.row).mono ?_; rintro r w3 ⟨rfl, rfl⟩))
  have RD := hide (Rp.rready_any B1 (Fs j) st sd w3 ((RR.out.below (below_alloc w (.cells #[.bool sd, .int .i64 (k : Int), .int .i64 v] 97))).below hb2))
  have c0 : w3.cell? ⟨w.heap.size, 0, none⟩ = some (.bool sd) := cell_of Y2.out 0
  rename_i hH2
  clear hH2 b2 q2 y1 PI NV
  have Y3 := hide hb2
  clear hb2
  go_wp2_with fail
  refine RD.out.mono ?_
  rintro r w4 ⟨rfl, b4⟩
  obtain ⟨col3, h3, t3, -⟩ := H1.out.below (btr Y3.out b4)
  have H3 := hide h3
  have T3 := hide (T1.out.trans t3)
  have N3 : Hid (col3 w.heap.size = 7) := (t3.old _ (heap_lt E1.out) (by rw [N1.out]; omega)).trans N1.out
  have E3 := hide (heap_below Y2.out b4)
  clear h3 t3 b4 Y2 Y3 RD c0 T1 H1 E1 N1 c1
  cases hrd : _root_.Go.Proofs.YtblfimobiibmjabGreat.Pi.rdy st sd
  ·have hR := HR.out
   rw [hrd] at hR
   simp only [Bool.false_eq_true, if_false] at hR
   have HR2 := hide hR
   clear hR HR
   have HR := HR2
   clear HR2
   go_wp2_with fail
   refine (bare_r 6 g _).mono ?_
   rintro r w5 ⟨rfl, b5⟩
   unfold En.evv En.evc bareE
   obtain ⟨col6, h6, t6, n6⟩ := H3.out.below (btr b5 (below_alloc w5 (.cells #[.int .i64 6, .int .i64 g, .int .i64 (-1), .int .i64 (-1), .int .i64 (-1), .int .i64 (-1), .bool false, .bool false] 29)))
   have V6 := hide (heap_new w5 (.cells #[.int .i64 6, .int .i64 g, .int .i64 (-1), .int .i64 (-1), .int .i64 (-1), .int .i64 (-1), .bool false, .bool false] 29))
   have s5 := b5.size
   have C6 := hide (n6 w5.heap.size s5)
   have E6 := hide (t6.heap E3.out N3.out)
   have N6 : Hid (col6 w.heap.size = 7) := (t6.old _ (heap_lt E3.out) (by rw [N3.out]; omega)).trans N3.out
   have T6 := hide (T3.out.trans t6)
   have H6 := hide h6
   have hE3 := heap_lt E3.out
   have hz6 : w.heap.size ≤ w5.heap.size := by omega
   have hn6 : w.heap.size ≠ w5.heap.size := by omega
   have hL6 : L ≠ w5.heap.size := fun e => by have := H6.out.c0; rw [e, C6.out] at this; omega
   clear h6 t6 n6 b5 T3 E3 N3 hE3
   have u0 : (w5.alloc (.cells #[.int .i64 6, .int .i64 g, .int .i64 (-1), .int .i64 (-1), .int .i64 (-1), .int .i64 (-1), .bool false, .bool false] 29)).cell? ⟨L, 8 + k, none⟩ = some (.int .i64 (nth s.nm k)) := H6.out.num hk
   go_wp2_with fail
   generalize w5.alloc (.cells #[.int .i64 6, .int .i64 g, .int .i64 (-1), .int .i64 (-1), .int .i64 (-1), .int .i64 (-1), .bool false, .bool false] 29) = w6 at *
   generalize w5.heap.size = Eb at *
   have c1 : w6.cell? ⟨w.heap.size, 1, none⟩ = some (.int .i64 (k : Int)) := cell_of E6.out 1
   have v2 := cell_of V6.out 2
   have e2 := frozen_of V6.out 2
   have k0 : (0 : Int) ≤ (k : Int) := by omega
   have k8 : (k : Int) < 8 := by omega
   simp at v2
   go_region_held3 (fun w' => w'.cell? ⟨w.heap.size, 1, none⟩ = some (.int .i64 (k : Int)) ∧ w'.cell? ⟨L, 8 + k, none⟩ = some (.int .i64 (nth s.nm k)))
    (first | (go_keep; done) | (go_split_ands; refine ⟨kset1 ?_ hn6, kset1 ?_ hL6⟩ <;> assumption))
    (fail)
   have V7 := hide (heap_below (Ba.heap_setCell_same V6.out (i := 2) (.int .i64 (nth s.nm k))) (bdrew1 _))
   have K6 := (KB.refl Eb w6).setCell 2 (.int .i64 (nth s.nm k))
   have H7 := hide (H6.out.kb K6 C6.out).drew
   have T7 := hide (T6.out.kb K6 hz6).drew
   have E7 := hide (heap_below (K6.heap E6.out hn6) (bdrew1 _))
   rename_i hH5
   clear hH5 K6 V6 H6 T6 E6 c1 u0 v2 e2
   generalize w6.setCell ⟨Eb, 2, none⟩ (.int .i64 (nth s.nm k)) = w7z at *
   generalize w7z.drew = w7 at *
   have c0 : w7.cell? ⟨w.heap.size, 0, none⟩ = some (.bool sd) := cell_of E7.out 0
   have c2 : w7.cell? ⟨w.heap.size, 2, none⟩ = some (.int .i64 v) := cell_of E7.out 2
   have v0 := cell_of V7.out 0
   have v1 := cell_of V7.out 1
   have v2 := cell_of V7.out 2
   have v3 := cell_of V7.out 3
   have v4 := cell_of V7.out 4
   have v5 := cell_of V7.out 5
   have v6 := cell_of V7.out 6
   have v7 := cell_of V7.out 7
   have e4 := frozen_of V7.out 4
   have e6 := frozen_of V7.out 6
   simp at v0 v1 v2 v3 v4 v5 v6 v7
   have K7 := ((KB.refl Eb w7).setCell 4 (.int .i64 v)).setCell 6 (.bool sd)
   have H8 := hide (H7.out.kb K7 C6.out)
   have T8 := hide (T7.out.kb K7 hz6)
   have E8 := hide (K7.heap E7.out hn6)
   have NO := hide (note_x (⟨6, g, nth s.nm k, -1, v, -1, sd, false⟩ : Ev) _ H8.out (by have := OK.out.tn; omega))
   unfold En.evv En.evc at NO
   clear K7
   go_wp2_with fail
   refine NO.out.mono ?_
   rintro r w9 ⟨rfl, ta9, tc9, col9, h9, t9⟩
   have H9 := hide h9
   have T9 := hide (T8.out.trans t9)
   have E9 := hide (t9.heap E8.out N6.out)
   have N9 : Hid (col9 w.heap.size = 7) := (t9.old _ (heap_lt E8.out) (by rw [N6.out]; omega)).trans N6.out
   clear h9 t9 NO V7 H7 T7 E7 H8 T8 E8 c0 c2 v0 v1 v2 v3 v4 v5 v6 v7 e4 e6
   have c0 : w9.cell? ⟨w.heap.size, 0, none⟩ = some (.bool sd) := cell_of E9.out 0
   have c2 : w9.cell? ⟨w.heap.size, 2, none⟩ = some (.int .i64 v) := cell_of E9.out 2
   obtain ⟨st9, e9, r9⟩ := H9.out.qs.one j B1 HBJ.out
   have est : Hid (st9 = st) := by
    have h0 := HCJ.out
    show st9 = st
    rw [e9] at h0
    cases h0
    rfl
   have WT := hide (Rp.rwait_any B1 (Fs j) st9 sd ⟨g, -1, v⟩ w9 r9)
   unfold Pe.wv at WT
   clear r9 e9
   go_wp2_with fail
   refine WT.out.mono ?_
   rintro r wa ⟨rfl, kfa, Fa, nwa, pa_⟩
   obtain ⟨Fsa, csa, cola, ha, ta_⟩ := H9.out.chanSet hk (show nth s.nm k = (j : Int) from HJ.out) jl HBJ.out kfa nwa pa_
   have Ta := hide (T9.out.trans ta_)
   have ya := cell_of ha.hp 6
   simp [rcs] at ya
   have TU := hide (Cr.rturn01 B FB s.cr K g wa ha.cr OK.out.cb (by omega))
   have Ha := hide ha
   clear ha ta_ kfa nwa pa_ WT c0 c2
   go_wp2_with fail
   refine TU.out.mono ?_
   rintro r wb ⟨rfl, pb⟩
   obtain ⟨FBb, colb, hb, tb⟩ := Ha.out.crew pb
   have Hb := hide hb
   have Tb := hide (Ta.out.trans tb)
   clear hb tb pb TU
   go_wp2_with fail
   go_end0
   refine ⟨rfl, colb, ?_, Tb.out⟩
   have hR := HR.out
   simp only [num, Int.toNat_natCast] at hR
   rw [← hR, ← est.out]
   exact Hb.out.lw
  ·have hR := HR.out
   rw [hrd] at hR
   simp only [if_true] at hR
   have c0 : w4.cell? ⟨w.heap.size, 0, none⟩ = some (.bool sd) := cell_of E3.out 0
   have c1 : w4.cell? ⟨w.heap.size, 1, none⟩ = some (.int .i64 (k : Int)) := cell_of E3.out 1
   have c2 : w4.cell? ⟨w.heap.size, 2, none⟩ = some (.int .i64 v) := cell_of E3.out 2
   have TA := hide (talk_any L N col3 s K g (-1) sd k v w4 H3.out.lw OK.out hK hk)
   rw [hR] at TA
   clear HR hR
   go_wp2_with fail
   refine TA.out.mono ?_
   rintro r w5 ⟨rfl, col5, h5, t5⟩
   have H5 := hide h5
   have T5 := hide (T3.out.trans t5)
   clear h5 t5 TA
   go_wp2_with fail
   exact bodyPost_ret (results_none rfl _ _ _) rfl ⟨rfl, col5, H5.out, T5.out⟩
end Rlo
end Go.Proofs.YtblfimobiibmjabGreat
namespace Go.Proofs.YtblfimobiibmjabGreat
open Go.ChangeShapes Go.WideShapes Go.ChangeAt Go.RowKit
namespace Rp
open Ba Pe _root_.Go.Proofs.YtblfimobiibmjabGreat.Pi
theorem RO.less {w : World} {G : Nat} {F F' : Nat → Prop} {vL vS vQ : Value} {st : St} (h : RO w G F vL vS vQ st) (hg : F' G) (hl : ∀ g, vL.ownBlock = some g → F' g) (hs : ∀ g, vS.ownBlock = some g → F' g) (hq : ∀ g, vQ.ownBlock = some g → F' g) (hb : ∀ x, F' x → F x) : RO w G F' vL vS vQ st :=
 ⟨h.hp, h.rl, h.rs, h.rq, h.ap, hg, hl, hs, hq, fun x hx => h.bd x (hb x hx), h.les, h.leq, h.bl, h.sz⟩
theorem own_addr {w : World} {base : Nat} {e : TypeId} {size : Nat} {oa : Option Addr} {n c m : Nat} {xs : List Value} (h : w.ownsRow base e size (.slice oa n c) m xs) : ∀ a, oa = some a → (Value.slice oa n c).ownBlock = some a.block := by
 rcases h.2 with ⟨e0, h0⟩ | ⟨g, cap, cur, e0, _⟩
 ·cases e0
  exact fun a e => by cases e
 ·cases e0
  exact fun a e => by cases e; rfl
set_option maxRecDepth 100000 in
set_option maxHeartbeats 1600000 in
theorem rclose_rows (G : Nat) (F : Nat → Prop) (st : St) (w : World) (h : Rr w G F st) (hc : st.closed = false) :
 Calls Tryz.prog 66 #[.pointer (some ⟨G, 0, none⟩)] w fun r w' => ∃ oa ca ob cb, r = .returned (.tuple #[.slice oa st.rcv.length ca, .slice ob st.snd.length cb, .int .i64 0]) ∧ (WAt w' oa st.rcv ∧ WAt w' ob st.snd) ∧ KF F w w' ∧ ∃ F' : Nat → Prop, (∀ x, F' x → F x) ∧ Rr w' G F' { st with snd := [], rcv := [], closed := true } ∧ (∀ a, oa = some a → F a.block ∧ ¬ F' a.block) ∧ ∀ a, ob = some a → F a.block ∧ ¬ F' a.block := by
 obtain ⟨vL, vS, vQ, h⟩ := h
 have H := hide h
 obtain ⟨ol, cl, os, cs, oq, cq, ⟨rfl, _, _⟩, ⟨rfl, _, _⟩, rfl, _, _⟩ := h.read
 have y4 : w.cell? ⟨G, 4, none⟩ = some (.bool false) := (cell_of h.hp 4).trans (by rw [hc]; rfl)
 have y2 : w.cell? ⟨G, 2, none⟩ = some (.slice os st.snd.length cs) := cell_of h.hp 2
 have y3 : w.cell? ⟨G, 3, none⟩ = some (.slice oq st.rcv.length cq) := cell_of h.hp 3
 have f2 := frozen_of h.hp 2
 have f3 := frozen_of h.hp 3
 have f4 := frozen_of h.hp 4
 have P1 := hide (h.setClosed true)
 have P2 := hide (P1.out.newQ (N := w.heap.size) (l := []) (World.ownsRow_nil _ _ _ _) (fun k hk => H.out.bd k hk) (Nat.zero_le _))
 have P3 := hide (P2.out.newS (N := w.heap.size) (l := []) (World.ownsRow_nil _ _ _ _) (fun k hk => hk.elim (H.out.bd k) (fun e => by simp [Value.ownBlock] at e)) (Nat.zero_le _))
 clear h hc
 go_enter Tryz.func66, Tryz.ntmps66
 go_wp2_with fail
 go_ret3
 have K := ((((KF.refl F w).set H.out.fg 4 (.bool true)).set H.out.fg 3 (.slice none 0 0)).set H.out.fg 2 (.slice none 0 0))
 have KG := ((((KB.refl G w).setCell 4 (.bool true)).setCell 3 (.slice none 0 0)).setCell 2 (.slice none 0 0))
 refine ⟨oq, cq, os, ⟨cs, rfl⟩, ⟨?_, ?_⟩, K, fun x => x = G ∨ (Value.slice ol st.buf.length cl).ownBlock = some x, ?_, (P3.out.less (.inl rfl) (fun g e => .inr e) (fun g e => by simp [Value.ownBlock] at e) (fun g e => by simp [Value.ownBlock] at e) ?_).rr, ?_, ?_⟩
 ·refine own_wat' (own_keep H.out.rq fun g e => KG.block g (H.out.bd g (H.out.fq g e)) (fun e2 => ?_))
  exact own_ty H.out.rq H.out.hp (by decide) (by rw [← e2]; exact e.symm)
 ·refine own_wat' (own_keep H.out.rs fun g e => KG.block g (H.out.bd g (H.out.fs g e)) (fun e2 => ?_))
  exact own_ty H.out.rs H.out.hp (by decide) (by rw [← e2]; exact e.symm)
 ·rintro x (rfl | e)
  ·exact H.out.fg
  ·exact H.out.fl x e
 ·rintro x (rfl | e)
  ·exact .inl (.inl H.out.fg)
  ·exact .inl (.inl (H.out.fl x e))
 ·intro a e
  have e2 := own_addr H.out.rq a e
  refine ⟨H.out.fq _ e2, ?_⟩
  rintro (q | q)
  ·exact own_ty H.out.rq H.out.hp (by decide) (by rw [← q]; exact e2.symm)
  ·exact own_ne H.out.rq H.out.rl (by decide) _ e2 q
 ·intro a e
  have e2 := own_addr H.out.rs a e
  refine ⟨H.out.fs _ e2, ?_⟩
  rintro (q | q)
  ·exact own_ty H.out.rs H.out.hp (by decide) (by rw [← q]; exact e2.symm)
  ·exact own_ne H.out.rs H.out.rl (by decide) _ e2 q
end Rp
namespace Rlo
open Ba Lo
section
variable {w w2 : World} {col : Nat → Nat} {L N C B : Nat} {FB : Nat → Prop} {q : Hd} {pa : Option Addr} {pc : Nat} {oa : Option Addr} {oc : Nat} {bs : List (Option Nat)} {Fs : Nat → Nat → Prop} {cs : List (Option St)} {ta : Option Addr} {tc : Nat} {s : Lm}
theorem RX.closed (h : RX w col L N C B FB q pa pc oa oc bs Fs cs ta tc s) {k j B1 : Nat} {F' : Nat → Prop} {st' : St} (hk : k < 8) (hj : nth s.nm k = (j : Int)) (jl : j < cs.length) (hb : bs[j]? = some (some B1)) (kf : KF (Fs j) w w2) (sub : ∀ x, F' x → Fs j x) (p : Rp.Rr w2 B1 F' st') :
 ∃ Fs' cs' col', RX w2 col' L N C B FB q pa pc oa oc bs Fs' cs' ta tc { s with sts := s.sts.set k (some st') } ∧ Tq col col' w w2 ∧ ∀ x, Fs j x → ¬ F' x → col' x = 7 := by
 have qs := h.qs.step Fk.frR hb kf (fun x hx => .inl (sub x hx)) p (h.qs.rl hb)
 have c : Lo.Ch (fun c => c = 4) col col w w2 := ⟨kf.os, kf.tape, kf.output, kf.size, fun x hx hc => kf.block x hx (fun e => hc (h.c4 j x e)), fun _ _ => rfl⟩
 have h2 : RX w2 col L N C B FB q pa pc oa oc bs (Fk.up Fs j F') (cs.set j (some st')) ta tc { s with sts := s.sts.set k (some st') } := by
  refine ⟨h.keepHp c (by simp), h.keepPs c (by simp), h.keepCu c (by simp) (by simp), h.nc, h.keepCr c (by simp), h.keepRw c (by simp), qs, h.ni, h.md, ?_, h.keepTr c (by simp), h.k0 c, h.k1 c, h.k2 c, h.k3 c, fun i x hx => ?_, h.k5 c, h.k6 c⟩
  ·show s.sts.set k (some st') = vw s.nm (cs.set j (some st'))
   rw [vw_set h.ni hk hj jl, ← h.vs]
  ·by_cases e : i = j
   ·subst e
    rw [Fk.up_same] at hx
    exact h.c4 i x (sub x hx)
   ·rw [Fk.up_other _ _ _ _ e] at hx
    exact h.c4 i x hx
 obtain ⟨col', h3, t3, n3⟩ := h2.recol
 refine ⟨_, _, col', h3, (tq_of c (fun _ (e : _ = _) => by omega)).trans t3, fun x hx hn => n3 x (h.c4 j x hx) ?_⟩
 rintro ⟨i, hi⟩
 by_cases e : i = j
 ·subst e
  rw [Fk.up_same] at hi
  exact hn hi
 ·rw [Fk.up_other _ _ _ _ e] at hi
  exact h.qs.ap i j e x hi hx
theorem wa_tq {w w' : World} {col col' : Nat → Nat} {oa : Option Addr} {l : List Wt} (h : WA w col oa l) (t : Tq col col' w w') : WA w' col' oa l := by
 refine ⟨fun k x hk => ?_, fun h0 a e => (t.old _ (h.1.lt h0 a e) (by rw [h.2 h0 a e]; omega)).trans (h.2 h0 a e)⟩
 have h0 : 0 < l.length := Nat.lt_of_le_of_lt (Nat.zero_le k) (List.getElem?_eq_some_iff.1 hk).1
 obtain ⟨b, off, e, q0, q1, q2⟩ := h.1 k x hk
 have hc := h.2 h0 _ e
 exact ⟨b, off, e, t.cell q0 (by rw [hc]; omega), t.cell q1 (by rw [hc]; omega), t.cell q2 (by rw [hc]; omega)⟩
theorem wakeAll_len (g c : Int) : ∀ (l : List Wt) (s : Lm), (wakeAll g c s l).cr.length = s.cr.length
 | [], _ => rfl
 | x :: l, s => by
   show (wakeAll g c (if parked s x.g then _ else s) l).cr.length = _
   rw [wakeAll_len g c l]
   split
   ·exact ch_len _ _ _ _ _
   ·rfl
theorem wakeAll_md (g c : Int) : ∀ (l : List Wt) (s : Lm), (wakeAll g c s l).md = s.md
 | [], _ => rfl
 | x :: l, s => by
   show (wakeAll g c (if parked s x.g then _ else s) l).md = _
   rw [wakeAll_md g c l]
   split <;> rfl
theorem RX.mate (h : RX w col L N C B FB q pa pc oa oc bs Fs cs ta tc s) {k : Nat} (hk : k < s.cr.length) : ∃ mb mc, w.cell? ⟨L, 6, none⟩ = some (.pointer (some ⟨B, 0, none⟩)) ∧ w.cell? ⟨B, 0, none⟩ = some (.slice (some ⟨mb, 0, none⟩) s.cr.length mc) ∧ w.cell? ⟨mb, k * 3 + 2, none⟩ = some (.int .i64 (Cr.one0 (Cr.gt s.cr (k : Int))).s) := by
 obtain ⟨ma, mc, hM⟩ := h.cr
 obtain ⟨x, hx⟩ : ∃ x, s.cr[k]? = some x := ⟨_, List.getElem?_eq_getElem hk⟩
 obtain ⟨mb, rfl, m0, m1, m2⟩ := hM.at.1 k _ hx
 have y6 := cell_of h.hp 6
 have x0 := cell_of hM.hp 0
 simp [rcs] at y6 x0
 refine ⟨mb, mc, y6, x0, ?_⟩
 have : Cr.one0 (Cr.gt s.cr (k : Int)) = x := by rw [Cr.gt_nat, hx]; rfl
 rw [this]
 exact m2
end
set_option maxRecDepth 100000 in
set_option maxHeartbeats 1600000 in
theorem shut_no (L N : Nat) (col : Nat → Nat) (s : Lm) (g : Int) (k : Nat) (w : World) (h : RW w col L N s) (ht : s.tr.length ≤ 1000000) (hk : k < 8) (hno : ∀ st, Fk.nmB s.sts (k : Int) = some st → st.closed = true) :
 Calls Tryz.prog 42 #[.pointer (some ⟨L, 0, none⟩), .int .i64 g, .int .i64 (k : Int)] w fun r w' => r = .returned (.tuple #[]) ∧ ∃ col', RW w' col' L N (panicS s g) ∧ Tq col col' w w' := by
 obtain ⟨C, B, FB, hd, pa, pc, oa, oc, bs, Fs, cs, ta, tc, h⟩ := h
 have PI := hide (pipes_q w w h (Below.refl _ _))
 have CH := hide (h.chan hk)
 have NV := hide (fun u oa d (hq : Fk.PR u oa (vw s.nm bs)) => Fk.rnamed_any oa (vw s.nm bs) (k : Int) d u hq)
 have H := hide h
 have PN := hide (fun u c (x : RW u c L N s) => panics_any L N c s g u x ht)
 clear h
 rcases CH.out with ⟨hb0, hs0⟩ | ⟨j, B1, st, hj, jl, hbj, hcj, hb0, hs0, rr⟩
 ·rw [hb0] at NV
  unfold Pe.pt at NV
  simp only [Option.map_none] at NV
  clear CH
  go_enter Tryz.func42, Tryz.ntmps42
  go_wp2_with fail
  refine PI.out.mono ?_
  rintro r w2 ⟨ob, d, rfl, q2, b2⟩
  have NV2 := hide (NV.out w2 ob d q2.row)
  obtain ⟨col2, h2, t2, -⟩ := H.out.below b2
  have H2 := hide h2
  have T2 := hide t2
  clear q2 b2 h2 t2 PI NV
  go_wp2_with fail
  refine NV2.out.mono ?_
  rintro r w3 ⟨rfl, rfl⟩
  have PN2 := hide (PN.out _ _ H2.out.lw)
  clear NV2 PN
  go_wp2_with fail
  refine PN2.out.mono ?_
  rintro r w4 ⟨rfl, col4, h4, t4⟩
  have H4 := hide h4
  have T4 := hide (T2.out.trans t4)
  clear h4 t4 PN2
  go_wp2_with fail
  exact bodyPost_ret (results_none rfl _ _ _) rfl ⟨rfl, col4, H4.out, T4.out⟩
 ·rw [hb0] at NV
  unfold Pe.pt at NV
  simp only [Option.map_some] at NV
  have hcl := hno st hs0
  obtain ⟨vL, vS, vQ, ro⟩ := rr
  have Y4 : Hid (w.cell? ⟨B1, 4, none⟩ = some (.bool true)) := (cell_of ro.hp 4).trans (by rw [hcl]; rfl)
  clear CH hno hj hbj hcj hb0 hs0 ro hcl
  go_enter Tryz.func42, Tryz.ntmps42
  go_wp2_with fail
  refine PI.out.mono ?_
  rintro r w2 ⟨ob, d, rfl, q2, b2⟩
  have NV2 := hide (NV.out w2 ob d q2.row)
  obtain ⟨col2, h2, t2, -⟩ := H.out.below b2
  have H2 := hide h2
  have T2 := hide t2
  have y4 : w2.cell? ⟨B1, 4, none⟩ = some (.bool true) := Sh.cellB Y4.out b2
  clear q2 b2 h2 t2 PI NV Y4
  go_wp2_with fail
  refine NV2.out.mono ?_
  rintro r w3 ⟨rfl, rfl⟩
  have PN2 := hide (PN.out _ _ H2.out.lw)
  clear NV2 PN
  go_wp2_with fail
  refine PN2.out.mono ?_
  rintro r w4 ⟨rfl, col4, h4, t4⟩
  have H4 := hide h4
  have T4 := hide (T2.out.trans t4)
  clear h4 t4 PN2
  go_wp2_with fail
  exact bodyPost_ret (results_none rfl _ _ _) rfl ⟨rfl, col4, H4.out, T4.out⟩
set_option maxRecDepth 100000 in
set_option maxHeartbeats 3200000 in
theorem shut_yes (L N : Nat) (col : Nat → Nat) (s : Lm) (K : Nat) (g : Int) (k : Nat) (st : St) (w : World) (h : RW w col L N s) (bw : Bw K s) (hK : K ≤ 90000) (hm : s.md ≤ 1000) (hk : k < 8) (hst : Fk.nmB s.sts (k : Int) = some st) (hc : st.closed = false) (hl1 : st.rcv.length ≤ 1000) (hl2 : st.snd.length ≤ 1000)
 (hwb : ∀ x, x ∈ st.snd ∨ x ∈ st.rcv → 0 ≤ x.g ∧ x.g < (s.cr.length : Int)) (s1 s2 R : Lm)
 (hs1 : s1 = goS { s with sts := s.sts.set k (some (_root_.Go.Proofs.YtblfimobiibmjabGreat.Pi.closeS st)) } ⟨5, g, nth s.nm k, -1, -1, -1, false, false⟩) (hs2 : s2 = wakeAll g (nth s.nm k) s1 st.rcv) (hR : R = if first s2 st.snd = -1 then s2 else panicS s2 (first s2 st.snd)) :
 Calls Tryz.prog 42 #[.pointer (some ⟨L, 0, none⟩), .int .i64 g, .int .i64 (k : Int)] w fun r w' => r = .returned (.tuple #[]) ∧ ∃ col', RW w' col' L N R ∧ Tq col col' w w' := by
 obtain ⟨C, B, FB, hd, pa, pc, oa0, oc, bs, Fs, cs, ta, tc, h⟩ := h
 have PI := hide (pipes_q w w h (Below.refl _ _))
 have NV := hide (fun u oa d (hq : Fk.PR u oa (vw s.nm bs)) => Fk.rnamed_any oa (vw s.nm bs) (k : Int) d u hq)
 have H := hide h
 rcases h.chan hk with ⟨hb0, hs0⟩ | ⟨j0, B1, st', hj, jl, hbj, hcj, hb0, hs0, rr⟩
 ·rw [hst] at hs0
  cases hs0
 have est : st' = st := by rw [hst] at hs0; cases hs0; rfl
 subst est
 rw [hb0] at NV
 unfold Pe.pt at NV
 simp only [Option.map_some] at NV
 have RR := hide rr
 obtain ⟨vL, vS, vQ, ro⟩ := rr
 have Y4 : Hid (w.cell? ⟨B1, 4, none⟩ = some (.bool false)) := (cell_of ro.hp 4).trans (by rw [hc]; rfl)
 have CS : Hid (_root_.Go.Proofs.YtblfimobiibmjabGreat.Pi.closeS st' = { st' with snd := [], rcv := [], closed := true }) := by show _ = _; simp [_root_.Go.Proofs.YtblfimobiibmjabGreat.Pi.closeS, hc]
 have HBJ := hide hbj
 have HJ := hide hj
 have BW := hide bw
 have HS1 := hide hs1
 have HS2 := hide hs2
 have HRR := hide hR
 have HWB := hide hwb
 have HCL := hide hc
 clear h ro hs1 hs2 hR bw hwb hj hbj hcj hb0 hs0 hst hc
 generalize st' = st at *
 have k0 : (0 : Int) ≤ (k : Int) := by omega
 have k8 : (k : Int) < 8 := by omega
 go_enter Tryz.func42, Tryz.ntmps42
 go_wp2_with fail
 refine PI.out.mono ?_
 rintro r w2 ⟨ob0, d0, rfl, q2, b2⟩
 have NV2 := hide (NV.out w2 ob0 d0 q2.row)
 obtain ⟨col2, h2, t2, -⟩ := H.out.below b2
 have H2 := hide h2
 have T2 := hide t2
 have y4 : w2.cell? ⟨B1, 4, none⟩ = some (.bool false) := Sh.cellB Y4.out b2
 have R2 := hide (RR.out.below b2)
 clear q2 b2 h2 t2 PI NV Y4 RR
 go_wp2_with fail
 refine NV2.out.mono ?_
 rintro r w3 ⟨rfl, rfl⟩
 have CL := hide (Rp.rclose_rows B1 (Fs j0) st w3 R2.out HCL.out)
 clear NV2 R2
 go_wp2_with fail
 refine CL.out.mono ?_
 rintro r w4 ⟨oa, ca, ob, cb, rfl, ⟨a1, a2⟩, kf, F', sub, p4, m1, m2⟩
 rw [← CS.out] at p4
 obtain ⟨Fs4, cs4, col4, h4, t4, n4⟩ := H2.out.closed hk HJ.out jl HBJ.out kf sub p4
 have T4 := hide (T2.out.trans t4)
 have H4 := hide h4
 have A14 : Hid (WA w4 col4 oa st.rcv) := ⟨a1, fun _ a e => n4 _ (m1 a e).1 (m1 a e).2⟩
 have A24 : Hid (WA w4 col4 ob st.snd) := ⟨a2, fun _ a e => n4 _ (m2 a e).1 (m2 a e).2⟩
 clear h4 t4 n4 a1 a2 kf sub p4 m1 m2 CL y4 H2 T2
 go_wp2_with fail
 refine (bare_r 5 g _).mono ?_
 rintro r w5 ⟨rfl, b5⟩
 unfold En.evv En.evc bareE
 obtain ⟨col6, h6, t6, n6⟩ := H4.out.below (btr b5 (below_alloc w5 (.cells #[.int .i64 5, .int .i64 g, .int .i64 (nth s.nm k), .int .i64 (-1), .int .i64 (-1), .int .i64 (-1), .bool false, .bool false] 29)))
 have V6 := hide (heap_new w5 (.cells #[.int .i64 5, .int .i64 g, .int .i64 (nth s.nm k), .int .i64 (-1), .int .i64 (-1), .int .i64 (-1), .bool false, .bool false] 29))
 have C6 := hide (n6 w5.heap.size b5.size)
 have T6 := hide (T4.out.trans t6)
 have A16 := hide (wa_tq A14.out t6)
 have A26 := hide (wa_tq A24.out t6)
 have nu : w5.cell? ⟨L, 8 + k, none⟩ = some (.int .i64 (nth s.nm k)) := Sh.cellB (H4.out.num hk) b5
 have hL5 : L < w5.heap.size := Nat.lt_of_lt_of_le H4.out.lt b5.size
 have NO := hide (note_any L N col6 _ (⟨5, g, nth s.nm k, -1, -1, -1, false, false⟩ : Ev) _ h6.lw (by have := BW.out.tn; show s.tr.length ≤ _; omega))
 unfold En.evv En.evc at NO
 clear h6 t6 n6 b5 T4 H4 A14 A24
 go_wp2_with fail
 refine NO.out.mono ?_
 rintro r w7 ⟨rfl, col7, h7, t7⟩
 obtain ⟨C7, B7, FB7, hd7, pa7, pc7, oa7, oc7, bs7, Fs7, cs7, ta7, tc7, h7⟩ := h7
 have T7 := hide (T6.out.trans t7)
 have V7 := hide (t7.heap V6.out C6.out)
 have C7' : Hid (col7 w5.heap.size = 7) := (t7.old _ (heap_lt V6.out) (by rw [C6.out]; omega)).trans C6.out
 have A17 := hide (wa_tq A16.out t7)
 have A27 := hide (wa_tq A26.out t7)
 have y6 := cell_of h7.hp 6
 simp [rcs] at y6
 have GO := hide (Cr.rturn00 B7 FB7 s.cr K g w7 h7.cr BW.out.cb (by omega))
 have H7 := hide h7
 clear NO h7 t7 nu hL5 V6 C6 T6 A16 A26
 go_wp2_with fail
 refine GO.out.mono ?_
 rintro r w8 ⟨rfl, p8⟩
 obtain ⟨FB8, col8, h8, t8⟩ := H7.out.crew p8
 have H8 : Hid (RW w8 col8 L N s1) := by rw [HS1.out]; exact h8.lw
 have T8 := hide (T7.out.trans t8)
 have V8 := hide (t8.heap V7.out C7'.out)
 have C8 : Hid (col8 w5.heap.size = 7) := (t8.old _ (heap_lt V7.out) (by rw [C7'.out]; omega)).trans C7'.out
 have A18 := hide (wa_tq A17.out t8)
 have A28 := hide (wa_tq A27.out t8)
 have B8 : Hid (Bw (K + 1) s1) := by
  show Bw _ _
  rw [HS1.out]
  exact Bw.go (s := { s with sts := s.sts.set k (some (_root_.Go.Proofs.YtblfimobiibmjabGreat.Pi.closeS st)) }) ⟨BW.out.cb, BW.out.tn⟩ _
 have L1 : Hid (s1.cr.length = s.cr.length) := by show _ = _; rw [HS1.out]; exact ch_len _ _ _ _ _
 have M1 : Hid (s1.md = s.md) := by show _ = _; rw [HS1.out]; rfl
 clear h8 t8 p8 GO H7 T7 V7 C7' A17 A27 y6 BW HS1
 generalize w5.heap.size = Eb at *
 generalize hnu : nth s.nm k = nu at *
 go_wp2_with fail
 go_loopw [56] (fun iv wr => ∃ (j : Nat) (cj : Nat → Nat), j ≤ st.rcv.length ∧ iv = .int .i64 j ∧ RW wr cj L N (wakeAll g nu s1 (st.rcv.take j)) ∧ Tq col cj w wr ∧ (wr.heap[Eb]? = some (.cells #[.int .i64 5, .int .i64 g, .int .i64 nu, .int .i64 (-1), .int .i64 (-1), .int .i64 (-1), .bool false, .bool false] 29 (0, 0)) ∧ cj Eb = 7) ∧ WA wr cj oa st.rcv ∧ WA wr cj ob st.snd) (fun iv _ => st.rcv.length - (intOf iv).toNat)
 case atStart => exact ⟨0, col8, Nat.zero_le _, rfl, H8.out, T8.out, ⟨V8.out, C8.out⟩, A18.out, A28.out⟩
 case round =>
  clear H8 T8 V8 C8 A18 A28
  obtain ⟨j, cj, hj, rfl, hlw, htr, ⟨hv, hcE⟩, ha1, ha2⟩ := hrel
  have HL := hide hlw
  have HT := hide htr
  have HV := hide hv
  have HC := hide hcE
  have HA1 := hide ha1
  have HA2 := hide ha2
  clear hlw htr hv hcE ha1 ha2
  by_cases hlt : j < st.rcv.length
  ·have hlt' : (j : Int) < (st.rcv.length : Int) := by omega
   obtain ⟨x, hx⟩ : ∃ x, st.rcv[j]? = some x := ⟨_, List.getElem?_eq_getElem hlt⟩
   obtain ⟨b, off, hoa, q0, q1, q2⟩ := HA1.out.1 j x hx
   subst hoa
   have ST := hide (wakeAll_take (g := g) (c := nu) (s := s1) hx)
   have BJ : Hid (Bw (K + 1 + j) (wakeAll g nu s1 (st.rcv.take j))) := by
    have := Bw.all (g := g) (c := nu) (l := st.rcv.take j) B8.out
    rw [List.length_take, Nat.min_eq_left hj] at this
    exact this
   have LJ : Hid ((wakeAll g nu s1 (st.rcv.take j)).cr.length = s.cr.length) := (wakeAll_len _ _ _ _).trans L1.out
   have MJ : Hid ((wakeAll g nu s1 (st.rcv.take j)).md = s.md) := (wakeAll_md _ _ _ _).trans M1.out
   generalize wakeAll g nu s1 (st.rcv.take j) = sj at *
   have hxg := HWB.out x (.inr (List.mem_of_getElem? hx))
   obtain ⟨kx, hkx⟩ : ∃ kx : Nat, x.g = (kx : Int) := ⟨x.g.toNat, by omega⟩
   obtain ⟨c5, h5, t5, n5⟩ := HL.out.below (below_alloc wr (.cells #[.int .i64 (kx : Int), .int .i64 x.c, .int .i64 x.v] 123))
   have hkl : kx < sj.cr.length := by rw [LJ.out]; omega
   obtain ⟨C5, B5, FB5, hd5, pa5, pc5, oa5, oc5, bs5, Fs5, cs5, ta5, tc5, h5⟩ := h5
   obtain ⟨mb, mc, z6, z0, zs⟩ := h5.mate hkl
   have PK : Hid (parked sj x.g = ((Cr.one0 (Cr.gt sj.cr (kx : Int))).s == 1)) := by show _ = _; unfold parked; rw [hkx]
   generalize (Cr.one0 (Cr.gt sj.cr (kx : Int))).s = ss at zs PK
   have H5 := hide h5
   have T5 := hide (HT.out.trans t5)
   have V5 := hide (t5.heap HV.out HC.out)
   have C5' : Hid (c5 Eb = 7) := (t5.old _ (heap_lt HV.out) (by rw [HC.out]; omega)).trans HC.out
   have A15 := hide (wa_tq HA1.out t5)
   have A25 := hide (wa_tq HA2.out t5)
   have hEr := heap_lt HV.out
   have vE : wr.cell? ⟨Eb, 2, none⟩ = some (.int .i64 nu) := cell_of HV.out 2
   have kx0 : (0 : Int) ≤ (kx : Int) := by omega
   have kx1 : (kx : Int) < (sj.cr.length : Int) := by omega
   rw [hkx] at q0 PK ST
   have HLT := hide hlt
   clear h5 t5 n5 HL HT HV HC HA1 HA2 hx hxg hlt hkx hkl
   cases hp : parked sj (kx : Int)
   ·rw [hp] at PK ST
    have hss : (ss == 1) = false := PK.out.symm
    clear PK
    go_wp2_with fail
    go_quiet (fail)
    obtain ⟨c6, h6, t6, -⟩ := H5.out.below (bdrew _ nq)
    have H6 := hide h6
    have T6 := hide t6
    clear h6 t6 z6 z0 zs
    go_wp2_with fail
    go_roundw
    case rel => exact ⟨j + 1, c6, by have := HLT.out; omega, by go_num, by rw [ST.out]; exact H6.out.lw, T5.out.trans T6.out, ⟨T6.out.heap V5.out C5'.out, (T6.out.old _ (heap_lt V5.out) (by rw [C5'.out]; omega)).trans C5'.out⟩, wa_tq A15.out T6.out, wa_tq A25.out T6.out⟩
    case measure => have := HLT.out; simp [intOf]; omega
   ·rw [hp] at PK ST
    have hss : (ss == 1) = true := PK.out.symm
    clear PK
    go_wp2_with fail
    go_quiet (fail)
    obtain ⟨c6, h6, t6, -⟩ := H5.out.below (bdrew _ nq)
    have T6 := hide t6
    have WK := hide (wake_any L N c6 sj (K + 1 + j) (⟨7, (kx : Int), nu, x.c, 0, g, false, false⟩ : Ev) _ h6.lw BJ.out.cb (by omega) (by have := BJ.out.tn; omega) (by rw [MJ.out]; exact hm))
    unfold En.evv En.evc at WK
    clear h6 t6 z6 z0 zs
    go_wp2_with fail
    refine WK.out.mono ?_
    rintro r w7 ⟨rfl, c7, h7, t7⟩
    have H7 := hide h7
    have T7 := hide (T6.out.trans t7)
    clear h7 t7 WK
    go_wp2_with fail
    go_roundw
    case rel => exact ⟨j + 1, c7, by have := HLT.out; omega, by go_num, by rw [ST.out]; exact H7.out, T5.out.trans T7.out, ⟨T7.out.heap V5.out C5'.out, (T7.out.old _ (heap_lt V5.out) (by rw [C5'.out]; omega)).trans C5'.out⟩, wa_tq A15.out T7.out, wa_tq A25.out T7.out⟩
    case measure => have := HLT.out; simp [intOf]; omega
  ·have hlt' : ¬ ((j : Int) < (st.rcv.length : Int)) := by omega
   have H2 : Hid (RW wr cj L N s2) := by
    have := HL.out
    rw [List.take_of_length_le (by omega), ← HS2.out] at this
    exact this
   have L2 : Hid (s2.cr.length = s.cr.length) := by show _ = _; rw [HS2.out]; exact (wakeAll_len _ _ _ _).trans L1.out
   have N2 : Hid (s2.tr.length ≤ 1000000) := by
    have := (Bw.all (g := g) (c := nu) (l := st.rcv) B8.out).tn
    show _ ≤ _
    rw [HS2.out]
    omega
   clear HL HA1 HV HC HS2 B8
   go_wp2_with fail
   go_loopw [86] (fun iv wr => ∃ (j : Nat) (cj : Nat → Nat), j ≤ st.snd.length ∧ iv = .int .i64 j ∧ RW wr cj L N s2 ∧ Tq col cj w wr ∧ WA wr cj ob st.snd ∧ ∀ i x, i < j → st.snd[i]? = some x → parked s2 x.g = false) (fun iv _ => st.snd.length - (intOf iv).toNat)
   case atStart => exact ⟨0, cj, Nat.zero_le _, rfl, H2.out, HT.out, HA2.out, fun i x hi => by omega⟩
   case round =>
    clear H2 HT HA2
    rename World => wr2
    obtain ⟨i, ci, hi, rfl, hlw, htr, ha2, hno⟩ := hrel
    have HL := hide hlw
    have HT := hide htr
    have HA2 := hide ha2
    have NO := hide hno
    clear hlw htr ha2 hno
    by_cases hlt2 : i < st.snd.length
    ·have hlt2' : (i : Int) < (st.snd.length : Int) := by omega
     obtain ⟨x, hx⟩ : ∃ x, st.snd[i]? = some x := ⟨_, List.getElem?_eq_getElem hlt2⟩
     obtain ⟨b, off, hoa, q0, q1, q2⟩ := HA2.out.1 i x hx
     subst hoa
     have hxg := HWB.out x (.inl (List.mem_of_getElem? hx))
     obtain ⟨kx, hkx⟩ : ∃ kx : Nat, x.g = (kx : Int) := ⟨x.g.toNat, by omega⟩
     obtain ⟨c5, h5, t5, n5⟩ := HL.out.below (below_alloc wr2 (.cells #[.int .i64 (kx : Int), .int .i64 x.c, .int .i64 x.v] 123))
     have hkl : kx < s2.cr.length := by rw [L2.out]; omega
     obtain ⟨C5, B5, FB5, hd5, pa5, pc5, oa5, oc5, bs5, Fs5, cs5, ta5, tc5, h5⟩ := h5
     obtain ⟨mb, mc, z6, z0, zs⟩ := h5.mate hkl
     have PK : Hid (parked s2 (kx : Int) = ((Cr.one0 (Cr.gt s2.cr (kx : Int))).s == 1)) := rfl
     generalize (Cr.one0 (Cr.gt s2.cr (kx : Int))).s = ss at zs PK
     have H5 := hide h5
     have T5 := hide (HT.out.trans t5)
     have A25 := hide (wa_tq HA2.out t5)
     have kx0 : (0 : Int) ≤ (kx : Int) := by omega
     have kx1 : (kx : Int) < (s2.cr.length : Int) := by omega
     rw [hkx] at q0
     have HX := hide hx
     have HKX := hide hkx
     have HLT := hide hlt2
     clear h5 t5 n5 HL HT HA2 hx hkx hxg hkl hlt2
     cases hp : parked s2 (kx : Int)
     ·rw [hp] at PK
      have hss : (ss == 1) = false := PK.out.symm
      have NO2 : Hid (∀ i' x, i' < i + 1 → st.snd[i']? = some x → parked s2 x.g = false) := fun i' y hi' hy => by
       rcases Nat.lt_or_ge i' i with q | q
       ·exact NO.out i' y q hy
       ·obtain rfl : i' = i := by omega
        rw [HX.out] at hy
        cases hy
        rw [HKX.out]
        exact hp
      clear PK
      go_wp2_with fail
      go_quiet (fail)
      obtain ⟨c6, h6, t6, -⟩ := H5.out.below (bdrew _ nq)
      have H6 := hide h6
      have T6 := hide t6
      clear h6 t6 z6 z0 zs
      go_wp2_with fail
      go_roundw
      case rel => exact ⟨i + 1, c6, by have := HLT.out; omega, by go_num, H6.out.lw, T5.out.trans T6.out, wa_tq A25.out T6.out, NO2.out⟩
      case measure => have := HLT.out; simp [intOf]; omega
     ·rw [hp] at PK
      have hss : (ss == 1) = true := PK.out.symm
      have FR : Hid (first s2 st.snd = (kx : Int)) := by
       show _ = _
       have hlt2 := HLT.out
       rw [first_take NO.out, List.drop_eq_getElem_cons hlt2]
       have : st.snd[i] = x := by have h1 := HX.out; rw [List.getElem?_eq_getElem hlt2] at h1; cases h1; rfl
       rw [this]
       show (if parked s2 x.g then x.g else _) = _
       rw [HKX.out, hp]
       rfl
      have RE : Hid (R = panicS s2 (kx : Int)) := by
       show _ = _
       rw [HRR.out, FR.out, if_neg (by omega)]
      clear PK
      go_wp2_with fail
      go_quiet (fail)
      obtain ⟨c6, h6, t6, -⟩ := H5.out.below (bdrew _ nq)
      have T6 := hide t6
      have PN := hide (panics_any L N c6 s2 (kx : Int) _ h6.lw N2.out)
      clear h6 t6 z6 z0 zs
      go_wp2_with fail
      refine PN.out.mono ?_
      rintro r w7 ⟨rfl, c7, h7, t7⟩
      have H7 := hide h7
      have T7 := hide (T6.out.trans t7)
      clear h7 t7 PN
      go_wp2_with fail
      exact bodyPost_ret (results_none rfl _ _ _) rfl ⟨rfl, c7, by rw [RE.out]; exact H7.out, T5.out.trans T7.out⟩
    ·have hlt2' : ¬ ((i : Int) < (st.snd.length : Int)) := by omega
     have RE : Hid (R = s2) := by
      show _ = _
      rw [HRR.out, first_take NO.out, List.drop_eq_nil_of_le (by omega)]
      rfl
     go_wp2_with fail
     go_end0
     exact ⟨rfl, ci, by rw [RE.out]; exact HL.out, HT.out⟩
def shutR (s : Lm) (g k : Int) : Lm := if (closesF s g k).who = -1 then (closesF s g k).s else panicS (closesF s g k).s (closesF s g k).who
theorem shut_any (L N : Nat) (col : Nat → Nat) (s : Lm) (K : Nat) (g : Int) (k : Nat) (w : World) (h : RW w col L N s) (ok : Ok K s) (hK : K ≤ 90000) (hk : k < 8) (hg : 0 ≤ g) (hwb : WB s) :
 Calls Tryz.prog 42 #[.pointer (some ⟨L, 0, none⟩), .int .i64 g, .int .i64 (k : Int)] w fun r w' => r = .returned (.tuple #[]) ∧ ∃ col', RW w' col' L N (shutR s g k) ∧ Tq col col' w w' := by
 have no : ∀ (hno : ∀ st, Fk.nmB s.sts (k : Int) = some st → st.closed = true) (_ : closesF s g k = ⟨s, g⟩), Calls Tryz.prog 42 #[.pointer (some ⟨L, 0, none⟩), .int .i64 g, .int .i64 (k : Int)] w fun r w' => r = .returned (.tuple #[]) ∧ ∃ col', RW w' col' L N (shutR s g k) ∧ Tq col col' w w' := by
  intro hno he
  have e : shutR s g k = panicS s g := by
   unfold shutR
   rw [he]
   exact if_neg (by show ¬ g = -1; omega)
  rw [e]
  exact shut_no L N col s g k w h (by have := ok.tn; omega) hk hno
 cases hst : Fk.nmB s.sts (k : Int) with
 | none => exact no (fun st e => by rw [hst] at e; cases e) (by unfold closesF; rw [hst])
 | some st =>
   cases hc : st.closed
   ·have he : closesF s g k = ⟨wakeAll g (nth s.nm k) (goS { s with sts := s.sts.set k (some (_root_.Go.Proofs.YtblfimobiibmjabGreat.Pi.closeS st)) } ⟨5, g, nth s.nm k, -1, -1, -1, false, false⟩) st.rcv, first (wakeAll g (nth s.nm k) (goS { s with sts := s.sts.set k (some (_root_.Go.Proofs.YtblfimobiibmjabGreat.Pi.closeS st)) } ⟨5, g, nth s.nm k, -1, -1, -1, false, false⟩) st.rcv) st.snd⟩ := by
     unfold closesF
     rw [hst]
     simp [hc, num]
    have hw := ok.wl _ st (Fk.nmB_at hst)
    exact shut_yes L N col s K g k st w h ⟨ok.cb, ok.tn⟩ hK ok.md.2 hk hst hc (hw false) (hw true) (fun x hx => Kb.of hwb hst x hx) _ _ _ rfl rfl (by unfold shutR; rw [he])
   ·exact no (fun st' e => by rw [hst] at e; cases e; exact hc) (by unfold closesF; rw [hst]; simp [hc])
end Rlo
end Go.Proofs.YtblfimobiibmjabGreat
