import Derived.Test.YtblfimobiibmjaaGreatZjAh13
namespace Go.Proofs.YtblfimobiibmjaaGreat
open Go.ChangeShapes Go.WideShapes Go.ChangeAt Go.RowKit
namespace Rlo
open Ba Lo
section
variable {w w3 : World} {col col3 : Nat → Nat} {L N C B : Nat} {FB : Nat → Prop} {q : Hd} {pa : Option Addr} {pc : Nat} {oa : Option Addr} {oc : Nat} {bs : List (Option Nat)} {Fs : Nat → Nat → Prop} {cs : List (Option St)} {ta : Option Addr} {tc : Nat} {s : Lm}
theorem Tq.temp {col' : Nat → Nat} {w' : World} (h : Tq col col' w w') {z : Nat} (hz : w.heap.size ≤ z) (i : Nat) (v : Value) : Tq col col' w (w'.setCell ⟨z, i, none⟩ v) := by
 have kb := (KB.refl z w').setCell i v
 exact ⟨kb.os.trans h.os, kb.tape.trans h.tape, kb.output.trans h.output, Nat.le_trans h.size kb.size, fun x hx hc => (kb.block x (Nat.lt_of_lt_of_le hx h.size) (by omega)).trans (h.block x hx hc), h.old⟩
theorem RX.kb {z : Nat} {w4 : World} (h : RX w3 col3 L N C B FB q pa pc oa oc bs Fs cs ta tc s) (kb : KB z w3 w4) (hz : col3 z = 7) : RX w4 col3 L N C B FB q pa pc oa oc bs Fs cs ta tc s :=
 h.keep ⟨kb.os, kb.tape, kb.output, kb.size, fun x hx hc => kb.block x hx (fun e => hc (by rw [e]; exact hz)), fun _ _ => rfl⟩
theorem Tq.kb {z : Nat} {w4 : World} (h : Tq col col3 w w3) (kb : KB z w3 w4) (hz : w.heap.size ≤ z) : Tq col col3 w w4 :=
 ⟨kb.os.trans h.os, kb.tape.trans h.tape, kb.output.trans h.output, Nat.le_trans h.size kb.size, fun x hx hc => (kb.block x (Nat.lt_of_lt_of_le hx h.size) (by omega)).trans (h.block x hx hc), h.old⟩
end
end Rlo
end Go.Proofs.YtblfimobiibmjaaGreat
namespace Go.Proofs.YtblfimobiibmjaaGreat
open Go.ChangeShapes Go.WideShapes Go.ChangeAt Go.RowKit
namespace Pi
open Ba Pe
end Pi
end Go.Proofs.YtblfimobiibmjaaGreat
namespace Go.Proofs.YtblfimobiibmjaaGreat
open Go.ChangeShapes Go.WideShapes Go.ChangeAt Go.RowKit
namespace Lo
open Ba
section
variable {w : World} {col : Nat → Nat} {L N C B X : Nat} {FB : Nat → Prop} {pa : Option Addr} {pc : Nat} {bs : List (Option Nat)} {Fs : Nat → Nat → Prop} {ta : Option Addr} {tc : Nat} {s : Lm}
end
end Lo
end Go.Proofs.YtblfimobiibmjaaGreat
namespace Go.Proofs.YtblfimobiibmjaaGreat
open Go.ChangeShapes Go.WideShapes Go.ChangeAt Go.RowKit
namespace Fk
open Ba Pe _root_.Go.Proofs.YtblfimobiibmjaaGreat.Pi Rp
end Fk
end Go.Proofs.YtblfimobiibmjaaGreat
namespace Go.Proofs.YtblfimobiibmjaaGreat
open Go.ChangeShapes Go.WideShapes Go.ChangeAt Go.RowKit
namespace Lo
open Ba
end Lo
end Go.Proofs.YtblfimobiibmjaaGreat
namespace Go.Proofs.YtblfimobiibmjaaGreat
namespace Lo
open Ba
theorem op_ok {o : OpD} {n : Int} (h : De.chk o n = 0) : (1 ≤ n ∧ n ≤ 8) ∧ (1 ≤ o.kind ∧ o.kind ≤ 9) ∧ o.cases.length ≤ 4 ∧ (0 ≤ o.a ∧ o.a ≤ De.mA o.kind n) ∧ (0 ≤ o.b ∧ o.b ≤ De.mB o.kind) ∧ (o.kind ≠ 6 → o.def_ = false ∧ o.cases.length = 0) ∧ ∀ c ∈ o.cases, (0 ≤ c.ch ∧ c.ch ≤ 7) ∧ 0 ≤ c.val ∧ c.val ≤ 99 := by
 unfold De.chk at h
 split at h
 ·omega
 ·rename_i h1
  split at h
  ·omega
  ·rename_i h2
   split at h
   ·omega
   ·rename_i h3
    split at h
    ·omega
    ·rename_i h4
     split at h
     ·rename_i h5
      simp only [De.okP, De.upB, Bool.not_eq_false, Bool.and_eq_true, decide_eq_true_eq] at h1 h3
      refine ⟨h1.1, h1.2, by omega, h3.1, h3.2, fun hk => ?_, fun c hc => ?_⟩
      ·have h6 : (o.def_ || decide (0 < o.cases.length)) ≠ true := fun e => h4 ⟨hk, e⟩
       simp at h6
       exact ⟨h6.1, by simp [h6.2]⟩
      ·have := List.all_eq_true.1 h5 c hc
       simp only [De.okC, De.upB, Bool.and_eq_true, decide_eq_true_eq] at this
       refine ⟨this.1, this.2.1, ?_⟩
       have h7 := this.2.2
       cases hs : c.send <;> rw [hs] at h7 <;> simp only [cond_true, cond_false] at h7 <;> omega
     ·omega
def SB (n m : Nat) (sts : List (Option St)) : Prop := ∀ (i : Nat) (st : St), sts[i]? = some (some st) → (st.sent ≤ n ∧ st.got ≤ n) ∧ st.snd.length ≤ m ∧ st.rcv.length ≤ m
theorem SB.mono {n m n' m' : Nat} {sts : List (Option St)} (h : SB n m sts) (h1 : n ≤ n') (h2 : m ≤ m') : SB n' m' sts := fun i st e => by
 have := h i st e
 omega
theorem SB.set {n m k : Nat} {sts : List (Option St)} {v : St} (h : SB n m sts) (hv : (v.sent ≤ n ∧ v.got ≤ n) ∧ v.snd.length ≤ m ∧ v.rcv.length ≤ m) : SB n m (sts.set k (some v)) := by
 intro i st e
 rw [List.getElem?_set] at e
 split at e
 ·split at e
  ·simp at e
   subst e
   exact hv
  ·cases e
 ·exact h i st e
theorem SB.nm {n m : Nat} {sts : List (Option St)} (h : SB n m sts) {c : Int} {st : St} (e : Fk.nmB sts c = some st) : (st.sent ≤ n ∧ st.got ≤ n) ∧ st.snd.length ≤ m ∧ st.rcv.length ≤ m := h _ st (Fk.nmB_at e)
theorem dr_le (g : Int) (l : List Wt) : (Pe.dr g l).length ≤ l.length := by
 unfold Pe.dr
 exact List.length_filter_le _ _
theorem al_le (l : List Wt) (x : Wt) : (Pe.al l x).length ≤ l.length + 1 := by
 unfold Pe.al
 split
 ·split
  ·omega
  ·simp
 ·omega
theorem SB.send {n m : Nat} {st : St} (x : Int) (h : (st.sent ≤ n ∧ st.got ≤ n) ∧ st.snd.length ≤ m ∧ st.rcv.length ≤ m) : let v := _root_.Go.Proofs.YtblfimobiibmjaaGreat.Pi.sendS st x; (v.sent ≤ n + 1 ∧ v.got ≤ n + 1) ∧ v.snd.length ≤ m ∧ v.rcv.length ≤ m := by
 intro v
 simp only [v, _root_.Go.Proofs.YtblfimobiibmjaaGreat.Pi.sendS]
 split
 ·omega
 ·split
  ·rename_i e
   rw [e] at h
   simp at h ⊢
   omega
  ·rename_i e
   split
   ·rw [e] at h
    refine ⟨?_, ?_⟩
    ·simp only
     omega
    ·simp only
     rw [e]
     exact h.2
   ·omega
theorem SB.recv {n m : Nat} {st : St} (h : (st.sent ≤ n ∧ st.got ≤ n) ∧ st.snd.length ≤ m ∧ st.rcv.length ≤ m) : let v := _root_.Go.Proofs.YtblfimobiibmjaaGreat.Pi.recvS st; (v.sent ≤ n + 1 ∧ v.got ≤ n + 1) ∧ v.snd.length ≤ m ∧ v.rcv.length ≤ m := by
 intro v
 simp only [v, _root_.Go.Proofs.YtblfimobiibmjaaGreat.Pi.recvS]
 split
 ·omega
 ·rename_i e1 e2
  rw [e2] at h
  simp at h ⊢
  omega
 ·simp
  omega
 ·rename_i e1 e2
  rw [e2] at h
  simp at h ⊢
  omega
theorem SB.try {n m : Nat} {sts : List (Option St)} (h : SB n m sts) (c : Ca) : SB (n + 1) m (Fk.tryS sts c) := by
 unfold Fk.tryS
 split
 ·exact h.mono (by omega) (Nat.le_refl _)
 ·rename_i st e
  refine (h.mono (Nat.le_succ n) (Nat.le_refl _)).set ?_
  cases c.sd
  ·exact SB.recv (h.nm e)
  ·exact SB.send _ (h.nm e)
theorem SB.waitS {n m : Nat} {st : St} (send : Bool) (x : Wt) (h : (st.sent ≤ n ∧ st.got ≤ n) ∧ st.snd.length ≤ m ∧ st.rcv.length ≤ m) : let v := _root_.Go.Proofs.YtblfimobiibmjaaGreat.Pi.waitS st send x; (v.sent ≤ n ∧ v.got ≤ n) ∧ v.snd.length ≤ m + 1 ∧ v.rcv.length ≤ m + 1 := by
 intro v
 simp only [v, _root_.Go.Proofs.YtblfimobiibmjaaGreat.Pi.waitS]
 split
 ·omega
 ·split
  ·have := al_le st.snd x
   simp only
   omega
  ·have := al_le st.rcv x
   simp only
   omega
theorem SB.wait1 {n m : Nat} {sts : List (Option St)} (h : SB n m sts) (c : Ca) (g : Int) : SB n (m + 1) (Lo.waitN sts c g) := by
 unfold Lo.waitN
 split
 ·exact h.mono (Nat.le_refl _) (by omega)
 ·rename_i st e
  exact (h.mono (Nat.le_refl _) (Nat.le_succ m)).set (SB.waitS _ _ (h.nm e))
theorem SB.leave {n m : Nat} {sts : List (Option St)} (h : SB n m sts) (g : Int) : SB n m (Fk.leaveS g sts) := by
 intro i st e
 unfold Fk.leaveS at e
 rw [List.getElem?_map] at e
 cases h1 : sts[i]? with
 | none => rw [h1] at e; cases e
 | some o =>
   rw [h1] at e
   cases o with
   | none => simp [Fk.dropO] at e
   | some st1 =>
     simp [Fk.dropO] at e
     subst e
     have := h i st1 h1
     have := dr_le g st1.snd
     have := dr_le g st1.rcv
     simp only [_root_.Go.Proofs.YtblfimobiibmjaaGreat.Pi.dropS]
     omega
theorem SB.pkS {n m : Nat} {sts : List (Option St)} (h : SB n m sts) (g : Int) (l : List Ca) : ∀ k, SB n (m + k) (Fk.pkS g l sts k)
 | 0 => h
 | k + 1 => by
   have ih := SB.pkS h g l k
   unfold Fk.pkS
   split
   ·exact ih.mono (Nat.le_refl _) (by omega)
   ·unfold Fk.pk1
    split
    ·exact ih.mono (Nat.le_refl _) (by omega)
    ·rename_i st e
     exact (ih.mono (Nat.le_refl _) (Nat.le_succ _)).set (SB.waitS _ _ (ih.nm e))
theorem SB.pkA {n m : Nat} {sts : List (Option St)} (h : SB n m sts) (g : Int) (l : List Ca) (hl : l.length ≤ 4) : SB n (m + 4) (Fk.pkA g l sts) := by
 unfold Fk.pkA
 split
 ·exact h.mono (Nat.le_refl _) (by omega)
 ·split
  ·exact h.mono (Nat.le_refl _) (by omega)
  ·exact (SB.pkS h g l _).mono (Nat.le_refl _) (by omega)
end Lo
end Go.Proofs.YtblfimobiibmjaaGreat
namespace Go.Proofs.YtblfimobiibmjaaGreat
open Go.ChangeShapes Go.WideShapes Go.ChangeAt Go.RowKit
namespace Lo
open Ba
section
variable {w w' : World} {col : Nat → Nat} {L N C B X : Nat} {FB : Nat → Prop} {pa : Option Addr} {pc : Nat} {bs : List (Option Nat)} {Fs : Nat → Nat → Prop} {ta : Option Addr} {tc : Nat} {s : Lm}
end
structure Bw (K : Nat) (s : Lm) : Prop where
 cb : Cr.Bn K s.cr
 tn : s.tr.length ≤ K
theorem Bw.mono {K M : Nat} {s : Lm} (h : Bw K s) (hK : K ≤ M) : Bw M s := ⟨h.cb.mono hK, Nat.le_trans h.tn hK⟩
end Lo
end Go.Proofs.YtblfimobiibmjaaGreat
namespace Go.Proofs.YtblfimobiibmjaaGreat
namespace Lo
open Ba
def SP (s s' : Lm) : Prop := ∃ e l, s'.tr = s.tr ++ e :: l
end Lo
end Go.Proofs.YtblfimobiibmjaaGreat
namespace Go.Proofs.YtblfimobiibmjaaGreat
namespace Lo
open Ba
structure B1 (m K n M C D : Nat) (s : Lm) : Prop where
 bw : Bw K s
 cp : ∀ x ∈ s.cr, 0 ≤ x.p ∧ x.p < m
 cl : s.cr.length ≤ C
 sb : SB n M s.sts
 sl : s.sts.length = 8
 nl : s.nm.length = 8
 md : 0 ≤ s.md ∧ s.md ≤ D
section
variable {m K n M C D : Nat} {s : Lm}
theorem B1.mono {K' n' M' C' D' : Nat} (h : B1 m K n M C D s) (h1 : K ≤ K') (h2 : n ≤ n') (h3 : M ≤ M') (h4 : C ≤ C') (h5 : D ≤ D') : B1 m K' n' M' C' D' s :=
 ⟨h.bw.mono h1, h.cp, Nat.le_trans h.cl h4, h.sb.mono h2 h3, h.sl, h.nl, by have := h.md; omega⟩
theorem ch_cp {l : List Mb} (h : ∀ x ∈ l, 0 ≤ x.p ∧ x.p < (m : Int)) (g a b d : Int) : ∀ x ∈ Cr.chL l g a b d, 0 ≤ x.p ∧ x.p < (m : Int) := by
 unfold Cr.chL
 split
 ·exact h
 ·rename_i y hy
  split
  ·intro x hx
   obtain ⟨k, rfl, hk, hk2⟩ := Cr.gt_some hy
   rcases List.mem_or_eq_of_mem_set hx with q | q
   ·exact h x q
   ·rw [q]
    exact h y (List.mem_of_getElem? hk2)
  ·exact h
theorem ch_len (l : List Mb) (g a b d : Int) : (Cr.chL l g a b d).length = l.length := by
 unfold Cr.chL
 split
 ·rfl
 ·split <;> simp
theorem B1.tell (h : B1 m K n M C D s) (e : Ev) : B1 m (K + 1) n M C D (tellS s e) :=
 ⟨⟨h.bw.cb.mono (by omega), by show (s.tr ++ [e]).length ≤ _; have := h.bw.tn; simp; omega⟩, h.cp, h.cl, h.sb, h.sl, h.nl, h.md⟩
theorem B1.ch (h : B1 m K n M C D s) (e : Ev) (a b d : Int) (hb : 0 ≤ b ∧ b ≤ 2) (hd : 0 ≤ d ∧ d ≤ 1) : B1 m (K + 1) n M C D (tellS { s with cr := Cr.chL s.cr e.g a b d } e) :=
 ⟨⟨Cr.Bn.ch h.bw.cb e.g a b d hb hd, by show (s.tr ++ [e]).length ≤ _; have := h.bw.tn; simp; omega⟩, ch_cp h.cp _ _ _ _, by show (Cr.chL s.cr e.g a b d).length ≤ _; rw [ch_len]; exact h.cl, h.sb, h.sl, h.nl, h.md⟩
theorem B1.sts {n' M' : Nat} {sts : List (Option St)} (h : B1 m K n M C D s) (hs : SB n' M' sts) (hl : sts.length = s.sts.length) : B1 m K n' M' C D { s with sts := sts } :=
 ⟨⟨h.bw.cb, h.bw.tn⟩, h.cp, h.cl, hs, hl.trans h.sl, h.nl, h.md⟩
theorem B1.go (h : B1 m K n M C D s) (e : Ev) : B1 m (K + 1) n M C D (goS s e) := h.ch e 0 0 1 (by omega) (by omega)
theorem B1.waits (h : B1 m K n M C D s) (e : Ev) : B1 m (K + 1) n M C D (waitsS s e) := h.ch e 0 1 0 (by omega) (by omega)
theorem B1.wakes (h : B1 m K n M C D s) (e : Ev) : B1 m (K + 1) n M C D (wakesS s e) :=
 (h.sts (h.sb.leave e.g) (by unfold Fk.leaveS; simp)).ch e 1 0 1 (by omega) (by omega)
theorem try_len (sts : List (Option St)) (c : Ca) : (Fk.tryS sts c).length = sts.length := by
 unfold Fk.tryS
 split <;> simp
theorem B1.try (h : B1 m K n M C D s) (g at_ : Int) (c : Ca) : B1 m (K + 2) (n + 1) M C D (tryF s g at_ c).s := by
 have h1 := h.sts (h.sb.try c) (try_len _ _)
 unfold tryF
 split
 ·exact h1.mono (by omega) (by omega) (by omega) (by omega) (by omega)
 ·split
  ·exact (h1.go _).wakes _
  ·exact (h1.go _).mono (by omega) (by omega) (by omega) (by omega) (by omega)
theorem wait_len (sts : List (Option St)) (c : Ca) (g : Int) : (waitN sts c g).length = sts.length := by
 unfold waitN
 split <;> simp
theorem B1.alone (h : B1 m K n M C D s) (g : Int) (c : Ca) : B1 m (K + 3) (n + 1) (M + 1) C D (aloneF s g c).s := by
 have h1 := h.try g (-1) c
 unfold aloneF
 split
 ·exact h1.mono (by omega) (by omega) (by omega) (by omega) (by omega)
 ·exact (h1.sts (h1.sb.wait1 c g) (wait_len _ _ _)).waits _
theorem pkS_len (g : Int) (l : List Ca) (sts : List (Option St)) : ∀ k, (Fk.pkS g l sts k).length = sts.length
 | 0 => rfl
 | k + 1 => by
   unfold Fk.pkS
   split
   ·exact pkS_len g l sts k
   ·unfold Fk.pk1
    split
    ·exact pkS_len g l sts k
    ·rw [List.length_set]
     exact pkS_len g l sts k
theorem pkA_len (g : Int) (l : List Ca) (sts : List (Option St)) : (Fk.pkA g l sts).length = sts.length := by
 unfold Fk.pkA
 split
 ·rfl
 ·split
  ·rfl
  ·exact pkS_len _ _ _ _
theorem B1.choose (h : B1 m K n M C D s) (g : Int) (o : OpD) (h4 : o.cases.length ≤ 4) : B1 m (K + 3) (n + 1) (M + 4) C D (chooseF s g o).s := by
 unfold chooseF
 split
 ·have h1 : B1 m K n M C D { s with d := Pk.dr s.d (Fk.rdyL (cas o) s.sts).length } := ⟨⟨h.bw.cb, h.bw.tn⟩, h.cp, h.cl, h.sb, h.sl, h.nl, h.md⟩
  exact (h1.try _ _ _).mono (by omega) (by omega) (by omega) (by omega) (by omega)
 ·split
  ·exact (h.go _).mono (by omega) (by omega) (by omega) (by omega) (by omega)
  ·exact ((h.sts (h.sb.pkA g (cas o) (by unfold cas; rw [List.length_map]; exact h4)) (pkA_len _ _ _)).waits _).mono (by omega) (by omega) (by omega) (by omega) (by omega)
theorem B1.all (g c : Int) : ∀ (l : List Wt) {K : Nat} {s : Lm}, B1 m K n M C D s → B1 m (K + l.length) n M C D (wakeAll g c s l)
 | [], K, s, h => h
 | x :: l, K, s, h => by
   show B1 m _ n M C D (wakeAll g c (if parked s x.g then _ else s) l)
   rw [List.length_cons, Nat.add_comm l.length 1, ← Nat.add_assoc]
   apply B1.all g c l
   split
   ·exact h.wakes _
   ·exact h.mono (by omega) (by omega) (by omega) (by omega) (by omega)
theorem B1.closes (h : B1 m K n M C D s) (g k : Int) : B1 m (K + 1 + M) n M C D (closesF s g k).s := by
 unfold closesF
 split
 ·exact h.mono (by omega) (by omega) (by omega) (by omega) (by omega)
 ·rename_i st e
  split
  ·exact h.mono (by omega) (by omega) (by omega) (by omega) (by omega)
  ·rename_i hc
   have hs := h.sb.nm e
   have h1 : B1 m K n M C D { s with sts := s.sts.set k.toNat (some (_root_.Go.Proofs.YtblfimobiibmjaaGreat.Pi.closeS st)) } := h.sts (h.sb.set (by unfold _root_.Go.Proofs.YtblfimobiibmjaaGreat.Pi.closeS; rw [if_neg hc]; simp; omega)) (by simp)
   exact (B1.all _ _ _ (h1.go _)).mono (by omega) (by omega) (by omega) (by omega) (by omega)
theorem B1.panic (h : B1 m K n M C D s) (g : Int) : B1 m (K + 1) n M C D (panicS s g) := by
 have h1 : B1 m K n M C D { s with pk := true } := ⟨⟨h.bw.cb, h.bw.tn⟩, h.cp, h.cl, h.sb, h.sl, h.nl, h.md⟩
 exact h1.tell _
theorem B1.do_ (h : B1 m K n M C D s) (g : Int) (o : OpD) (ho : De.chk o (m : Int) = 0) : B1 m (K + 4 + M) (n + 1) (M + 4) (C + 1) (D + 1) (doF s g o) := by
 obtain ⟨-, hk, h4, ha, hb, -, hcs⟩ := op_ok ho
 unfold doF
 split
 ·rename_i h1
  rw [h1] at ha
  simp [De.mA] at ha
  have hsp : B1 m K n M (C + 1) D { s with cr := Cr.spL s.cr o.a } := by
   refine ⟨⟨Cr.Bn.sp h.bw.cb _, h.bw.tn⟩, ?_, ?_, h.sb, h.sl, h.nl, h.md⟩
   ·show ∀ x ∈ Cr.spL s.cr o.a, _
    unfold Cr.spL
    rw [if_neg (by omega)]
    split
    ·exact h.cp
    ·intro x hx
     rw [List.mem_append] at hx
     rcases hx with q | q
     ·exact h.cp x q
     ·simp at q
      rw [q]
      simp
      omega
   ·show (Cr.spL s.cr o.a).length ≤ _
    have := h.cl
    unfold Cr.spL
    split
    ·omega
    ·split
     ·omega
     ·simp; omega
  exact (hsp.go _).mono (by omega) (by omega) (by omega) (by omega) (by omega)
 ·split
  ·have hop : B1 m K n M C (D + 1) (opensS s o.a o.b) := by
    refine ⟨⟨h.bw.cb, h.bw.tn⟩, h.cp, h.cl, h.sb.set (by simp [_root_.Go.Proofs.YtblfimobiibmjaaGreat.Pi.st0]), ?_, ?_, ?_⟩
    ·show (s.sts.set _ _).length = 8
     rw [List.length_set]
     exact h.sl
    ·show (s.nm.set _ _).length = 8
     rw [List.length_set]
     exact h.nl
    ·show 0 ≤ s.md + 1 ∧ s.md + 1 ≤ ((D + 1 : Nat) : Int)
     have := h.md
     omega
   exact (hop.go _).mono (by omega) (by omega) (by omega) (by omega) (by omega)
  ·split
   ·exact (h.go _).mono (by omega) (by omega) (by omega) (by omega) (by omega)
   ·split
    ·exact (h.go _).mono (by omega) (by omega) (by omega) (by omega) (by omega)
    ·split
     ·exact (h.ch (bareE 11 g) 0 2 0 (by omega) (by omega)).mono (by omega) (by omega) (by omega) (by omega) (by omega)
     ·split
      ·split
       ·exact (h.alone _ _).mono (by omega) (by omega) (by omega) (by omega) (by omega)
       ·exact ((h.alone _ _).panic _).mono (by omega) (by omega) (by omega) (by omega) (by omega)
      ·split
       ·exact (h.alone _ _).mono (by omega) (by omega) (by omega) (by omega) (by omega)
       ·split
        ·split
         ·exact (h.closes _ _).mono (by omega) (by omega) (by omega) (by omega) (by omega)
         ·exact ((h.closes _ _).panic _).mono (by omega) (by omega) (by omega) (by omega) (by omega)
        ·split
         ·split
          ·exact (h.choose _ _ h4).mono (by omega) (by omega) (by omega) (by omega) (by omega)
          ·exact ((h.choose _ _ h4).panic _).mono (by omega) (by omega) (by omega) (by omega) (by omega)
         ·exact h.mono (by omega) (by omega) (by omega) (by omega) (by omega)
end
end Lo
end Go.Proofs.YtblfimobiibmjaaGreat
namespace Go.Proofs.YtblfimobiibmjaaGreat
namespace Lo
open Ba
structure Sme (s s' : Lm) : Prop where
 ps : s'.ps = s.ps
 p : s'.p = s.p
 d : ∀ x ∈ s'.d, x ∈ s.d
 dl : s'.d.length ≤ s.d.length
theorem Sme.refl (s : Lm) : Sme s s := ⟨rfl, rfl, fun _ h => h, Nat.le_refl _⟩
theorem Sme.trans {a b c : Lm} (h : Sme a b) (k : Sme b c) : Sme a c := ⟨k.ps.trans h.ps, k.p.trans h.p, fun x hx => h.d x (k.d x hx), Nat.le_trans k.dl h.dl⟩
theorem sme_try (s : Lm) (g at_ : Int) (c : Ca) : Sme s (tryF s g at_ c).s := by
 unfold tryF
 split
 ·exact ⟨rfl, rfl, fun _ h => h, Nat.le_refl _⟩
 ·split <;> exact ⟨rfl, rfl, fun _ h => h, Nat.le_refl _⟩
theorem sme_alone (s : Lm) (g : Int) (c : Ca) : Sme s (aloneF s g c).s := by
 have h := sme_try s g (-1) c
 unfold aloneF
 split
 ·exact h
 ·exact ⟨h.ps, h.p, h.d, h.dl⟩
theorem dr_len (d : List Int) (n : Int) : (Pk.dr d n).length ≤ d.length := by
 unfold Pk.dr
 split
 ·exact Nat.le_refl _
 ·simp
theorem sme_choose (s : Lm) (g : Int) (o : OpD) : Sme s (chooseF s g o).s := by
 unfold chooseF
 split
 ·have h := sme_try { s with d := Pk.dr s.d (Fk.rdyL (cas o) s.sts).length } g (nth (Fk.rdyL (cas o) s.sts) (Pk.dv s.d (Fk.rdyL (cas o) s.sts).length).toNat) (caseAt o (nth (Fk.rdyL (cas o) s.sts) (Pk.dv s.d (Fk.rdyL (cas o) s.sts).length).toNat))
  exact ⟨h.ps, h.p, fun x hx => Pk.dr_sub (h.d x hx), Nat.le_trans h.dl (dr_len _ _)⟩
 ·split <;> exact ⟨rfl, rfl, fun _ h => h, Nat.le_refl _⟩
theorem sme_all (g c : Int) : ∀ (l : List Wt) (s : Lm), Sme s (wakeAll g c s l)
 | [], s => Sme.refl s
 | x :: l, s => by
   show Sme s (wakeAll g c (if parked s x.g then _ else s) l)
   refine Sme.trans ?_ (sme_all g c l _)
   split
   ·exact ⟨rfl, rfl, fun _ h => h, Nat.le_refl _⟩
   ·exact Sme.refl s
theorem sme_closes (s : Lm) (g k : Int) : Sme s (closesF s g k).s := by
 unfold closesF
 split
 ·exact Sme.refl s
 ·split
  ·exact Sme.refl s
  ·exact Sme.trans (b := goS { s with sts := _ } _) ⟨rfl, rfl, fun _ h => h, Nat.le_refl _⟩ (sme_all _ _ _ _)
theorem Sme.panic {s s' : Lm} (h : Sme s s') (g : Int) : Sme s (panicS s' g) := ⟨h.ps, h.p, h.d, h.dl⟩
theorem sme_do (s : Lm) (g : Int) (o : OpD) : Sme s (doF s g o) := by
 unfold doF
 split
 ·exact ⟨rfl, rfl, fun _ h => h, Nat.le_refl _⟩
 ·split
  ·exact ⟨rfl, rfl, fun _ h => h, Nat.le_refl _⟩
  ·split
   ·exact ⟨rfl, rfl, fun _ h => h, Nat.le_refl _⟩
   ·split
    ·exact ⟨rfl, rfl, fun _ h => h, Nat.le_refl _⟩
    ·split
     ·exact ⟨rfl, rfl, fun _ h => h, Nat.le_refl _⟩
     ·split
      ·split
       ·exact sme_alone _ _ _
       ·exact (sme_alone _ _ _).panic _
      ·split
       ·exact sme_alone _ _ _
       ·split
        ·split
         ·exact sme_closes _ _ _
         ·exact (sme_closes _ _ _).panic _
        ·split
         ·split
          ·exact sme_choose _ _ _
          ·exact (sme_choose _ _ _).panic _
         ·exact Sme.refl s
theorem schk_ok {sc : Sh.Sc} (h : Sh.schk sc = 0) : (0 < sc.ps.length ∧ sc.ps.length ≤ 8) ∧ (∀ q ∈ sc.ps, q.length ≤ 32) ∧ sc.pl.length ≤ 200 ∧ sc.dr.length ≤ 64 ∧ Sh.ari sc.ps.length sc.ps = true ∧ (∀ x ∈ sc.pl, -1 ≤ x ∧ x ≤ 1000) ∧ ∀ x ∈ sc.dr, 0 ≤ x ∧ x ≤ 1000 := by
 unfold Sh.schk at h
 cases h1 : !((decide (1 ≤ sc.T) && decide (sc.T ≤ 256)) && (decide (1 ≤ sc.M) && decide (sc.M ≤ 1048576)))
 ·rw [h1] at h
  cases h2 : Sh.isl sc.ps sc.pl.length sc.dr.length
  ·rw [h2] at h
   cases h3 : !(!decide (sc.ps.length = 0) && Sh.ari sc.ps.length sc.ps)
   ·rw [h3] at h
    cases h4 : !(Sh.ab (-1) 1000 sc.pl && Sh.ab 0 1000 sc.dr)
    ·simp only [Bool.not_eq_false', Bool.and_eq_true, Bool.not_eq_true', decide_eq_false_iff_not] at h3 h4
     unfold Sh.isl at h2
     simp only [Bool.or_eq_false_iff, decide_eq_false_iff_not, List.any_eq_false, decide_eq_true_eq] at h2
     have q1 := (Sh.ab_iff _ _ _).1 h4.1
     have q2 := (Sh.ab_iff _ _ _).1 h4.2
     refine ⟨⟨by omega, by omega⟩, fun q hq => by have := h2.1 q hq; omega, by omega, by omega, h3.2, q1, q2⟩
    ·rw [h4] at h
     simp at h
   ·rw [h3] at h
    simp at h
  ·rw [h2] at h
   simp at h
 ·rw [h1] at h
  simp at h
theorem abl_mem : ∀ (l : List Mb) (j : Nat) (x : Int), x ∈ Cr.ablF j l → ∃ (k : Nat) (y : Mb), x = ((j + k : Nat) : Int) ∧ l[k]? = some y ∧ y.s = 0 := by
 intro l
 induction l with
 | nil => intro j x h; simp [Cr.ablF] at h
 | cons y l ih =>
   intro j x h
   unfold Cr.ablF at h
   split at h
   ·rw [List.mem_cons] at h
    rcases h with q | q
    ·exact ⟨0, y, by rw [q]; simp, rfl, by assumption⟩
    ·obtain ⟨k, z, e, e2, e3⟩ := ih (j + 1) x q
     exact ⟨k + 1, z, by rw [e]; congr 1; omega, by simpa using e2, e3⟩
   ·obtain ⟨k, z, e, e2, e3⟩ := ih (j + 1) x h
    exact ⟨k + 1, z, by rw [e]; congr 1; omega, by simpa using e2, e3⟩
theorem abl_pos : ∀ (l : List Mb) (j : Nat), Cr.hasS l 0 = true → 0 < (Cr.ablF j l).length := by
 intro l
 induction l with
 | nil => intro j h; simp [Cr.hasS] at h
 | cons y l ih =>
   intro j h
   unfold Cr.ablF
   split
   ·simp
   ·rename_i hs
    apply ih
    unfold Cr.hasS at h ⊢
    rw [List.any_cons] at h
    have : (y.s == 0) = false := by simp [hs]
    rw [this] at h
    simpa using h
theorem who_ok {s : Lm} (hv : verd s = 0) (ht : 0 ≤ nth s.p 0) : ∃ (k : Nat) (y : Mb), whoN s = (k : Int) ∧ s.cr[k]? = some y ∧ y.s = 0 := by
 unfold verd at hv
 split at hv
 ·omega
 ·split at hv
  ·omega
  ·rename_i h1
   have h2 : Cr.hasS s.cr 0 = true := by
    cases hh : Cr.hasS s.cr 0
    ·exfalso
     apply h1
     unfold Cr.ovr
     rw [hh]
     simp
     split <;> omega
    ·rfl
   have hp := abl_pos s.cr 0 h2
   have hlt : (nth s.p 0).toNat % (Cr.abl s.cr).length < (Cr.abl s.cr).length := Nat.mod_lt _ hp
   have hm : whoN s ∈ Cr.ablF 0 s.cr := by
    unfold whoN Pk.ofx
    rw [if_neg (by omega), if_neg (by have : (Cr.abl s.cr).length = (Cr.ablF 0 s.cr).length := rfl; omega), nth_lt _ _ hlt]
    exact List.getElem_mem hlt
   obtain ⟨k, y, e, e2, e3⟩ := abl_mem s.cr 0 _ hm
   exact ⟨k, y, by rw [e]; simp, e2, e3⟩
theorem exit_chk {n : Nat} (h : 0 < n) (h8 : n ≤ 8) : De.chk exitO (n : Int) = 0 := by
 unfold De.chk exitO
 have h1 : De.okP (n : Int) = true := by unfold De.okP; simp; omega
 rw [h1]
 simp [De.upB, De.mA, De.mB]
structure Inv (sc : Sh.Sc) (n : Nat) (s : Lm) : Prop where
 ps : s.ps = sc.ps
 b : B1 sc.ps.length (2 * n * n + 2 * n) n (4 * n) (n + 1) n s
 p : s.p = sc.pl.drop n
 d : ∀ x ∈ s.d, 0 ≤ x
 dl : s.d.length ≤ 64
 le : n ≤ sc.pl.length
theorem Inv.new {sc : Sh.Sc} (h : Sh.schk sc = 0) : Inv sc 0 (newS sc) := by
 obtain ⟨h1, h2, h3, h4, h5, h6, h7⟩ := schk_ok h
 refine ⟨rfl, ⟨⟨?_, by simp [newS]⟩, ?_, by simp [newS], ?_, by simp [newS], by simp [newS], by simp [newS]⟩, by simp [newS], fun x hx => (h7 x hx).1, h4, Nat.zero_le _⟩
 ·intro x hx
  simp [newS] at hx
  rw [hx]
  simp
 ·intro x hx
  simp [newS] at hx
  rw [hx]
  simp
  omega
 ·intro i st e
  have := List.mem_of_getElem? e
  simp [newS] at this
theorem sq_step (n : Nat) : 2 * (n + 1) * (n + 1) + 2 * (n + 1) = 2 * n * n + 2 * n + (4 * n + 4) := by
 have : 2 * (n + 1) * (n + 1) = 2 * n * n + 4 * n + 2 := by
  simp only [Nat.mul_add, Nat.add_mul]
  omega
 omega
theorem op_chk {sc : Sh.Sc} {n : Nat} {s : Lm} (h : Sh.schk sc = 0) (i : Inv sc n s) (g : Int) : De.chk (opOf s g) sc.ps.length = 0 := by
 obtain ⟨h1, -, -, -, h5, -, -⟩ := schk_ok h
 unfold opOf
 rw [i.ps]
 cases hp : sc.ps[(Cr.one0 (Cr.gt s.cr g)).p.toNat]? with
 | none => simp; exact exit_chk h1.1 h1.2
 | some P =>
   simp only [Option.getD_some]
   cases ho : P[(Cr.one0 (Cr.gt s.cr g)).q.toNat]? with
   | none => exact exit_chk h1.1 h1.2
   | some o => exact Sh.ari_of h5 hp ho
theorem Inv.step {sc : Sh.Sc} {n : Nat} {s : Lm} (h : Sh.schk sc = 0) (i : Inv sc n s) (hv : verd s = 0) : Inv sc (n + 1) (stepF s) := by
 obtain ⟨h1, h2, h3, h4, h5, h6, h7⟩ := schk_ok h
 have hpl : 0 < s.p.length := by
  unfold verd at hv
  split at hv
  ·omega
  ·split at hv
   ·omega
   ·split at hv
    ·omega
    ·omega
 have hn : n < sc.pl.length := by
  rw [i.p, List.length_drop] at hpl
  omega
 have hp' : s.p.tail = sc.pl.drop (n + 1) := by rw [i.p, List.tail_drop]
 have b0 : B1 sc.ps.length (2 * n * n + 2 * n) n (4 * n) (n + 1) n { s with p := s.p.tail } := ⟨⟨i.b.bw.cb, i.b.bw.tn⟩, i.b.cp, i.b.cl, i.b.sb, i.b.sl, i.b.nl, i.b.md⟩
 have hs := sq_step n
 unfold stepF
 rw [if_neg (by omega)]
 split
 ·refine ⟨i.ps, ?_, hp', i.d, i.dl, by omega⟩
  exact (b0.tell _).mono (by omega) (by omega) (by omega) (by omega) (by omega)
 ·have sm := sme_do { s with p := s.p.tail } (whoN s) (opOf s (whoN s))
  refine ⟨sm.ps.trans i.ps, ?_, sm.p.trans hp', fun x hx => i.d x (sm.d x hx), Nat.le_trans sm.dl i.dl, by omega⟩
  exact (b0.do_ _ _ (op_chk h i _)).mono (by omega) (by omega) (by omega) (by omega) (by omega)
end Lo
end Go.Proofs.YtblfimobiibmjaaGreat
namespace Go.Proofs.YtblfimobiibmjaaGreat
namespace Rlo
open Ba Lo
end Rlo
end Go.Proofs.YtblfimobiibmjaaGreat
namespace Go.Proofs.YtblfimobiibmjaaGreat
open Go.ChangeShapes Go.WideShapes Go.ChangeAt Go.RowKit
namespace Rlo
open Ba Lo
section
variable {ops : Array Oper} {o : Oper} {a : Act} {w : World} {K : Act → World → Prop} {Q : Exit → Act → World → Prop} {E : Prop}
end
end Rlo
end Go.Proofs.YtblfimobiibmjaaGreat
