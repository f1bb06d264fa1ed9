import Derived.Test.YtkkgbeaaekmhfaaGreatZjGl10
import Derived.Shelf.Strings.BuilderK
import Derived.Deep.DeepCutAuto
import Derived.Deep.RegionWith
namespace Go.Proofs.YtkkgbeaaekmhfaaGreat
namespace Lo
open Ba
def SP (s s' : Lm) : Prop := ∃ e l, s'.tr = s.tr ++ e :: l
def WP (s s' : Lm) : Prop := ∃ l, s'.tr = s.tr ++ l
theorem WP.refl (s : Lm) : WP s s := ⟨[], by simp⟩
theorem SP.wp {s s' : Lm} (h : SP s s') : WP s s' := by
 obtain ⟨e, l, h⟩ := h
 exact ⟨_, h⟩
theorem WP.trans {a b c : Lm} (h : WP a b) (k : WP b c) : WP a c := by
 obtain ⟨l, h⟩ := h
 obtain ⟨m, k⟩ := k
 exact ⟨l ++ m, by rw [k, h, List.append_assoc]⟩
theorem SP.trans {a b c : Lm} (h : SP a b) (k : WP b c) : SP a c := by
 obtain ⟨e, l, h⟩ := h
 obtain ⟨m, k⟩ := k
 exact ⟨e, l ++ m, by rw [k, h]; simp⟩
theorem WP.sp {a b c : Lm} (h : WP a b) (k : SP b c) : SP a c := by
 obtain ⟨l, h⟩ := h
 obtain ⟨e, m, k⟩ := k
 cases l with
 | nil => exact ⟨e, m, by rw [k, h]; simp⟩
 | cons x l => exact ⟨x, l ++ e :: m, by rw [k, h]; simp⟩
theorem sp_tell {s s' : Lm} (e : Ev) (h : s'.tr = s.tr) : SP s (tellS s' e) := ⟨e, [], by show s'.tr ++ [e] = _; rw [h]⟩
theorem crdy_try {sts : List (Option St)} {c : Ca} (h : Fk.crdy sts c = true) : ¬ (Fk.tryE sts c = 0 ∧ (Fk.tryG sts c).rd = false) := by
 unfold Fk.crdy at h
 cases hn : Fk.nmB sts c.ch with
 | none => rw [hn] at h; cases h
 | some st =>
   rw [hn] at h
   simp only at h
   unfold Fk.tryE Fk.tryG
   rw [hn]
   simp only
   unfold _root_.Go.Proofs.YtkkgbeaaekmhfaaGreat.Pi.rdy _root_.Go.Proofs.YtkkgbeaaekmhfaaGreat.Pi.room _root_.Go.Proofs.YtkkgbeaaekmhfaaGreat.Pi.own at h
   cases hs : c.sd
   ·rw [hs] at h
    simp at h
    simp
    unfold _root_.Go.Proofs.YtkkgbeaaekmhfaaGreat.Pi.recvG
    split
    ·rename_i e1 e2
     rw [e1, e2] at h
     simp at h
     simp [h]
    ·simp
    ·simp
    ·simp
   ·rw [hs] at h
    simp at h
    simp
    unfold _root_.Go.Proofs.YtkkgbeaaekmhfaaGreat.Pi.sendE _root_.Go.Proofs.YtkkgbeaaekmhfaaGreat.Pi.sendG
    intro h0
    split at h0
    ·omega
    ·rename_i hc
     rw [if_neg hc]
     split
     ·simp
     ·rename_i e1
      rw [e1] at h
      simp [hc] at h
      simp [h]
theorem wp_try (s : Lm) (g at_ : Int) (c : Ca) : WP s (tryF s g at_ c).s := by
 unfold tryF
 split
 ·exact ⟨[], by simp⟩
 ·split
  ·exact ⟨[_] ++ [_], List.append_assoc s.tr [_] [_]⟩
  ·exact ⟨[_], rfl⟩
theorem sp_try {s : Lm} {g at_ : Int} {c : Ca} (h : (tryF s g at_ c).done = true) : SP s (tryF s g at_ c).s := by
 unfold tryF at h ⊢
 split
 ·rename_i h1
  rw [if_pos h1] at h
  cases h
 ·split
  ·exact ⟨_, [_], List.append_assoc s.tr [_] [_]⟩
  ·exact ⟨_, [], rfl⟩
theorem sp_alone {s : Lm} {g : Int} {c : Ca} (h : (aloneF s g c).fine = true) : SP s (aloneF s g c).s := by
 unfold aloneF at h ⊢
 split
 ·rename_i h1
  rw [if_pos h1] at h
  have hd : (tryF s g (-1) c).done = true := by
   simp only at h
   rw [h] at h1
   simpa using h1
  exact sp_try hd
 ·exact (wp_try s g (-1) c).sp (sp_tell _ rfl)
theorem recv_fine (s : Lm) (g : Int) (c : Ca) (hc : c.sd = false) : (aloneF s g c).fine = true := by
 have h0 : (tryF s g (-1) c).fine = true := by
  unfold tryF
  have : Fk.tryE s.sts c = 0 := by
   unfold Fk.tryE
   split
   ·rfl
   ·simp [hc]
  split
  ·simp [this]
  ·split <;> rfl
 unfold aloneF
 split
 ·exact h0
 ·rfl
theorem ps_at {P : Nat → Bool} {n k : Nat} (hk : k < (Fk.ps P n).length) : ∃ p : Nat, nth (Fk.ps P n) k = (p : Int) ∧ p < n ∧ P p = true := Fk.ps_mem hk
theorem sp_choose {s : Lm} {g : Int} {o : OpD} (h : (chooseF s g o).fine = true) (hd : ∀ x ∈ s.d, 0 ≤ x) (h4 : o.cases.length ≤ 4) : SP s (chooseF s g o).s := by
 unfold chooseF at h ⊢
 split
 ·rename_i h1
  rw [if_pos h1] at h
  simp only at h
  have hl4 : (Fk.rdyL (cas o) s.sts).length ≤ 4 := Nat.le_trans (Fk.ps_len _ _) (by unfold cas; rw [List.length_map]; exact h4)
  obtain ⟨i, hi, hin⟩ := dv_nat (n := (Fk.rdyL (cas o) s.sts).length) hd h1 hl4
  obtain ⟨p, hp, hpl, hP⟩ := ps_at (P := fun i => match (cas o)[i]? with | none => false | some c => Fk.crdy s.sts c) (n := (cas o).length) hin
  have e1 : nth (Fk.rdyL (cas o) s.sts) i = (p : Int) := hp
  rw [hi, Int.toNat_natCast, e1] at h ⊢
  have hc : Fk.crdy s.sts (caseAt o p) = true := by
   have h2 : (cas o)[p]? = some (cas o)[p] := List.getElem?_eq_getElem hpl
   simp only [h2] at hP
   unfold caseAt
   rw [Int.toNat_natCast, h2]
   exact hP
  have hn := crdy_try hc
  refine sp_try (s := { s with d := _ }) ?_
  unfold tryF at h ⊢
  split
  ·rename_i h3
   rw [if_pos h3] at h
   simp at h
   exact absurd ⟨h, by rcases h3 with q | q; exact absurd h q; exact q⟩ hn
  ·split <;> rfl
 ·split
  ·exact ⟨_, [], rfl⟩
  ·exact ⟨_, [], rfl⟩
theorem wp_all (g c : Int) : ∀ (l : List Wt) (s : Lm), WP s (wakeAll g c s l)
 | [], s => WP.refl s
 | x :: l, s => by
   show WP s (wakeAll g c (if parked s x.g then _ else s) l)
   refine WP.trans ?_ (wp_all g c l _)
   split
   ·exact ⟨[_], rfl⟩
   ·exact WP.refl s
theorem wp_closes (s : Lm) (g k : Int) : WP s (closesF s g k).s := by
 unfold closesF
 split
 ·exact WP.refl s
 ·split
  ·exact WP.refl s
  ·exact WP.trans (b := goS { s with sts := _ } _) ⟨[_], rfl⟩ (wp_all _ _ _ _)
theorem sp_closes {s : Lm} {g k : Int} (hg : g ≠ -1) (h : (closesF s g k).who = -1) : SP s (closesF s g k).s := by
 unfold closesF at h ⊢
 split
 ·rename_i e
  rw [e] at h
  exact absurd h hg
 ·rename_i st e
  rw [e] at h
  simp only at h
  split
  ·rename_i hc
   rw [if_pos hc] at h
   exact absurd h hg
  ·exact SP.trans (b := goS { s with sts := _ } _) ⟨_, [], rfl⟩ (wp_all _ _ _ _)
theorem sp_do {s : Lm} {g : Int} {o : OpD} {n : Int} (ho : De.chk o n = 0) (hd : ∀ x ∈ s.d, 0 ≤ x) (hg : g ≠ -1) : SP s (doF s g o) := by
 obtain ⟨-, hk, h4, -⟩ := op_ok ho
 unfold doF
 split
 ·exact ⟨_, [], rfl⟩
 ·split
  ·exact ⟨_, [], rfl⟩
  ·split
   ·exact ⟨_, [], rfl⟩
   ·split
    ·exact ⟨_, [], rfl⟩
    ·split
     ·exact ⟨_, [], rfl⟩
     ·split
      ·split
       ·exact sp_alone (by assumption)
       ·refine WP.sp ?_ (sp_tell _ rfl)
        unfold aloneF
        split
        ·exact wp_try _ _ _ _
        ·exact ((wp_try s g (-1) _).sp (sp_tell _ rfl)).wp
      ·split
       ·exact sp_alone (recv_fine _ _ _ rfl)
       ·split
        ·split
         ·exact sp_closes hg (by assumption)
         ·exact (wp_closes _ _ _).sp (sp_tell _ rfl)
        ·split
         ·split
          ·exact sp_choose (by assumption) hd h4
          ·refine WP.sp ?_ (sp_tell _ rfl)
           unfold chooseF
           split
           ·obtain ⟨l, hl⟩ := wp_try { s with d := Pk.dr s.d (Fk.rdyL (cas o) s.sts).length } g (nth (Fk.rdyL (cas o) s.sts) (Pk.dv s.d (Fk.rdyL (cas o) s.sts).length).toNat) (caseAt o (nth (Fk.rdyL (cas o) s.sts) (Pk.dv s.d (Fk.rdyL (cas o) s.sts).length).toNat))
            exact ⟨l, hl⟩
           ·split
            ·exact ⟨[_], rfl⟩
            ·exact ⟨[_], rfl⟩
         ·omega
end Lo
end Go.Proofs.YtkkgbeaaekmhfaaGreat
namespace Go.Proofs.YtkkgbeaaekmhfaaGreat
namespace Lo
open Ba
structure B1 (m K n M C D : Nat) (s : Lm) : Prop where
 bw : Bw K s
 cp : ∀ x ∈ s.cr, 0 ≤ x.p ∧ x.p < m
 cl : s.cr.length ≤ C
 sb : SB n M s.sts
 sl : s.sts.length = 8
 nl : s.nm.length = 8
 md : 0 ≤ s.md ∧ s.md ≤ D
section
variable {m K n M C D : Nat} {s : Lm}
theorem B1.mono {K' n' M' C' D' : Nat} (h : B1 m K n M C D s) (h1 : K ≤ K') (h2 : n ≤ n') (h3 : M ≤ M') (h4 : C ≤ C') (h5 : D ≤ D') : B1 m K' n' M' C' D' s :=
 ⟨h.bw.mono h1, h.cp, Nat.le_trans h.cl h4, h.sb.mono h2 h3, h.sl, h.nl, by have := h.md; omega⟩
theorem ch_cp {l : List Mb} (h : ∀ x ∈ l, 0 ≤ x.p ∧ x.p < (m : Int)) (g a b d : Int) : ∀ x ∈ Cr.chL l g a b d, 0 ≤ x.p ∧ x.p < (m : Int) := by
 unfold Cr.chL
 split
 ·exact h
 ·rename_i y hy
  split
  ·intro x hx
   obtain ⟨k, rfl, hk, hk2⟩ := Cr.gt_some hy
   rcases List.mem_or_eq_of_mem_set hx with q | q
   ·exact h x q
   ·rw [q]
    exact h y (List.mem_of_getElem? hk2)
  ·exact h
theorem B1.tell (h : B1 m K n M C D s) (e : Ev) : B1 m (K + 1) n M C D (tellS s e) :=
 ⟨⟨h.bw.cb.mono (by omega), by show (s.tr ++ [e]).length ≤ _; have := h.bw.tn; simp; omega⟩, h.cp, h.cl, h.sb, h.sl, h.nl, h.md⟩
theorem B1.ch (h : B1 m K n M C D s) (e : Ev) (a b d : Int) (hb : 0 ≤ b ∧ b ≤ 2) (hd : 0 ≤ d ∧ d ≤ 1) : B1 m (K + 1) n M C D (tellS { s with cr := Cr.chL s.cr e.g a b d } e) :=
 ⟨⟨Cr.Bn.ch h.bw.cb e.g a b d hb hd, by show (s.tr ++ [e]).length ≤ _; have := h.bw.tn; simp; omega⟩, ch_cp h.cp _ _ _ _, by show (Cr.chL s.cr e.g a b d).length ≤ _; rw [ch_len]; exact h.cl, h.sb, h.sl, h.nl, h.md⟩
theorem B1.sts {n' M' : Nat} {sts : List (Option St)} (h : B1 m K n M C D s) (hs : SB n' M' sts) (hl : sts.length = s.sts.length) : B1 m K n' M' C D { s with sts := sts } :=
 ⟨⟨h.bw.cb, h.bw.tn⟩, h.cp, h.cl, hs, hl.trans h.sl, h.nl, h.md⟩
theorem B1.go (h : B1 m K n M C D s) (e : Ev) : B1 m (K + 1) n M C D (goS s e) := h.ch e 0 0 1 (by omega) (by omega)
theorem B1.waits (h : B1 m K n M C D s) (e : Ev) : B1 m (K + 1) n M C D (waitsS s e) := h.ch e 0 1 0 (by omega) (by omega)
theorem B1.wakes (h : B1 m K n M C D s) (e : Ev) : B1 m (K + 1) n M C D (wakesS s e) :=
 (h.sts (h.sb.leave e.g) (by unfold Fk.leaveS; simp)).ch e 1 0 1 (by omega) (by omega)
theorem try_len (sts : List (Option St)) (c : Ca) : (Fk.tryS sts c).length = sts.length := by
 unfold Fk.tryS
 split <;> simp
theorem B1.try (h : B1 m K n M C D s) (g at_ : Int) (c : Ca) : B1 m (K + 2) (n + 1) M C D (tryF s g at_ c).s := by
 have h1 := h.sts (h.sb.try c) (try_len _ _)
 unfold tryF
 split
 ·exact h1.mono (by omega) (by omega) (by omega) (by omega) (by omega)
 ·split
  ·exact (h1.go _).wakes _
  ·exact (h1.go _).mono (by omega) (by omega) (by omega) (by omega) (by omega)
theorem wait_len (sts : List (Option St)) (c : Ca) (g : Int) : (waitN sts c g).length = sts.length := by
 unfold waitN
 split <;> simp
theorem B1.alone (h : B1 m K n M C D s) (g : Int) (c : Ca) : B1 m (K + 3) (n + 1) (M + 1) C D (aloneF s g c).s := by
 have h1 := h.try g (-1) c
 unfold aloneF
 split
 ·exact h1.mono (by omega) (by omega) (by omega) (by omega) (by omega)
 ·exact (h1.sts (h1.sb.wait1 c g) (wait_len _ _ _)).waits _
theorem pkS_len (g : Int) (l : List Ca) (sts : List (Option St)) : ∀ k, (Fk.pkS g l sts k).length = sts.length
 | 0 => rfl
 | k + 1 => by
   unfold Fk.pkS
   split
   ·exact pkS_len g l sts k
   ·unfold Fk.pk1
    split
    ·exact pkS_len g l sts k
    ·rw [List.length_set]
     exact pkS_len g l sts k
theorem pkA_len (g : Int) (l : List Ca) (sts : List (Option St)) : (Fk.pkA g l sts).length = sts.length := by
 unfold Fk.pkA
 split
 ·rfl
 ·split
  ·rfl
  ·exact pkS_len _ _ _ _
theorem B1.choose (h : B1 m K n M C D s) (g : Int) (o : OpD) (h4 : o.cases.length ≤ 4) : B1 m (K + 3) (n + 1) (M + 4) C D (chooseF s g o).s := by
 unfold chooseF
 split
 ·have h1 : B1 m K n M C D { s with d := Pk.dr s.d (Fk.rdyL (cas o) s.sts).length } := ⟨⟨h.bw.cb, h.bw.tn⟩, h.cp, h.cl, h.sb, h.sl, h.nl, h.md⟩
  exact (h1.try _ _ _).mono (by omega) (by omega) (by omega) (by omega) (by omega)
 ·split
  ·exact (h.go _).mono (by omega) (by omega) (by omega) (by omega) (by omega)
  ·exact ((h.sts (h.sb.pkA g (cas o) (by unfold cas; rw [List.length_map]; exact h4)) (pkA_len _ _ _)).waits _).mono (by omega) (by omega) (by omega) (by omega) (by omega)
theorem B1.all (g c : Int) : ∀ (l : List Wt) {K : Nat} {s : Lm}, B1 m K n M C D s → B1 m (K + l.length) n M C D (wakeAll g c s l)
 | [], K, s, h => h
 | x :: l, K, s, h => by
   show B1 m _ n M C D (wakeAll g c (if parked s x.g then _ else s) l)
   rw [List.length_cons, Nat.add_comm l.length 1, ← Nat.add_assoc]
   apply B1.all g c l
   split
   ·exact h.wakes _
   ·exact h.mono (by omega) (by omega) (by omega) (by omega) (by omega)
theorem B1.closes (h : B1 m K n M C D s) (g k : Int) : B1 m (K + 1 + M) n M C D (closesF s g k).s := by
 unfold closesF
 split
 ·exact h.mono (by omega) (by omega) (by omega) (by omega) (by omega)
 ·rename_i st e
  split
  ·exact h.mono (by omega) (by omega) (by omega) (by omega) (by omega)
  ·rename_i hc
   have hs := h.sb.nm e
   have h1 : B1 m K n M C D { s with sts := s.sts.set k.toNat (some (_root_.Go.Proofs.YtkkgbeaaekmhfaaGreat.Pi.closeS st)) } := h.sts (h.sb.set (by unfold _root_.Go.Proofs.YtkkgbeaaekmhfaaGreat.Pi.closeS; rw [if_neg hc]; simp; omega)) (by simp)
   exact (B1.all _ _ _ (h1.go _)).mono (by omega) (by omega) (by omega) (by omega) (by omega)
theorem B1.panic (h : B1 m K n M C D s) (g : Int) : B1 m (K + 1) n M C D (panicS s g) := by
 have h1 : B1 m K n M C D { s with pk := true } := ⟨⟨h.bw.cb, h.bw.tn⟩, h.cp, h.cl, h.sb, h.sl, h.nl, h.md⟩
 exact h1.tell _
theorem B1.do_ (h : B1 m K n M C D s) (g : Int) (o : OpD) (ho : De.chk o (m : Int) = 0) : B1 m (K + 4 + M) (n + 1) (M + 4) (C + 1) (D + 1) (doF s g o) := by
 obtain ⟨-, hk, h4, ha, hb, -, hcs⟩ := op_ok ho
 unfold doF
 split
 ·rename_i h1
  rw [h1] at ha
  simp [De.mA] at ha
  have hsp : B1 m K n M (C + 1) D { s with cr := Cr.spL s.cr o.a } := by
   refine ⟨⟨Cr.Bn.sp h.bw.cb _, h.bw.tn⟩, ?_, ?_, h.sb, h.sl, h.nl, h.md⟩
   ·show ∀ x ∈ Cr.spL s.cr o.a, _
    unfold Cr.spL
    rw [if_neg (by omega)]
    split
    ·exact h.cp
    ·intro x hx
     rw [List.mem_append] at hx
     rcases hx with q | q
     ·exact h.cp x q
     ·simp at q
      rw [q]
      simp
      omega
   ·show (Cr.spL s.cr o.a).length ≤ _
    have := h.cl
    unfold Cr.spL
    split
    ·omega
    ·split
     ·omega
     ·simp; omega
  exact (hsp.go _).mono (by omega) (by omega) (by omega) (by omega) (by omega)
 ·split
  ·have hop : B1 m K n M C (D + 1) (opensS s o.a o.b) := by
    refine ⟨⟨h.bw.cb, h.bw.tn⟩, h.cp, h.cl, h.sb.set (by simp [_root_.Go.Proofs.YtkkgbeaaekmhfaaGreat.Pi.st0]), ?_, ?_, ?_⟩
    ·show (s.sts.set _ _).length = 8
     rw [List.length_set]
     exact h.sl
    ·show (s.nm.set _ _).length = 8
     rw [List.length_set]
     exact h.nl
    ·show 0 ≤ s.md + 1 ∧ s.md + 1 ≤ ((D + 1 : Nat) : Int)
     have := h.md
     omega
   exact (hop.go _).mono (by omega) (by omega) (by omega) (by omega) (by omega)
  ·split
   ·exact (h.go _).mono (by omega) (by omega) (by omega) (by omega) (by omega)
   ·split
    ·exact (h.go _).mono (by omega) (by omega) (by omega) (by omega) (by omega)
    ·split
     ·exact (h.ch (bareE 11 g) 0 2 0 (by omega) (by omega)).mono (by omega) (by omega) (by omega) (by omega) (by omega)
     ·split
      ·split
       ·exact (h.alone _ _).mono (by omega) (by omega) (by omega) (by omega) (by omega)
       ·exact ((h.alone _ _).panic _).mono (by omega) (by omega) (by omega) (by omega) (by omega)
      ·split
       ·exact (h.alone _ _).mono (by omega) (by omega) (by omega) (by omega) (by omega)
       ·split
        ·split
         ·exact (h.closes _ _).mono (by omega) (by omega) (by omega) (by omega) (by omega)
         ·exact ((h.closes _ _).panic _).mono (by omega) (by omega) (by omega) (by omega) (by omega)
        ·split
         ·split
          ·exact (h.choose _ _ h4).mono (by omega) (by omega) (by omega) (by omega) (by omega)
          ·exact ((h.choose _ _ h4).panic _).mono (by omega) (by omega) (by omega) (by omega) (by omega)
         ·exact h.mono (by omega) (by omega) (by omega) (by omega) (by omega)
end
end Lo
end Go.Proofs.YtkkgbeaaekmhfaaGreat
namespace Go.Proofs.YtkkgbeaaekmhfaaGreat
namespace Lo
open Ba
structure Sme (s s' : Lm) : Prop where
 ps : s'.ps = s.ps
 p : s'.p = s.p
 d : ∀ x ∈ s'.d, x ∈ s.d
 dl : s'.d.length ≤ s.d.length
theorem Sme.refl (s : Lm) : Sme s s := ⟨rfl, rfl, fun _ h => h, Nat.le_refl _⟩
theorem Sme.trans {a b c : Lm} (h : Sme a b) (k : Sme b c) : Sme a c := ⟨k.ps.trans h.ps, k.p.trans h.p, fun x hx => h.d x (k.d x hx), Nat.le_trans k.dl h.dl⟩
theorem sme_try (s : Lm) (g at_ : Int) (c : Ca) : Sme s (tryF s g at_ c).s := by
 unfold tryF
 split
 ·exact ⟨rfl, rfl, fun _ h => h, Nat.le_refl _⟩
 ·split <;> exact ⟨rfl, rfl, fun _ h => h, Nat.le_refl _⟩
theorem sme_alone (s : Lm) (g : Int) (c : Ca) : Sme s (aloneF s g c).s := by
 have h := sme_try s g (-1) c
 unfold aloneF
 split
 ·exact h
 ·exact ⟨h.ps, h.p, h.d, h.dl⟩
theorem dr_len (d : List Int) (n : Int) : (Pk.dr d n).length ≤ d.length := by
 unfold Pk.dr
 split
 ·exact Nat.le_refl _
 ·simp
theorem sme_choose (s : Lm) (g : Int) (o : OpD) : Sme s (chooseF s g o).s := by
 unfold chooseF
 split
 ·have h := sme_try { s with d := Pk.dr s.d (Fk.rdyL (cas o) s.sts).length } g (nth (Fk.rdyL (cas o) s.sts) (Pk.dv s.d (Fk.rdyL (cas o) s.sts).length).toNat) (caseAt o (nth (Fk.rdyL (cas o) s.sts) (Pk.dv s.d (Fk.rdyL (cas o) s.sts).length).toNat))
  exact ⟨h.ps, h.p, fun x hx => Pk.dr_sub (h.d x hx), Nat.le_trans h.dl (dr_len _ _)⟩
 ·split <;> exact ⟨rfl, rfl, fun _ h => h, Nat.le_refl _⟩
theorem sme_all (g c : Int) : ∀ (l : List Wt) (s : Lm), Sme s (wakeAll g c s l)
 | [], s => Sme.refl s
 | x :: l, s => by
   show Sme s (wakeAll g c (if parked s x.g then _ else s) l)
   refine Sme.trans ?_ (sme_all g c l _)
   split
   ·exact ⟨rfl, rfl, fun _ h => h, Nat.le_refl _⟩
   ·exact Sme.refl s
theorem sme_closes (s : Lm) (g k : Int) : Sme s (closesF s g k).s := by
 unfold closesF
 split
 ·exact Sme.refl s
 ·split
  ·exact Sme.refl s
  ·exact Sme.trans (b := goS { s with sts := _ } _) ⟨rfl, rfl, fun _ h => h, Nat.le_refl _⟩ (sme_all _ _ _ _)
theorem Sme.panic {s s' : Lm} (h : Sme s s') (g : Int) : Sme s (panicS s' g) := ⟨h.ps, h.p, h.d, h.dl⟩
theorem sme_do (s : Lm) (g : Int) (o : OpD) : Sme s (doF s g o) := by
 unfold doF
 split
 ·exact ⟨rfl, rfl, fun _ h => h, Nat.le_refl _⟩
 ·split
  ·exact ⟨rfl, rfl, fun _ h => h, Nat.le_refl _⟩
  ·split
   ·exact ⟨rfl, rfl, fun _ h => h, Nat.le_refl _⟩
   ·split
    ·exact ⟨rfl, rfl, fun _ h => h, Nat.le_refl _⟩
    ·split
     ·exact ⟨rfl, rfl, fun _ h => h, Nat.le_refl _⟩
     ·split
      ·split
       ·exact sme_alone _ _ _
       ·exact (sme_alone _ _ _).panic _
      ·split
       ·exact sme_alone _ _ _
       ·split
        ·split
         ·exact sme_closes _ _ _
         ·exact (sme_closes _ _ _).panic _
        ·split
         ·split
          ·exact sme_choose _ _ _
          ·exact (sme_choose _ _ _).panic _
         ·exact Sme.refl s
theorem schk_ok {sc : Sh.Sc} (h : Sh.schk sc = 0) : (0 < sc.ps.length ∧ sc.ps.length ≤ 8) ∧ (∀ q ∈ sc.ps, q.length ≤ 32) ∧ sc.pl.length ≤ 200 ∧ sc.dr.length ≤ 64 ∧ Sh.ari sc.ps.length sc.ps = true ∧ (∀ x ∈ sc.pl, -1 ≤ x ∧ x ≤ 1000) ∧ ∀ x ∈ sc.dr, 0 ≤ x ∧ x ≤ 1000 := by
 unfold Sh.schk at h
 cases h1 : !((decide (1 ≤ sc.T) && decide (sc.T ≤ 256)) && (decide (1 ≤ sc.M) && decide (sc.M ≤ 1048576)))
 ·rw [h1] at h
  cases h2 : Sh.isl sc.ps sc.pl.length sc.dr.length
  ·rw [h2] at h
   cases h3 : !(!decide (sc.ps.length = 0) && Sh.ari sc.ps.length sc.ps)
   ·rw [h3] at h
    cases h4 : !(Sh.ab (-1) 1000 sc.pl && Sh.ab 0 1000 sc.dr)
    ·simp only [Bool.not_eq_false', Bool.and_eq_true, Bool.not_eq_true', decide_eq_false_iff_not] at h3 h4
     unfold Sh.isl at h2
     simp only [Bool.or_eq_false_iff, decide_eq_false_iff_not, List.any_eq_false, decide_eq_true_eq] at h2
     have q1 := (Sh.ab_iff _ _ _).1 h4.1
     have q2 := (Sh.ab_iff _ _ _).1 h4.2
     refine ⟨⟨by omega, by omega⟩, fun q hq => by have := h2.1 q hq; omega, by omega, by omega, h3.2, q1, q2⟩
    ·rw [h4] at h
     simp at h
   ·rw [h3] at h
    simp at h
  ·rw [h2] at h
   simp at h
 ·rw [h1] at h
  simp at h
theorem abl_mem : ∀ (l : List Mb) (j : Nat) (x : Int), x ∈ Cr.ablF j l → ∃ (k : Nat) (y : Mb), x = ((j + k : Nat) : Int) ∧ l[k]? = some y ∧ y.s = 0 := by
 intro l
 induction l with
 | nil => intro j x h; simp [Cr.ablF] at h
 | cons y l ih =>
   intro j x h
   unfold Cr.ablF at h
   split at h
   ·rw [List.mem_cons] at h
    rcases h with q | q
    ·exact ⟨0, y, by rw [q]; simp, rfl, by assumption⟩
    ·obtain ⟨k, z, e, e2, e3⟩ := ih (j + 1) x q
     exact ⟨k + 1, z, by rw [e]; congr 1; omega, by simpa using e2, e3⟩
   ·obtain ⟨k, z, e, e2, e3⟩ := ih (j + 1) x h
    exact ⟨k + 1, z, by rw [e]; congr 1; omega, by simpa using e2, e3⟩
theorem abl_pos : ∀ (l : List Mb) (j : Nat), Cr.hasS l 0 = true → 0 < (Cr.ablF j l).length := by
 intro l
 induction l with
 | nil => intro j h; simp [Cr.hasS] at h
 | cons y l ih =>
   intro j h
   unfold Cr.ablF
   split
   ·simp
   ·rename_i hs
    apply ih
    unfold Cr.hasS at h ⊢
    rw [List.any_cons] at h
    have : (y.s == 0) = false := by simp [hs]
    rw [this] at h
    simpa using h
theorem who_ok {s : Lm} (hv : verd s = 0) (ht : 0 ≤ nth s.p 0) : ∃ (k : Nat) (y : Mb), whoN s = (k : Int) ∧ s.cr[k]? = some y ∧ y.s = 0 := by
 unfold verd at hv
 split at hv
 ·omega
 ·split at hv
  ·omega
  ·rename_i h1
   have h2 : Cr.hasS s.cr 0 = true := by
    cases hh : Cr.hasS s.cr 0
    ·exfalso
     apply h1
     unfold Cr.ovr
     rw [hh]
     simp
     split <;> omega
    ·rfl
   have hp := abl_pos s.cr 0 h2
   have hlt : (nth s.p 0).toNat % (Cr.abl s.cr).length < (Cr.abl s.cr).length := Nat.mod_lt _ hp
   have hm : whoN s ∈ Cr.ablF 0 s.cr := by
    unfold whoN Pk.ofx
    rw [if_neg (by omega), if_neg (by have : (Cr.abl s.cr).length = (Cr.ablF 0 s.cr).length := rfl; omega), nth_lt _ _ hlt]
    exact List.getElem_mem hlt
   obtain ⟨k, y, e, e2, e3⟩ := abl_mem s.cr 0 _ hm
   exact ⟨k, y, by rw [e]; simp, e2, e3⟩
theorem exit_chk {n : Nat} (h : 0 < n) (h8 : n ≤ 8) : De.chk exitO (n : Int) = 0 := by
 unfold De.chk exitO
 have h1 : De.okP (n : Int) = true := by unfold De.okP; simp; omega
 rw [h1]
 simp [De.upB, De.mA, De.mB]
structure Inv (sc : Sh.Sc) (n : Nat) (s : Lm) : Prop where
 ps : s.ps = sc.ps
 b : B1 sc.ps.length (2 * n * n + 2 * n) n (4 * n) (n + 1) n s
 p : s.p = sc.pl.drop n
 d : ∀ x ∈ s.d, 0 ≤ x
 dl : s.d.length ≤ 64
 le : n ≤ sc.pl.length
theorem Inv.new {sc : Sh.Sc} (h : Sh.schk sc = 0) : Inv sc 0 (newS sc) := by
 obtain ⟨h1, h2, h3, h4, h5, h6, h7⟩ := schk_ok h
 refine ⟨rfl, ⟨⟨?_, by simp [newS]⟩, ?_, by simp [newS], ?_, by simp [newS], by simp [newS], by simp [newS]⟩, by simp [newS], fun x hx => (h7 x hx).1, h4, Nat.zero_le _⟩
 ·intro x hx
  simp [newS] at hx
  rw [hx]
  simp
 ·intro x hx
  simp [newS] at hx
  rw [hx]
  simp
  omega
 ·intro i st e
  have := List.mem_of_getElem? e
  simp [newS] at this
theorem sq_step (n : Nat) : 2 * (n + 1) * (n + 1) + 2 * (n + 1) = 2 * n * n + 2 * n + (4 * n + 4) := by
 have : 2 * (n + 1) * (n + 1) = 2 * n * n + 4 * n + 2 := by
  simp only [Nat.mul_add, Nat.add_mul]
  omega
 omega
theorem op_chk {sc : Sh.Sc} {n : Nat} {s : Lm} (h : Sh.schk sc = 0) (i : Inv sc n s) (g : Int) : De.chk (opOf s g) sc.ps.length = 0 := by
 obtain ⟨h1, -, -, -, h5, -, -⟩ := schk_ok h
 unfold opOf
 rw [i.ps]
 cases hp : sc.ps[(Cr.one0 (Cr.gt s.cr g)).p.toNat]? with
 | none => simp; exact exit_chk h1.1 h1.2
 | some P =>
   simp only [Option.getD_some]
   cases ho : P[(Cr.one0 (Cr.gt s.cr g)).q.toNat]? with
   | none => exact exit_chk h1.1 h1.2
   | some o => exact Sh.ari_of h5 hp ho
theorem Inv.step {sc : Sh.Sc} {n : Nat} {s : Lm} (h : Sh.schk sc = 0) (i : Inv sc n s) (hv : verd s = 0) : Inv sc (n + 1) (stepF s) := by
 obtain ⟨h1, h2, h3, h4, h5, h6, h7⟩ := schk_ok h
 have hpl : 0 < s.p.length := by
  unfold verd at hv
  split at hv
  ·omega
  ·split at hv
   ·omega
   ·split at hv
    ·omega
    ·omega
 have hn : n < sc.pl.length := by
  rw [i.p, List.length_drop] at hpl
  omega
 have hp' : s.p.tail = sc.pl.drop (n + 1) := by rw [i.p, List.tail_drop]
 have b0 : B1 sc.ps.length (2 * n * n + 2 * n) n (4 * n) (n + 1) n { s with p := s.p.tail } := ⟨⟨i.b.bw.cb, i.b.bw.tn⟩, i.b.cp, i.b.cl, i.b.sb, i.b.sl, i.b.nl, i.b.md⟩
 have hs := sq_step n
 unfold stepF
 rw [if_neg (by omega)]
 split
 ·refine ⟨i.ps, ?_, hp', i.d, i.dl, by omega⟩
  exact (b0.tell _).mono (by omega) (by omega) (by omega) (by omega) (by omega)
 ·have sm := sme_do { s with p := s.p.tail } (whoN s) (opOf s (whoN s))
  refine ⟨sm.ps.trans i.ps, ?_, sm.p.trans hp', fun x hx => i.d x (sm.d x hx), Nat.le_trans sm.dl i.dl, by omega⟩
  exact (b0.do_ _ _ (op_chk h i _)).mono (by omega) (by omega) (by omega) (by omega) (by omega)
end Lo
end Go.Proofs.YtkkgbeaaekmhfaaGreat
namespace Go.Proofs.YtkkgbeaaekmhfaaGreat
open Go.ChangeShapes Go.WideShapes Go.ChangeAt Go.RowKit
namespace Lo
open Ba
theorem kn_le {n : Nat} (h : n ≤ 200) : 2 * n * n + 2 * n ≤ 80400 := by
 have : n * n ≤ 200 * 200 := Nat.mul_le_mul h h
 have e : 2 * n * n = 2 * (n * n) := Nat.mul_assoc 2 n n
 omega
theorem Inv.n200 {sc : Sh.Sc} {n : Nat} {s : Lm} (h : Sh.schk sc = 0) (i : Inv sc n s) : n ≤ 200 := by
 have := i.le
 have := (schk_ok h).2.2.1
 omega
theorem Inv.ok {sc : Sh.Sc} {n : Nat} {s : Lm} (h : Sh.schk sc = 0) (i : Inv sc n s) : Ok (2 * n * n + 2 * n) s := by
 have hn := i.n200 h
 refine ⟨i.b.bw.cb, i.b.bw.tn, fun k st e => ?_, fun k st e b => ?_, ?_, i.d⟩
 ·have := i.b.sb k st e
  omega
 ·have := i.b.sb k st e
  unfold _root_.Go.Proofs.YtkkgbeaaekmhfaaGreat.Pi.own
  split <;> omega
 ·have := i.b.md
  omega
theorem cat_tr {col col' : Nat → Nat} {w w' : World} {oc : Option Addr} {cs : List De.Cs} (h : De.CAt w oc cs) (hc : 0 < cs.length → ∀ a, oc = some a → col a.block = 7) (t : Tr col col' w w') : De.CAt w' oc cs ∧ (0 < cs.length → ∀ a, oc = some a → col' a.block = 7) := by
 refine ⟨fun k x hx => ?_, fun h0 a e => ?_⟩
 ·obtain ⟨b, off, e, h0, h1, h2⟩ := h k x hx
  have h7 := hc (Nat.lt_of_le_of_lt (Nat.zero_le k) (List.getElem?_eq_some_iff.1 hx).1) _ e
  exact ⟨b, off, e, t.cell h0 h7, t.cell h1 h7, t.cell h2 h7⟩
 ·obtain ⟨b, off, e2, q, _⟩ := h 0 cs[0] (List.getElem?_eq_getElem h0)
  rw [e] at e2
  cases e2
  exact (t.old b (World.block_lt_of_cell? w _ q)).trans (hc h0 _ e)
theorem tail_es {w : World} {g cap : Nat} {l : List Ev} {n : Nat} (h : w.ownsRow 0 35 8 (.slice (some ⟨g, 0, none⟩) l.length cap) l.length (ec l)) : EsAt w (some ⟨g, n * 8, none⟩) (l.drop n) := by
 obtain ⟨ob, d, e, hE, _⟩ := own_es h
 cases e
 intro k e hk
 rw [List.getElem?_drop] at hk
 obtain ⟨b, off, e2, hc⟩ := hE (n + k) e hk
 cases e2
 refine ⟨g, n * 8, rfl, fun j hj => ?_⟩
 have := hc j hj
 rw [← this]
 congr 2
 rw [Nat.add_mul]
 omega
set_option maxRecDepth 100000 in
set_option maxHeartbeats 1600000 in
theorem step_over (L : Nat) (col : Nat → Nat) (s : Lm) (K : Nat) (w : World) (h : LW w col L s) (hb : Cr.Bn K s.cr) (hv : verd s ≠ 0) :
 Calls Tryz.prog 14 #[.pointer (some ⟨L, 0, none⟩)] w fun r w' => r = .returned (.slice none 0 0) ∧ Below w.heap.size w w' := by
 have NX := hide (next_over L col s K w h hb hv)
 clear h
 go_enter Tryz.func14, Tryz.ntmps14
 go_wp2_with fail
 refine NX.out.mono ?_
 rintro r w1 ⟨rfl, b1⟩
 have B1 := hide b1
 clear b1
 go_wp2_with fail
 go_ret
 exact ⟨rfl, btr B1.out (below_alloc _ _)⟩
theorem step_nil (w : World) : Calls Tryz.prog 14 #[.pointer none] w fun r w' => r = .returned (.slice none 0 0) ∧ Below w.heap.size w w' := by
 go_enter Tryz.func14, Tryz.ntmps14
 go_wp2_with fail
 refine (next_nil _).mono ?_
 rintro r w1 ⟨rfl, b1⟩
 have B1 := hide b1
 clear b1
 go_wp2_with fail
 go_ret
 exact ⟨rfl, btr B1.out (below_alloc _ _)⟩
set_option maxRecDepth 100000 in
set_option maxHeartbeats 3200000 in
theorem step_comp (L : Nat) (col : Nat → Nat) (s : Lm) (K : Nat) (w : World) (h : LW w col L s) (ok : Ok K s) (hK : K ≤ 90000) (hv : verd s = 0) (hl : s.p.length ≤ 1000 ∧ s.d.length ≤ 1000) (ht : nth s.p 0 = -1) (s' : Lm) (hs' : s' = tellS { s with p := s.p.tail } (bareE 13 (-1))) :
 Calls Tryz.prog 14 #[.pointer (some ⟨L, 0, none⟩)] w fun r w' => ∃ ob d, r = .returned (.slice ob (s'.tr.length - s.tr.length) d) ∧ EsAt w' ob (s'.tr.drop s.tr.length) ∧ ∃ col', LW w' col' L s' ∧ Tr col col' w w' := by
 have NX := hide (next_comp L col s K w h ok.cb hv hl ht)
 have H := hide h
 have OK := hide ok
 have HS := hide hs'
 clear h ok hs'
 go_enter Tryz.func14, Tryz.ntmps14
 go_wp2_with fail
 refine NX.out.mono ?_
 rintro r w1 ⟨rfl, b1⟩
 obtain ⟨col2, h2, t2, -⟩ := H.out.below (btr b1 (below_alloc w1 (.cells #[.int .i64 0, .int .i64 0, .int .i64 0, .slice none 0 0, .bool false] 48)))
 obtain ⟨N, C, B, X, FB, pa, pc, bs, Fs, ta, tc, h2⟩ := h2
 have T2 := hide t2
 have H2 := hide h2
 have y1 : (w1.alloc (.cells #[.int .i64 0, .int .i64 0, .int .i64 0, .slice none 0 0, .bool false] 48)).cell? ⟨L, 1, none⟩ = some (.pointer (some ⟨C, 0, none⟩)) := cell_of h2.hp 1
 have CN := hide (Lk.next_cu N C s.p s.d _ h2.cu)
 clear b1 h2 t2 NX
 go_wp2_with fail
 refine CN.out.mono ?_
 rintro r w3 ⟨rfl, cu3, kb3⟩
 obtain ⟨col3, h3, t3⟩ := H2.out.cursor cu3 kb3
 have T3 := hide (T2.out.trans t3)
 have y13 : w3.cell? ⟨L, 13, none⟩ = some (.slice ta s.tr.length tc) := cell_of h3.hp 13
 have H3 := hide h3
 clear cu3 kb3 h3 t3 H2 T2 y1 CN
 go_wp2_with fail
 refine (En.bare_any 13 (-1) _).mono ?_
 rintro r w4 ⟨rfl, b4⟩
 obtain ⟨col4, h4, t4, -⟩ := H3.out.lw.below b4
 have T4 := hide (T3.out.trans t4)
 have TE := hide (tell_any L col4 _ (bareE 13 (-1)) w4 h4 (by have := OK.out.tn; show s.tr.length ≤ _; omega))
 unfold En.evv En.evc bareE at TE
 clear b4 h4 t4 H3 T3
 go_wp2_with fail
 refine TE.out.mono ?_
 rintro r w5 ⟨rfl, col5, h5, t5⟩
 have T5 := hide (T4.out.trans t5)
 have h5' : LW w5 col5 L s' := by rw [HS.out]; exact h5
 obtain ⟨j, hj1, hj2, hlen⟩ : ∃ j, 0 < j ∧ j ≤ 1000000 ∧ s'.tr.length = s.tr.length + j := ⟨1, by omega, by omega, by rw [HS.out]; simp [tellS]⟩
 clear h5 t5 TE T4
 obtain ⟨N5, C5, B5, X5, FB5, pa5, pc5, bs5, Fs5, ta5, tc5, h5⟩ := h5'
 rcases h5.tr.2 with ⟨e1, e2⟩ | ⟨g5, cap5, cur5, e1, -, -, hcap, -⟩
 ·omega
 ·cases e1
  have ES := hide (tail_es (n := s.tr.length) h5.tr)
  have y5 : w5.cell? ⟨L, 13, none⟩ = some (.slice (some ⟨g5, 0, none⟩) s'.tr.length tc5) := cell_of h5.hp 13
  have H5 := hide h5
  have hlt := OK.out.tn
  have CE := hide (fun (l : List Ev) (oa : Option Addr) (c : Nat) (q : EsAt w5 oa l) (z : l.length ≤ 1000000) => clone_es oa l c w5 q z)
  have hdl : (s'.tr.drop s.tr.length).length = j := by rw [List.length_drop, hlen]; omega
  have CEs := hide (CE.out (s'.tr.drop s.tr.length) _ (tc5 - s.tr.length) ES.out (by omega))
  rw [hdl] at CEs
  have T5s := T5.out.size
  rw [hlen] at y5 hcap
  have hsub : s'.tr.length - s.tr.length = j := by omega
  clear h5 y13 ES CE
  generalize hk : s.tr.length = k at y5 hcap CEs hlt
  go_wp2_with fail
  refine CEs.out.mono ?_
  rintro r w6 ⟨ob, d, rfl, es6, -, b6⟩
  obtain ⟨col6, h6, t6, -⟩ := H5.out.lw.below b6
  have H6 := hide h6
  have T6 := hide (T5.out.trans t6)
  have E6 := hide es6
  clear h6 t6 es6 b6 CEs
  go_wp2_with fail
  go_ret
  exact ⟨ob, d, by (rw [hsub]) <;> rfl, by rw [hk]; exact E6.out, col6, H6.out, T6.out⟩
set_option maxRecDepth 100000 in
set_option maxHeartbeats 3200000 in
theorem step_op (L : Nat) (col : Nat → Nat) (s : Lm) (K p q : Nat) (n : Int) (w : World) (h : LW w col L s) (ok : Ok K s) (hK : K ≤ 90000) (hv : verd s = 0) (hl : s.p.length ≤ 1000 ∧ s.d.length ≤ 1000) (ht : nth s.p 0 ≠ -1)
 (hp : (Cr.one0 (Cr.gt s.cr (whoN s))).p = (p : Int)) (hq : (Cr.one0 (Cr.gt s.cr (whoN s))).q = (q : Int)) (hpl : p < s.ps.length) (hs4 : ∀ x ∈ s.ps, ∀ o ∈ x, o.cases.length ≤ 4) (ho : De.chk (opOf s (whoN s)) n = 0) (hw : whoN s ≠ -1)
 (s' : Lm) (hs' : s' = doF { s with p := s.p.tail } (whoN s) (opOf s (whoN s))) (hb' : s'.tr.length ≤ 1000000) :
 Calls Tryz.prog 14 #[.pointer (some ⟨L, 0, none⟩)] w fun r w' => ∃ ob d, r = .returned (.slice ob (s'.tr.length - s.tr.length) d) ∧ EsAt w' ob (s'.tr.drop s.tr.length) ∧ ∃ col', LW w' col' L s' ∧ Tr col col' w w' := by
 have NX := hide (next_op L col s K p q w h ok.cb hv hl ht hp hq hpl hs4)
 have SPD := hide (sp_do (s := { s with p := s.p.tail }) (g := whoN s) ho ok.dd hw)
 have DO := hide (fun u c oc cc (x : LW u c L { s with p := s.p.tail }) (y : De.CAt u oc (opOf s (whoN s)).cases) z => do_any L c { s with p := s.p.tail } K (whoN s) (opOf s (whoN s)) oc cc u n x ⟨ok.cb, ok.tn, ok.sm, ok.wl, ok.md, ok.dd⟩ hK ho y z)
 have H := hide h
 have OK := hide ok
 rw [← hs'] at DO SPD
 have hw' : (whoN s == -1) = false := by simp [hw]
 clear h ok hs' ho hp hq
 generalize opOf s (whoN s) = o at NX DO
 generalize whoN s = g at *
 unfold opV at NX DO
 go_enter Tryz.func14, Tryz.ntmps14
 go_wp2_with fail
 refine NX.out.mono ?_
 rintro r w1 ⟨oc, cc, rfl, hc1, hn1, b1⟩
 obtain ⟨col2, h2, t2, n2⟩ := H.out.below (btr b1 (below_alloc w1 (.cells #[.int .i64 o.kind, .int .i64 o.a, .int .i64 o.b, .slice oc o.cases.length cc, .bool o.def_] 48)))
 obtain ⟨N, C, B, X, FB, pa, pc, bs, Fs, ta, tc, h2⟩ := h2
 have T2 := hide t2
 have H2 := hide h2
 have y1 : (w1.alloc (.cells #[.int .i64 o.kind, .int .i64 o.a, .int .i64 o.b, .slice oc o.cases.length cc, .bool o.def_] 48)).cell? ⟨L, 1, none⟩ = some (.pointer (some ⟨C, 0, none⟩)) := cell_of h2.hp 1
 have CN := hide (Lk.next_cu N C s.p s.d _ h2.cu)
 have C2 := hide (hc1.below (below_alloc w1 (.cells #[.int .i64 o.kind, .int .i64 o.a, .int .i64 o.b, .slice oc o.cases.length cc, .bool o.def_] 48)))
 have D2 : Hid (0 < o.cases.length → ∀ a, oc = some a → col2 a.block = 7) := fun _ a e => n2 _ (hn1 a e)
 have V2 := hide (heap_new w1 (.cells #[.int .i64 o.kind, .int .i64 o.a, .int .i64 o.b, .slice oc o.cases.length cc, .bool o.def_] 48))
 have E2 := hide (n2 w1.heap.size b1.size)
 clear b1 h2 t2 NX n2 hc1 hn1
 go_wp2_with fail
 refine CN.out.mono ?_
 rintro r w3 ⟨rfl, cu3, kb3⟩
 obtain ⟨col3, h3, t3⟩ := H2.out.cursor cu3 kb3
 have T3 := hide (T2.out.trans t3)
 have y13 : w3.cell? ⟨L, 13, none⟩ = some (.slice ta s.tr.length tc) := cell_of h3.hp 13
 obtain ⟨c3, d3⟩ := cat_tr C2.out D2.out t3
 have V3 := hide (t3.heap V2.out E2.out)
 have DO3 := hide (DO.out w3 col3 oc cc h3.lw c3 d3)
 have v0 := cell_of V3.out 0
 have v1 := cell_of V3.out 1
 have v2 := cell_of V3.out 2
 have v3 := cell_of V3.out 3
 have v4 := cell_of V3.out 4
 simp at v0 v1 v2 v3 v4
 clear cu3 kb3 h3 t3 H2 T2 y1 CN c3 d3 V2 C2 D2 DO
 go_wp2_with fail
 refine DO3.out.mono ?_
 rintro r w5 ⟨rfl, col5, h5', t5⟩
 have T5 := hide (T3.out.trans t5)
 obtain ⟨j, hj1, hj2, hlen⟩ : ∃ j, 0 < j ∧ j ≤ 1000000 ∧ s'.tr.length = s.tr.length + j := by
  obtain ⟨e, l, hel⟩ := SPD.out
  have : s'.tr.length = s.tr.length + (l.length + 1) := by rw [hel]; simp
  exact ⟨l.length + 1, by omega, by omega, this⟩
 clear t5 DO3 T3 SPD v0 v1 v2 v3 v4 V3
 obtain ⟨N5, C5, B5, X5, FB5, pa5, pc5, bs5, Fs5, ta5, tc5, h5⟩ := h5'
 rcases h5.tr.2 with ⟨e1, e2⟩ | ⟨g5, cap5, cur5, e1, -, -, hcap, -⟩
 ·omega
 ·cases e1
  have ES := hide (tail_es (n := s.tr.length) h5.tr)
  have y5 : w5.cell? ⟨L, 13, none⟩ = some (.slice (some ⟨g5, 0, none⟩) s'.tr.length tc5) := cell_of h5.hp 13
  have H5 := hide h5
  have hlt := OK.out.tn
  have CE := hide (fun (l : List Ev) (oa : Option Addr) (c : Nat) (q : EsAt w5 oa l) (z : l.length ≤ 1000000) => clone_es oa l c w5 q z)
  have hdl : (s'.tr.drop s.tr.length).length = j := by rw [List.length_drop, hlen]; omega
  have CEs := hide (CE.out (s'.tr.drop s.tr.length) _ (tc5 - s.tr.length) ES.out (by omega))
  rw [hdl] at CEs
  have T5s := T5.out.size
  rw [hlen] at y5 hcap
  have hsub : s'.tr.length - s.tr.length = j := by omega
  clear h5 y13 ES CE
  generalize hk : s.tr.length = k at y5 hcap CEs hlt
  go_wp2_with fail
  refine CEs.out.mono ?_
  rintro r w6 ⟨ob, d, rfl, es6, -, b6⟩
  obtain ⟨col6, h6, t6, -⟩ := H5.out.lw.below b6
  have H6 := hide h6
  have T6 := hide (T5.out.trans t6)
  have E6 := hide es6
  clear h6 t6 es6 b6 CEs
  go_wp2_with fail
  go_ret
  exact ⟨ob, d, by (rw [hsub]) <;> rfl, by rw [hk]; exact E6.out, col6, H6.out, T6.out⟩
theorem step_any (L : Nat) (col : Nat → Nat) (sc : Sh.Sc) (n : Nat) (s : Lm) (w : World) (h : LW w col L s) (hs : Sh.schk sc = 0) (i : Inv sc n s) (hv : verd s = 0) :
 Calls Tryz.prog 14 #[.pointer (some ⟨L, 0, none⟩)] w fun r w' => ∃ ob d, r = .returned (.slice ob ((stepF s).tr.length - s.tr.length) d) ∧ EsAt w' ob ((stepF s).tr.drop s.tr.length) ∧ ∃ col', LW w' col' L (stepF s) ∧ Tr col col' w w' := by
 have hn := i.n200 hs
 have hk := kn_le hn
 have ok := i.ok hs
 obtain ⟨h1, h2, h3, h4, h5, h6, h7⟩ := schk_ok hs
 have hl : s.p.length ≤ 1000 ∧ s.d.length ≤ 1000 := by
  have := i.dl
  rw [i.p, List.length_drop]
  omega
 have i2 := i.step hs hv
 have hn2 := i2.n200 hs
 have hk2 := kn_le hn2
 have hb := i2.b.bw.tn
 by_cases ht : nth s.p 0 = -1
 ·have e : stepF s = tellS { s with p := s.p.tail } (bareE 13 (-1)) := by
   unfold stepF
   rw [if_neg (by omega), if_pos ht]
  exact step_comp L col s _ w h ok (by omega) hv hl ht _ e
 ·have e : stepF s = doF { s with p := s.p.tail } (whoN s) (opOf s (whoN s)) := by
   unfold stepF
   rw [if_neg (by omega), if_neg ht]
  have ht0 : 0 ≤ nth s.p 0 := by
   have hpl : 0 < s.p.length := by
    rcases Nat.eq_zero_or_pos s.p.length with z | z
    ·exfalso
     unfold verd at hv
     rw [if_pos z] at hv
     split at hv
     ·omega
     ·split at hv <;> omega
    ·exact z
   have hm : nth s.p 0 ∈ sc.pl := by
    rw [nth_lt _ _ hpl]
    have hsub : ∀ x ∈ s.p, x ∈ sc.pl := fun x hx => by
     rw [i.p] at hx
     exact List.mem_of_mem_drop hx
    exact hsub _ (List.getElem_mem hpl)
   have := h6 _ hm
   omega
  obtain ⟨k, y, hwk, hky, hy0⟩ := who_ok hv ht0
  have hg : Cr.one0 (Cr.gt s.cr (whoN s)) = y := by
   rw [hwk, Cr.gt_nat, hky]
   rfl
  have hym := List.mem_of_getElem? hky
  have hyp := i.b.cp y hym
  have hyq := i.b.bw.cb y hym
  refine step_op L col s _ y.p.toNat y.q.toNat sc.ps.length w h ok (by omega) hv hl ht (by rw [hg]; omega) (by rw [hg]; omega) (by rw [i.ps]; omega) (fun x hx o ho => ?_) (op_chk hs i _) (by rw [hwk]; omega) _ e (by omega)
  rw [i.ps] at hx
  obtain ⟨a, ha⟩ := List.getElem?_of_mem hx
  obtain ⟨b, hb⟩ := List.getElem?_of_mem ho
  exact (op_ok (Sh.ari_of h5 ha hb)).2.2.1
end Lo
end Go.Proofs.YtkkgbeaaekmhfaaGreat
namespace Go.Proofs.YtkkgbeaaekmhfaaGreat
open Go.ChangeShapes Go.WideShapes Go.ChangeAt Go.RowKit
open Go.Shelf
namespace Sh
open De Ba Re
structure BK (b : Nat) (w w' : World) : Prop where
 bel : Below b w w'
 oth : Lib.OthersKept 5 (some b) w w'
theorem BK.refl (b : Nat) (w : World) : BK b w w := ⟨Below.refl _ _, Lib.OthersKept.refl _ _ _⟩
theorem BK.trans {b : Nat} {a c d : World} (h : BK b a c) (k : BK b c d) : BK b a d := ⟨h.bel.trans k.bel, h.oth.trans k.oth⟩
theorem BK.of {b : Nat} {a c : World} (h : Below a.heap.size a c) (hb : b ≤ a.heap.size) : BK b a c := ⟨h.mono hb, fun _ _ hk _ _ => heap_below hk h⟩
theorem strCells_append (s t : ByteArray) : Lib.strCells (s ++ t) = Lib.strCells s ++ Lib.strCells t := by
 simp [Lib.strCells]
end Sh
end Go.Proofs.YtkkgbeaaekmhfaaGreat
namespace Go.Proofs.YtkkgbeaaekmhfaaGreat
open Go.ChangeShapes Go.WideShapes Go.ChangeAt Go.RowKit
namespace Sh
open De Ba Re
set_option maxRecDepth 100000 in
set_option maxHeartbeats 800000 in
theorem copied_int (oa : Option Addr) (l : List Int) (c : Nat) (w : World) (hA : At w oa l) (hl : l.length ≤ 1000000) :
 Calls Tryz.prog 53 #[.slice oa l.length c] w fun r w' => r = .returned (.slice (some ⟨w.heap.size, 0, none⟩) l.length l.length) ∧ w' = w.alloc (.cells (row l) 3) := by
 obtain ⟨i0, hi, hz0, hz1, hz2⟩ := info_parts Ba.info_int
 have hm := run_mkG Tryz.underlying23 hi hz0 w l.length (by rw [hz2]; omega) (by omega)
 have hcp := run_cpG (z := .int .i64 0) Tryz.underlying23 hi 3 w oa l.length c (l.map (Value.int .i64)) (by rw [hz1]; simp) (at_cs hA) (fun v hv => by
  obtain ⟨x, _, rfl⟩ := List.mem_map.1 hv
  rfl) (by rw [hz1]; decide)
 generalize madeCells (Value.cells (.int .i64 0)) (l.length * i0.size) = MC at hm hcp
 have hrow : (l.map (Value.int .i64)).toArray = row l := rfl
 rw [hrow] at hcp
 clear hA hrow
 go_enter Tryz.func53, Tryz.ntmps53
 go_wp2_with fail
 go_ret
 exact ⟨rfl, rfl⟩
def mv (d : Int) (l : List Int) : List Int := l.map (· + d)
theorem mv_len (d : Int) (l : List Int) : (mv d l).length = l.length := by simp [mv]
theorem nth_mv (d : Int) (l : List Int) (k : Nat) (h : k < l.length) : nth (mv d l) k = nth l k + d := by
 rw [nth_lt _ k (by rw [mv_len]; exact h), nth_lt l k h]
 simp [mv]
theorem row_mv_step (d : Int) (l : List Int) (k : Nat) (h : k < l.length) : (row ((mv d l).take k ++ l.drop k)).setIfInBounds k (.int .i64 (nth l k + d)) = row ((mv d l).take (k + 1) ++ l.drop (k + 1)) := by
 apply Array.toList_inj.1
 rw [Array.toList_setIfInBounds]
 simp only [row]
 apply List.ext_getElem?
 intro j
 rw [List.getElem?_set]
 have hk : k < (mv d l).length := by rw [mv_len]; exact h
 by_cases e : k = j
 ·subst e
  rw [if_pos rfl, if_pos (by simp; omega)]
  rw [List.getElem?_map, List.getElem?_append_left (by simp; omega), List.getElem?_take, if_pos (by omega), List.getElem?_eq_getElem hk]
  simp only [Option.map_some]
  rw [← nth_lt _ k hk, nth_mv d l k h]
 ·rw [if_neg e, List.getElem?_map, List.getElem?_map]
  congr 1
  by_cases hj : j < k
  ·rw [List.getElem?_append_left (by simp; omega), List.getElem?_append_left (by simp; omega), List.getElem?_take, List.getElem?_take, if_pos hj, if_pos (by omega)]
  ·rw [List.getElem?_append_right (by simp; omega), List.getElem?_append_right (by simp; omega), List.getElem?_drop, List.getElem?_drop]
   congr 1
   simp
   omega
theorem pls_cat (l m : List Int) : De.pls (l ++ m) = De.pls l ++ De.pls m := by simp [De.pls]
end Sh
end Go.Proofs.YtkkgbeaaekmhfaaGreat
namespace Go.Proofs.YtkkgbeaaekmhfaaGreat
open Go.ChangeShapes Go.WideShapes Go.ChangeAt Go.RowKit
namespace Sh
open De Ba Re
def eop (o : OpD) : List Nat := De.pls (nums o)
def epr (p : List OpD) : List Nat := spl p.length ++ p.flatMap eop
def eps (ps : List (List OpD)) : List Nat := ps.flatMap epr
def sen (s : Sc) : List Nat := De.pls [s.T, s.M, (s.ps.length : Int)] ++ eps s.ps ++ plist (mv 1 s.pl) ++ plist s.dr
theorem sen_is {T M : Int} {ps : List (List OpD)} {pl dr : List Int} {L0 : List Nat} (h : De.pls [T, M, (ps.length : Int)] = L0) : sen ⟨T, M, ps, pl, dr⟩ = L0 ++ eps ps ++ plist (mv 1 pl) ++ plist dr := by
 subst h
 rfl
theorem flat_len_le {α : Type} (f : α → List Nat) (m : Nat) (l : List α) (h : ∀ x ∈ l, (f x).length ≤ m) : (l.flatMap f).length ≤ m * l.length := by
 induction l with
 | nil => simp
 | cons x t ih =>
   have h1 := h x (by simp)
   have h2 := ih fun y hy => h y (by simp [hy])
   rw [List.flatMap_cons, List.length_append, List.length_cons, Nat.mul_add, Nat.mul_one]
   omega
theorem flat_take {α : Type} (f : α → List Nat) (l : List α) (k : Nat) (x : α) (h : l[k]? = some x) : (l.take (k + 1)).flatMap f = (l.take k).flatMap f ++ f x := by
 rw [List.take_add_one, h, List.flatMap_append]
 simp
theorem schk_zero {s : Sc} (h : schk s = 0) : (1 ≤ s.T ∧ s.T ≤ 256) ∧ (1 ≤ s.M ∧ s.M ≤ 1048576) ∧ (∀ q ∈ s.ps, q.length ≤ 32) ∧ s.ps.length ≤ 8 ∧ s.pl.length ≤ 200 ∧ s.dr.length ≤ 64 ∧ 0 < s.ps.length ∧ ari s.ps.length s.ps = true ∧ ab (-1) 1000 s.pl = true ∧ ab 0 1000 s.dr = true := by
 unfold schk at h
 cases e1 : ((decide (1 ≤ s.T) && decide (s.T ≤ 256)) && (decide (1 ≤ s.M) && decide (s.M ≤ 1048576)))
 ·rw [e1] at h; simp at h
 cases e2 : isl s.ps s.pl.length s.dr.length
 rotate_left
 ·rw [e1, e2] at h; simp at h
 cases e3 : (!decide (s.ps.length = 0) && ari s.ps.length s.ps)
 ·rw [e1, e2, e3] at h; simp at h
 cases e4 : (ab (-1) 1000 s.pl && ab 0 1000 s.dr)
 ·rw [e1, e2, e3, e4] at h; simp at h
 rw [Bool.and_eq_true, Bool.and_eq_true, Bool.and_eq_true] at e1
 rw [Bool.and_eq_true] at e3 e4
 rw [isl, Bool.or_eq_false_iff, Bool.or_eq_false_iff, Bool.or_eq_false_iff, List.any_eq_false] at e2
 obtain ⟨⟨a1, a2⟩, a3, a4⟩ := e1
 obtain ⟨b1, ⟨b2, b3⟩, b4⟩ := e2
 obtain ⟨c1, c2⟩ := e3
 simp at a1 a2 a3 a4 b2 b3 b4 c1
 exact ⟨⟨a1, a2⟩, ⟨a3, a4⟩, fun q hq => by have := b1 q hq; simp at this; exact this, b2, b3, b4, by
  cases hps : s.ps with
  | nil => rw [hps] at c1; simp at c1
  | cons x t => simp, c2, e4.1, e4.2⟩
theorem eop_len (o : OpD) (h : o.cases.length ≤ 4) : (eop o).length ≤ 700 := by
 have h1 := De.pls_len (nums o)
 have h2 := nums_len o h
 unfold eop
 omega
theorem ari_mem {n : Int} {ps : List (List OpD)} (h : ari n ps = true) {q : List OpD} (hq : q ∈ ps) {o : OpD} (ho : o ∈ q) : chk o n = 0 := by
 obtain ⟨k, hk⟩ := List.mem_iff_getElem?.1 hq
 obtain ⟨j, hj⟩ := List.mem_iff_getElem?.1 ho
 exact ari_of h hk hj
theorem ops_len {n : Int} {ps : List (List OpD)} (h : ari n ps = true) {q : List OpD} (hq : q ∈ ps) (h32 : q.length ≤ 32) (j : Nat) : ((q.take j).flatMap eop).length ≤ 22400 := by
 have := flat_len_le eop 700 (q.take j) fun o ho => eop_len o (chk_zero (ari_mem h hq (List.mem_of_mem_take ho))).2.2.1
 have h2 : (q.take j).length ≤ 32 := by rw [List.length_take]; omega
 omega
theorem eps_len {n : Int} {ps : List (List OpD)} (h : ari n ps = true) (h32 : ∀ q ∈ ps, q.length ≤ 32) (h8 : ps.length ≤ 8) (k : Nat) : (eps (ps.take k)).length ≤ 180000 := by
 have := flat_len_le epr 22407 (ps.take k) fun q hq => by
  have h1 := ops_len h (List.mem_of_mem_take hq) (h32 q (List.mem_of_mem_take hq)) q.length
  rw [List.take_length] at h1
  have h2 := (spl_len q.length).2
  rw [epr, List.length_append]
  omega
 have h2 : (ps.take k).length ≤ 8 := by rw [List.length_take]; omega
 show ((ps.take k).flatMap epr).length ≤ _
 omega
theorem plist_len (l : List Int) (n : Nat) (h : l.length ≤ n) : (plist l).length ≤ 7 + 7 * n := by
 have h1 := Re.pls_len l
 have h2 := (spl_len l.length).2
 rw [plist, List.length_append]
 omega
theorem ab_okR {lo hi : Int} {l : List Int} (h : ab lo hi l = true) (h0 : 0 ≤ lo) (h1 : hi ≤ 1099511627776) : l.all okR = true := by
 rw [List.all_eq_true]
 intro x hx
 have := (ab_iff lo hi l).1 h x hx
 rw [okR_iff]
 omega
theorem mv_okR {l : List Int} (h : ab (-1) 1000 l = true) : (mv 1 l).all okR = true := by
 rw [List.all_eq_true]
 intro x hx
 rw [mv, List.mem_map] at hx
 obtain ⟨y, hy, rfl⟩ := hx
 have := (ab_iff (-1) 1000 l).1 h y hy
 rw [okR_iff]
 omega
end Sh
end Go.Proofs.YtkkgbeaaekmhfaaGreat
namespace Go.Proofs.YtkkgbeaaekmhfaaGreat
open Go.ChangeShapes Go.WideShapes Go.ChangeAt Go.RowKit
namespace Sh
open De Ba Re
def up1 (m : Int) (L : List Nat) : Option (Nat × Nat) := match tk L with
 | none => none
 | some (n, k) => if (n : Int) ≤ m then some (n, k) else none
def ul (s : ByteArray) : List Int → Nat → Bool → List Int × Nat × Bool
 | [], z, f => ([], z, f)
 | m :: t, z, f => match f, up1 m ((nbs s).drop z) with
   | false, some (n, k) => ((n : Int) :: (ul s t (z + k) false).1, (ul s t (z + k) false).2)
   | _, _ => (List.replicate (t.length + 1) 0, z, true)
theorem ul_len (s : ByteArray) (l : List Int) (z : Nat) (f : Bool) : (ul s l z f).1.length = l.length := by
 induction l generalizing z f with
 | nil => rfl
 | cons m t ih =>
   unfold ul
   split
   ·simp [ih]
   ·simp
theorem ul_t (s : ByteArray) (l : List Int) (z : Nat) (h : l ≠ []) : ul s l z true = (List.replicate l.length 0, z, true) := by
 cases l with
 | nil => exact absurd rfl h
 | cons m t => simp [ul]
theorem ul_n (s : ByteArray) (m : Int) (t : List Int) (z : Nat) (f : Bool) (h : up1 m ((nbs s).drop z) = none) : ul s (m :: t) z f = (List.replicate (t.length + 1) 0, z, true) := by
 cases f <;> simp [ul, h]
theorem ul_s (s : ByteArray) (m : Int) (t : List Int) (z n k : Nat) (h : up1 m ((nbs s).drop z) = some (n, k)) : ul s (m :: t) z false = ((n : Int) :: (ul s t (z + k) false).1, (ul s t (z + k) false).2) := by
 simp [ul, h]
theorem kb_at {R : Nat} {w w' : World} {oa : Option Addr} {l : List Int} (k : De.KB R w w') (h : At w oa l) (hb : ∀ a, oa = some a → a.block ≠ R) : At w' oa l := by
 intro j hj
 obtain ⟨b, off, rfl, hc⟩ := h j hj
 exact ⟨b, off, rfl, kb_cell k hc (hb _ rfl)⟩
theorem up1_n {m : Int} {L : List Nat} (h : tk L = none) : up1 m L = none := by simp [up1, h]
theorem up1_b {m : Int} {L : List Nat} {n k : Nat} (h : tk L = some (n, k)) (hb : m < (n : Int)) : up1 m L = none := by
 simp only [up1, h]
 rw [if_neg (by omega)]
theorem up1_s {m : Int} {L : List Nat} {n k : Nat} (h : tk L = some (n, k)) (hb : (n : Int) ≤ m) : up1 m L = some (n, k) := by
 simp only [up1, h]
 rw [if_pos hb]
theorem set_mid (V : List Int) (n : Nat) (x : Int) (k : Nat) (h : V.length = k) : (V ++ List.replicate (n + 1) 0).set k x = (V ++ [x]) ++ List.replicate n 0 := by
 subst h
 rw [List.replicate_succ, List.set_append_right _ _ (Nat.le_refl _), Nat.sub_self, List.set_cons_zero, List.append_assoc]
 rfl
theorem sfx2 (s : ByteArray) (a b : Nat) : (s.extract a s.size).extract b (s.size - a) = s.extract (a + b) s.size := by
 rw [← sfx_sfx]
 congr 1
 simp [ByteArray.size_extract]
theorem row_set (l : List Int) (k : Nat) (x : Int) : (row l).setIfInBounds k (.int .i64 x) = row (l.set k x) := by
 apply Array.toList_inj.1
 simp [row, List.map_set]
end Sh
end Go.Proofs.YtkkgbeaaekmhfaaGreat
namespace Go.Proofs.YtkkgbeaaekmhfaaGreat
open Go.ChangeShapes Go.WideShapes Go.ChangeAt Go.RowKit
namespace Sh
open De Ba Re
theorem tl_err {L : List Nat} {m e : Int} (h : tl L m = .error e) : e = 4 ∨ e = 2 := by
 unfold tl at h
 split at h
 ·simp at h; exact .inl h.symm
 ·split at h
  ·simp at h; exact .inr h.symm
  ·split at h
   ·simp at h; exact .inl h.symm
   ·simp at h
theorem sx_size (s : ByteArray) (z : Nat) (hs : s.size ≤ 5000000) : (s.extract z s.size).size ≤ 5000000 := by
 rw [ByteArray.size_extract]
 omega
def dop (p : Int) (S : ByteArray) : Option (OpD × Nat) := if (rop S false).2.2 = false ∧ chk (rop S false).1 p = 0 then some ((rop S false).1, (eop (rop S false).1).length) else none
def rops (p : Int) (s : ByteArray) (z : Nat) : Nat → Option (List OpD × Nat)
 | 0 => some ([], z)
 | n + 1 => match rops p s z n with
   | none => none
   | some (l, y) => match dop p (s.extract y s.size) with
     | none => none
     | some (o, k) => some (l ++ [o], y + k)
theorem rops_stop {p : Int} {s : ByteArray} {z j : Nat} {l : List OpD} {y : Nat} (h : rops p s z j = some (l, y)) (hd : dop p (s.extract y s.size) = none) : ∀ n, j < n → rops p s z n = none := by
 intro n hn
 obtain ⟨d, rfl⟩ : ∃ d, n = j + 1 + d := ⟨n - (j + 1), by omega⟩
 clear hn
 induction d with
 | zero => simp [rops, h, hd]
 | succ d ih => rw [← Nat.add_assoc, rops, ih]
theorem rops_next {p : Int} {s : ByteArray} {z j : Nat} {l : List OpD} {y : Nat} {o : OpD} {k : Nat} (h : rops p s z j = some (l, y)) (hd : dop p (s.extract y s.size) = some (o, k)) : rops p s z (j + 1) = some (l ++ [o], y + k) := by
 simp [rops, h, hd]
theorem rops_len {p : Int} {s : ByteArray} {z j : Nat} {l : List OpD} {y : Nat} (h : rops p s z j = some (l, y)) : l.length = j := by
 induction j generalizing l y with
 | zero => simp [rops] at h; simp [h.1.symm]
 | succ j ih =>
   unfold rops at h
   split at h
   ·cases h
   ·rename_i l' y' h'
    split at h
    ·cases h
    ·simp at h
     rw [← h.1]
     simp [ih h']
theorem dop_rest {p : Int} {s : ByteArray} {z : Nat} {o : OpD} {k : Nat} (hz : z ≤ s.size) (h : dop p (s.extract z s.size) = some (o, k)) : (rop (s.extract z s.size) false).2.1 = s.extract (z + k) s.size ∧ z + k ≤ s.size ∧ (rop (s.extract z s.size) false).1 = o ∧ chk o p = 0 ∧ (rop (s.extract z s.size) false).2.2 = false := by
 unfold dop at h
 split at h
 ·rename_i hc
  obtain ⟨h1, h2⟩ := hc
  generalize hr : rop (s.extract z s.size) false = x at h h1 h2
  obtain ⟨o', R, f⟩ := x
  simp only at h h1 h2
  subst h1
  simp at h
  obtain ⟨rfl, rfl⟩ := h
  have inv := rop_inv hr
  rw [nbs_sfx] at inv
  have hlen := congrArg List.length inv
  rw [List.length_drop, nbs_length, List.length_append] at hlen
  have he : (eop o').length = (De.pls (nums o')).length := rfl
  refine ⟨?_, by omega, rfl, h2, rfl⟩
  apply nbs_inj
  rw [nbs_sfx, ← List.drop_drop, inv, eop, List.drop_left]
 ·cases h
theorem cat_kb {R : Nat} {w w' : World} {oa : Option Addr} {l : List Cs} (k : De.KB R w w') (h : CAt w oa l) (hb : ∀ a, oa = some a → a.block ≠ R) : CAt w' oa l := by
 intro j x hj
 obtain ⟨b, off, rfl, h1, h2, h3⟩ := h j x hj
 exact ⟨b, off, rfl, kb_cell k h1 (hb _ rfl), kb_cell k h2 (hb _ rfl), kb_cell k h3 (hb _ rfl)⟩
def OF (w : World) (N g : Nat) (l : List OpD) : Prop :=
 ∀ t o, l[t]? = some o → ∃ ca cc, (w.cell? ⟨g, t * 5, none⟩ = some (.int .i64 o.kind) ∧ w.cell? ⟨g, t * 5 + 1, none⟩ = some (.int .i64 o.a) ∧ w.cell? ⟨g, t * 5 + 2, none⟩ = some (.int .i64 o.b) ∧ w.cell? ⟨g, t * 5 + 3, none⟩ = some (.slice ca o.cases.length cc) ∧ w.cell? ⟨g, t * 5 + 4, none⟩ = some (.bool o.def_)) ∧ CAt w ca o.cases ∧ (∀ a, ca = some a → N ≤ a.block) ∧ o.cases.length ≤ 3000
def OR (w : World) (g n : Nat) : Prop := (∀ c, c < n * 5 → (w.cell? ⟨g, c, none⟩).isSome = true) ∧ ∀ c, w.frozen? ⟨g, c, none⟩ = false
theorem OF.kb {w w' : World} {N g R : Nat} {l : List OpD} (h : OF w N g l) (k : De.KB R w w') (h1 : R < N) (h2 : g ≠ R) : OF w' N g l := by
 intro t o ht
 obtain ⟨ca, cc, ⟨q0, q1, q2, q3, q4⟩, hC, hN, hl⟩ := h t o ht
 exact ⟨ca, cc, ⟨kb_cell k q0 h2, kb_cell k q1 h2, kb_cell k q2 h2, kb_cell k q3 h2, kb_cell k q4 h2⟩, cat_kb k hC (fun a e => by have := hN a e; omega), hN, hl⟩
theorem OR.kb {w w' : World} {g n R : Nat} (h : OR w g n) (k : De.KB R w w') (hg : g < w.heap.size) (h2 : g ≠ R) : OR w' g n := by
 have hb := k.block g hg h2
 refine ⟨fun c hc => ?_, fun c => ?_⟩
 ·have := h.1 c hc
  rw [World.cell?] at this ⊢
  rw [hb]
  exact this
 ·have := h.2 c
  rw [World.frozen?] at this ⊢
  rw [hb]
  exact this
theorem OF.at {w : World} {N g : Nat} {l : List OpD} (h : OF w N g l) : OAt w (some ⟨g, 0, none⟩) l := by
 intro k o hk
 obtain ⟨ca, cc, ⟨q0, q1, q2, q3, q4⟩, hC, _, hl⟩ := h k o hk
 refine ⟨g, 0, ca, cc, rfl, ⟨?_, ?_, ?_, ?_, ?_⟩, hC, by unfold maxLen; omega⟩ <;> rw [Nat.zero_add] <;> assumption
theorem OF.store {w : World} {N g n j : Nat} {l : List OpD} (h : OF w N g l) (hr : OR w g n) (hg : g < N) (hl : l.length = j) (hj : j < n) (o : OpD) (ca : Option Addr) (cc : Nat) (hC : CAt w ca o.cases) (hN : ∀ a, ca = some a → N ≤ a.block) (h4 : o.cases.length ≤ 3000) (w' : World) (hw : w' = w.setCells g (j * 5) [.int .i64 o.kind, .int .i64 o.a, .int .i64 o.b, .slice ca o.cases.length cc, .bool o.def_]) : OF w' N g (l ++ [o]) ∧ OR w' g n := by
 subst hw
 have cin := World.cell?_setCells_in g [.int .i64 o.kind, .int .i64 o.a, .int .i64 o.b, .slice ca o.cases.length cc, .bool o.def_] (j * 5) w (fun i hi => hr.1 _ (by simp at hi; omega))
 have cout : ∀ x : Addr, (x.block = g → x.spot = none → x.off < j * 5 ∨ j * 5 + 5 ≤ x.off) → (w.setCells g (j * 5) [.int .i64 o.kind, .int .i64 o.a, .int .i64 o.b, .slice ca o.cases.length cc, .bool o.def_]).cell? x = w.cell? x := World.cell?_setCells_out g [.int .i64 o.kind, .int .i64 o.a, .int .i64 o.b, .slice ca o.cases.length cc, .bool o.def_] (j * 5) w
 have cat : ∀ (ca' : Option Addr) (cs : List Cs), CAt w ca' cs → (∀ a, ca' = some a → N ≤ a.block) → CAt (w.setCells g (j * 5) [.int .i64 o.kind, .int .i64 o.a, .int .i64 o.b, .slice ca o.cases.length cc, .bool o.def_]) ca' cs := by
  intro ca' cs hc hn i x hi
  obtain ⟨b, off, rfl, h1, h2, h3⟩ := hc i x hi
  have hb := hn _ rfl
  simp only at hb
  refine ⟨b, off, rfl, ?_, ?_, ?_⟩ <;> (rw [cout]; assumption; intro e; simp only at e; omega)
 refine ⟨?_, ?_, ?_⟩
 ·intro t x ht
  by_cases e : t < l.length
  ·rw [List.getElem?_append_left e] at ht
   obtain ⟨ca', cc', ⟨q0, q1, q2, q3, q4⟩, hC', hN', hl'⟩ := h t x ht
   refine ⟨ca', cc', ⟨?_, ?_, ?_, ?_, ?_⟩, cat _ _ hC' hN', hN', hl'⟩ <;> (rw [cout]; assumption; intro _ _; simp only; omega)
  ·have ht2 : t = j := by
    have := (List.getElem?_eq_some_iff.1 ht).1
    rw [List.length_append, List.length_cons, List.length_nil] at this
    omega
   subst ht2
   rw [List.getElem?_append_right (by omega), hl, Nat.sub_self] at ht
   simp at ht
   subst ht
   refine ⟨ca, cc, ⟨?_, ?_, ?_, ?_, ?_⟩, cat _ _ hC hN, hN, h4⟩
   ·exact cin 0 (by simp)
   ·exact cin 1 (by simp)
   ·exact cin 2 (by simp)
   ·exact cin 3 (by simp)
   ·exact cin 4 (by simp)
 ·intro c hc
  by_cases e : c < j * 5 ∨ j * 5 + 5 ≤ c
  ·rw [cout _ (fun _ _ => e)]
   exact hr.1 c hc
  ·have := cin (c - j * 5) (by simp; omega)
   rw [show j * 5 + (c - j * 5) = c by omega] at this
   rw [this]
   rfl
 ·intro c
  rw [World.frozen?_setCells]
  exact hr.2 c
end Sh
end Go.Proofs.YtkkgbeaaekmhfaaGreat
namespace Go.Proofs.YtkkgbeaaekmhfaaGreat
open Go.ChangeShapes Go.WideShapes Go.ChangeAt Go.RowKit
namespace Sh
open De Ba Re
theorem info_op : (Tryz.prog.info? 48).map (fun i => (i.zero, i.size, i.bytes)) = some (some (.agg #[.int .i64 0, .int .i64 0, .int .i64 0, .slice none 0 0, .bool false]), 5, 56) := by kernel_rfl
theorem OR.new (w : World) (n : Nat) (MC : Array Value) (t : TypeId) (h : MC.size = n * 5) : OR (w.alloc (.cells MC t)) w.heap.size n := by
 have hh := heap_new w (.cells MC t)
 refine ⟨fun c hc => ?_, fun c => frozen_of hh c⟩
 rw [cell_of hh, Array.getElem?_eq_getElem (by omega)]
 rfl
def rprog (p : Int) (s : ByteArray) (z : Nat) : Option (List OpD × Nat) := match up1 32 ((nbs s).drop z) with
 | none => none
 | some (n, k) => rops p s (z + k) n
end Sh
end Go.Proofs.YtkkgbeaaekmhfaaGreat
namespace Go.Proofs.YtkkgbeaaekmhfaaGreat
open Go.ChangeShapes Go.WideShapes Go.ChangeAt Go.RowKit
namespace Sh
open De Ba Re
def rprogs (p : Int) (s : ByteArray) (z : Nat) : Nat → Option (List (List OpD) × Nat)
 | 0 => some ([], z)
 | n + 1 => match rprogs p s z n with
   | none => none
   | some (l, y) => match rprog p s y with
     | none => none
     | some (q, y') => some (l ++ [q], y')
theorem rprogs_stop {p : Int} {s : ByteArray} {z j : Nat} {l : List (List OpD)} {y : Nat} (h : rprogs p s z j = some (l, y)) (hd : rprog p s y = none) : ∀ n, j < n → rprogs p s z n = none := by
 intro n hn
 obtain ⟨d, rfl⟩ : ∃ d, n = j + 1 + d := ⟨n - (j + 1), by omega⟩
 clear hn
 induction d with
 | zero => simp [rprogs, h, hd]
 | succ d ih => rw [← Nat.add_assoc, rprogs, ih]
theorem rprogs_next {p : Int} {s : ByteArray} {z j : Nat} {l : List (List OpD)} {y y' : Nat} {q : List OpD} (h : rprogs p s z j = some (l, y)) (hd : rprog p s y = some (q, y')) : rprogs p s z (j + 1) = some (l ++ [q], y') := by
 simp [rprogs, h, hd]
theorem rprogs_len {p : Int} {s : ByteArray} {z j : Nat} {l : List (List OpD)} {y : Nat} (h : rprogs p s z j = some (l, y)) : l.length = j := by
 induction j generalizing l y with
 | zero => simp [rprogs] at h; simp [h.1.symm]
 | succ j ih =>
   unfold rprogs at h
   split at h
   ·cases h
   ·rename_i l' y' h'
    split at h
    ·cases h
    ·simp at h
     rw [← h.1]
     simp [ih h']
def shead (s : ByteArray) : Option (Nat × Nat × Nat × Nat) := match up1 256 (nbs s) with
 | none => none
 | some (t, k1) => match up1 1048576 ((nbs s).drop k1) with
   | none => none
   | some (m, k2) => match up1 8 ((nbs s).drop (k1 + k2)) with
     | none => none
     | some (n, k3) => some (t, m, n, k1 + k2 + k3)
def sdec (s : ByteArray) : Option Sc := match shead s with
 | none => none
 | some (t, m, n, z3) => match rprogs n s z3 n with
   | none => none
   | some (ps, z) => match tl ((nbs s).drop z) 200 with
     | .error _ => none
     | .ok (xs, k5) => match tl ((nbs s).drop (z + k5)) 64 with
       | .error _ => none
       | .ok (ys, k6) => if z + k5 + k6 = s.size ∧ schk ⟨t, m, ps, mv (-1) xs, ys⟩ = 0 then some ⟨t, m, ps, mv (-1) xs, ys⟩ else none
theorem up1_le {m : Int} {L : List Nat} {n k : Nat} (h : up1 m L = some (n, k)) : (n : Int) ≤ m ∧ k ≤ L.length := by
 unfold up1 at h
 split at h
 ·cases h
 ·rename_i n' k' ht
  split at h
  ·simp at h
   obtain ⟨rfl, rfl⟩ := h
   exact ⟨by assumption, (Re.tk_le ht).2⟩
  ·cases h
theorem ul3 (s : ByteArray) : (∃ (t m : Int) (z : Nat), ul s [256, 1048576, 8] 0 false = ([t, m, 0], z, true) ∧ shead s = none) ∨ (∃ t m n z : Nat, ul s [256, 1048576, 8] 0 false = ([(t : Int), (m : Int), (n : Int)], z, false) ∧ shead s = some (t, m, n, z) ∧ n ≤ 8) := by
 cases h1 : up1 256 (nbs s) with
 | none => exact .inl ⟨0, 0, 0, by rw [ul_n s 256 [1048576, 8] 0 false (by rw [List.drop_zero]; exact h1)]; rfl, by simp [shead, h1]⟩
 | some q1 =>
   obtain ⟨t, k1⟩ := q1
   have e1 := ul_s s 256 [1048576, 8] 0 t k1 (by rw [List.drop_zero]; exact h1)
   rw [Nat.zero_add] at e1
   cases h2 : up1 1048576 ((nbs s).drop k1) with
   | none =>
     have e2 := ul_n s 1048576 [8] k1 false h2
     exact .inl ⟨(t : Int), 0, k1, by rw [e1, e2]; rfl, by simp [shead, h1, h2]⟩
   | some q2 =>
     obtain ⟨m, k2⟩ := q2
     have e2 := ul_s s 1048576 [8] k1 m k2 h2
     cases h3 : up1 8 ((nbs s).drop (k1 + k2)) with
     | none =>
       have e3 := ul_n s 8 [] (k1 + k2) false h3
       exact .inl ⟨(t : Int), (m : Int), k1 + k2, by rw [e1, e2, e3]; rfl, by simp [shead, h1, h2, h3]⟩
     | some q3 =>
       obtain ⟨n, k3⟩ := q3
       have e3 := ul_s s 8 [] (k1 + k2) n k3 h3
       exact .inr ⟨t, m, n, k1 + k2 + k3, by rw [e1, e2, e3]; rfl, by simp [shead, h1, h2, h3], by have := (up1_le h3).1; omega⟩
theorem info_pr : (Tryz.prog.info? 45).map (fun i => (i.zero, i.size, i.bytes)) = some (some (.slice none 0 0), 1, 24) := by kernel_rfl
theorem sx0' (s : ByteArray) : s.extract 0 s.size = s := nbs_inj (by rw [nbs_sfx]; rfl)
def PF (w : World) (N : Nat) (arr : Array Value) (ps : List (List OpD)) : Prop :=
 ∀ (t : Nat) (q : List OpD), ps[t]? = some q → ∃ (g c : Nat), arr[t]? = some (.slice (some ⟨g, 0, none⟩) q.length c) ∧ OF w (g + 1) g q ∧ N ≤ g ∧ q.length ≤ 1000
theorem PF.kb {w w' : World} {N R : Nat} {arr : Array Value} {ps : List (List OpD)} (h : PF w N arr ps) (k : De.KB R w w') (hR : R < N) : PF w' N arr ps := by
 intro t q ht
 obtain ⟨g, c, h1, h2, h3, h4⟩ := h t q ht
 exact ⟨g, c, h1, h2.kb k (by omega) (by omega), h3, h4⟩
theorem PF.store {w : World} {N : Nat} {arr : Array Value} {ps : List (List OpD)} (h : PF w N arr ps) (k : Nat) (hk : ps.length = k) (hs : k < arr.size) (g c : Nat) (q : List OpD) (hq : OF w (g + 1) g q) (hN : N ≤ g) (h32 : q.length ≤ 1000) : PF w N (arr.setIfInBounds k (.slice (some ⟨g, 0, none⟩) q.length c)) (ps ++ [q]) := by
 intro t x ht
 by_cases e : t < ps.length
 ·rw [List.getElem?_append_left e] at ht
  obtain ⟨g', c', h1, h2, h3, h4⟩ := h t x ht
  exact ⟨g', c', by rw [Array.getElem?_setIfInBounds_ne (by omega)]; exact h1, h2, h3, h4⟩
 ·have hl := (List.getElem?_eq_some_iff.1 ht).1
  rw [List.length_append, List.length_cons, List.length_nil] at hl
  have : t = k := by omega
  subst this
  rw [List.getElem?_append_right (by omega), hk, Nat.sub_self] at ht
  simp at ht
  subst ht
  exact ⟨g, c, by rw [Array.getElem?_setIfInBounds_self_of_lt hs], hq, hN, h32⟩
theorem PF.at {w : World} {N G : Nat} {arr : Array Value} {ps : List (List OpD)} {t : TypeId} (h : PF w N arr ps) (hg : w.heap[G]? = some (.cells arr t (0, 0))) : PAt w (some ⟨G, 0, none⟩) ps := by
 intro k q hk
 obtain ⟨g, c, h1, h2, _, h4⟩ := h k q hk
 exact ⟨G, 0, _, _, rfl, by rw [Nat.zero_add, cell_of hg]; exact h1, h2.at, by unfold maxLen; omega⟩
def HD (s : ByteArray) (T M : Int) (n z : Nat) (f : Bool) : Prop := (f = true ∧ sdec s = none) ∨ (f = false ∧ ∃ t m : Nat, T = t ∧ M = m ∧ shead s = some (t, m, n, z))
def LP (s : ByteArray) (T M : Int) (n z k y : Nat) (f : Bool) (w : World) (N : Nat) (arr : Array Value) (ps : List (List OpD)) : Prop := (f = true ∧ sdec s = none) ∨ (f = false ∧ (∃ t m : Nat, T = t ∧ M = m ∧ shead s = some (t, m, n, z)) ∧ rprogs n s z k = some (ps, y) ∧ PF w N arr ps)
def DRes (s : ByteArray) (r : Ending) (w' : World) : Prop :=
 (sdec s = none ∧ r = .returned (.tuple #[.agg #[.int .i64 0, .int .i64 0, .slice none 0 0, .slice none 0 0, .slice none 0 0], .int .i64 4])) ∨
 ∃ T M ps pl dr pa la da pc lc dc, sdec s = some ⟨T, M, ps, pl, dr⟩ ∧ r = .returned (.tuple #[.agg #[.int .i64 T, .int .i64 M, .slice pa ps.length pc, .slice la pl.length lc, .slice da dr.length dc], .int .i64 0]) ∧ SAt w' ⟨T, M, ps, pl, dr⟩ pa la da
theorem tst_bd {L : List Nat} : ∀ {i : Nat} {xs : List Int} {o : Nat}, tst L i = some (xs, o) → ∀ x ∈ xs, 0 ≤ x ∧ x ≤ 1099511627776
 | 0, xs, o, h => by
   simp [tst] at h
   obtain ⟨rfl, rfl⟩ := h
   intro x hx
   cases hx
 | i + 1, xs, o, h => by
   unfold tst at h
   split at h
   ·cases h
   ·rename_i ys o' hq
    split at h
    ·cases h
    ·rename_i x k ht
     simp at h
     obtain ⟨rfl, rfl⟩ := h
     intro y hy
     rw [List.mem_append] at hy
     rcases hy with hy | hy
     ·exact tst_bd hq y hy
     ·simp at hy
      subst hy
      have := Re.tk_bound ht
      omega
theorem tl_bd {L : List Nat} {most : Int} {xs : List Int} {z : Nat} (h : tl L most = .ok (xs, z)) : (∀ x ∈ xs, 0 ≤ x ∧ x ≤ 1099511627776) ∧ (xs.length : Int) ≤ most := by
 unfold tl at h
 cases ht : tk L with
 | none => rw [ht] at h; simp at h
 | some p =>
   obtain ⟨n, k⟩ := p
   rw [ht] at h
   simp only at h
   by_cases hm : most < (n : Int)
   ·rw [if_pos hm] at h; simp at h
   ·rw [if_neg hm] at h
    cases hq : tst (L.drop k) n with
    | none => rw [hq] at h; simp at h
    | some p =>
      obtain ⟨ys, o⟩ := p
      rw [hq] at h
      simp at h
      obtain ⟨rfl, rfl⟩ := h
      have hl := (tst_some hq).1
      exact ⟨tst_bd hq, by omega⟩
theorem sx_end (s : ByteArray) (z : Nat) (h : z ≤ s.size) : (s.extract z s.size).toList.isEmpty = decide (z = s.size) := by
 rw [toList_is]
 have h1 : (s.extract z s.size).data.toList.length = s.size - z := by
  show (s.extract z s.size).size = _
  rw [ByteArray.size_extract]
  omega
 cases hl : (s.extract z s.size).data.toList with
 | nil =>
   rw [hl] at h1
   simp at h1
   simp
   omega
 | cons a t =>
   rw [hl] at h1
   simp at h1
   simp
   omega
theorem size_sc : (Tryz.prog.info? 25).map (·.size) = some 5 := by kernel_rfl
theorem loadVar_sc {w : World} {b : Nat} {c : Array Value} {t : TypeId} (h : w.heap[b]? = some (.cells c t (0, 0))) (hc : c.size = 5) : (loadVar 25 ⟨b, 0, none⟩).run Tryz.prog w = .ok (.agg c) w :=
 run_loadVar_row w b t _ _ _ _ h Tryz.underlying25 rfl (by rw [size_sc, hc])
theorem sdec_head {s : ByteArray} (h : shead s = none) : sdec s = none := by simp [sdec, h]
theorem sdec_progs {s : ByteArray} {t m n z : Nat} (h : shead s = some (t, m, n, z)) (hp : rprogs n s z n = none) : sdec s = none := by simp [sdec, h, hp]
theorem sdec_plan {s : ByteArray} {t m n z y : Nat} {ps : List (List OpD)} {e : Int} (h : shead s = some (t, m, n, z)) (hp : rprogs n s z n = some (ps, y)) (hl : tl ((nbs s).drop y) 200 = .error e) : sdec s = none := by simp [sdec, h, hp, hl]
theorem sdec_draws {s : ByteArray} {t m n z y k : Nat} {ps : List (List OpD)} {xs : List Int} {e : Int} (h : shead s = some (t, m, n, z)) (hp : rprogs n s z n = some (ps, y)) (hl : tl ((nbs s).drop y) 200 = .ok (xs, k)) (hd : tl ((nbs s).drop (y + k)) 64 = .error e) : sdec s = none := by simp [sdec, h, hp, hl, hd]
theorem sdec_end {s : ByteArray} {t m n z y k k' : Nat} {ps : List (List OpD)} {xs ys : List Int} (h : shead s = some (t, m, n, z)) (hp : rprogs n s z n = some (ps, y)) (hl : tl ((nbs s).drop y) 200 = .ok (xs, k)) (hd : tl ((nbs s).drop (y + k)) 64 = .ok (ys, k')) : sdec s = if y + k + k' = s.size ∧ schk ⟨t, m, ps, mv (-1) xs, ys⟩ = 0 then some ⟨t, m, ps, mv (-1) xs, ys⟩ else none := by simp only [sdec, h, hp, hl, hd]
theorem scheck_len (T M : Int) (ps : List (List OpD)) (pl dr : List Int) (pa la da : Option Addr) (pc lc dc n xl yl : Nat) (hn : ps.length = n) (hx : pl.length = xl) (hy : dr.length = yl) (w : World) (hS : SAt w ⟨T, M, ps, pl, dr⟩ pa la da) :
 Calls Tryz.prog 29 #[.agg #[.int .i64 T, .int .i64 M, .slice pa n pc, .slice la xl lc, .slice da yl dc]] w fun r w' => r = .returned (.int .i64 (schk ⟨T, M, ps, pl, dr⟩)) ∧ Below w.heap.size w w' := by
 subst hn hx hy
 exact scheck_any T M ps pl dr pa la da pc lc dc w hS
end Sh
end Go.Proofs.YtkkgbeaaekmhfaaGreat
namespace Go.Proofs.YtkkgbeaaekmhfaaGreat
open Go.ChangeShapes Go.WideShapes Go.ChangeAt Go.RowKit
namespace Sh
open De Ba Re
theorem cps {w : World} {oa : Option Addr} {m : Nat} (h : ∀ j, j < m → ∃ b off v, oa = some ⟨b, off, none⟩ ∧ w.cell? ⟨b, off + j, none⟩ = some v ∧ v.oneCell' = true) : ∃ cs : List Value, cs.length = m ∧ CsAt w oa cs ∧ ∀ v ∈ cs, v.oneCell' = true := by
 have hv : ∀ j, j < m → ∃ v : Value, ∃ b off, oa = some ⟨b, off, none⟩ ∧ w.cell? ⟨b, off + j, none⟩ = some v ∧ v.oneCell' = true := fun j hj => by
  obtain ⟨b, off, v, h1, h2⟩ := h j hj
  exact ⟨v, b, off, h1, h2⟩
 have fam : ∃ f : Nat → Value, ∀ j, j < m → ∃ b off, oa = some ⟨b, off, none⟩ ∧ w.cell? ⟨b, off + j, none⟩ = some (f j) ∧ (f j).oneCell' = true := by
  refine ⟨fun j => if hj : j < m then Classical.choose (hv j hj) else .int .i64 0, fun j hj => ?_⟩
  simp only [dif_pos hj]
  exact Classical.choose_spec (hv j hj)
 obtain ⟨f, hf⟩ := fam
 refine ⟨(List.range m).map f, by simp, ?_, ?_⟩
 ·intro j v hj
  have hjm : j < m := by
   have := (List.getElem?_eq_some_iff.1 hj).1
   simpa using this
  obtain ⟨b, off, h1, h2, _⟩ := hf j hjm
  simp [hjm] at hj
  subst hj
  exact ⟨b, off, h1, h2⟩
 ·intro v hv
  rw [List.mem_map] at hv
  obtain ⟨j, hj, rfl⟩ := hv
  obtain ⟨_, _, _, _, h3⟩ := hf j (List.mem_range.1 hj)
  exact h3
theorem cs_get {w : World} {b off : Nat} {cs : List Value} (hA : CsAt w (some ⟨b, off, none⟩) cs) {j : Nat} (hj : j < cs.length) {v : Value} (hc : w.cell? ⟨b, off + j, none⟩ = some v) : cs[j]? = some v := by
 obtain ⟨b', off', he, h2⟩ := hA j cs[j] (List.getElem?_eq_getElem hj)
 cases he
 rw [hc] at h2
 rw [List.getElem?_eq_getElem hj, ← h2]
theorem row_cell (w : World) (cs : List Value) (t : TypeId) (j : Nat) : (w.alloc (.cells cs.toArray t)).cell? ⟨w.heap.size, j, none⟩ = cs[j]? := by
 rw [cell_of (heap_new _ _), List.getElem?_toArray]
theorem oat_cells {w : World} {oa : Option Addr} {q : List OpD} (h : OAt w oa q) : ∀ j, j < q.length * 5 → ∃ b off v, oa = some ⟨b, off, none⟩ ∧ w.cell? ⟨b, off + j, none⟩ = some v ∧ v.oneCell' = true := by
 intro j hj
 have ht : j / 5 < q.length := by omega
 obtain ⟨b, off, ca, cc, he, ⟨h0, h1, h2, h3, h4⟩, _⟩ := h (j / 5) q[j / 5] (List.getElem?_eq_getElem ht)
 have e : j % 5 = 0 ∨ j % 5 = 1 ∨ j % 5 = 2 ∨ j % 5 = 3 ∨ j % 5 = 4 := by omega
 rcases e with e | e | e | e | e
 ·exact ⟨b, off, _, he, by rw [show off + j = off + j / 5 * 5 by omega]; exact h0, rfl⟩
 ·exact ⟨b, off, _, he, by rw [show off + j = off + j / 5 * 5 + 1 by omega]; exact h1, rfl⟩
 ·exact ⟨b, off, _, he, by rw [show off + j = off + j / 5 * 5 + 2 by omega]; exact h2, rfl⟩
 ·exact ⟨b, off, _, he, by rw [show off + j = off + j / 5 * 5 + 3 by omega]; exact h3, rfl⟩
 ·exact ⟨b, off, _, he, by rw [show off + j = off + j / 5 * 5 + 4 by omega]; exact h4, rfl⟩
theorem cat_cells {w : World} {oa : Option Addr} {l : List Cs} (h : CAt w oa l) : ∀ j, j < l.length * 3 → ∃ b off v, oa = some ⟨b, off, none⟩ ∧ w.cell? ⟨b, off + j, none⟩ = some v ∧ v.oneCell' = true := by
 intro j hj
 have ht : j / 3 < l.length := by omega
 obtain ⟨b, off, he, h0, h1, h2⟩ := h (j / 3) l[j / 3] (List.getElem?_eq_getElem ht)
 have e : j % 3 = 0 ∨ j % 3 = 1 ∨ j % 3 = 2 := by omega
 rcases e with e | e | e
 ·exact ⟨b, off, _, he, by rw [show off + j = off + j / 3 * 3 by omega]; exact h0, rfl⟩
 ·exact ⟨b, off, _, he, by rw [show off + j = off + j / 3 * 3 + 1 by omega]; exact h1, rfl⟩
 ·exact ⟨b, off, _, he, by rw [show off + j = off + j / 3 * 3 + 2 by omega]; exact h2, rfl⟩
theorem pat_cells {w : World} {oa : Option Addr} {ps : List (List OpD)} (h : PAt w oa ps) : ∀ j, j < ps.length * 1 → ∃ b off v, oa = some ⟨b, off, none⟩ ∧ w.cell? ⟨b, off + j, none⟩ = some v ∧ v.oneCell' = true := by
 intro j hj
 rw [Nat.mul_one] at hj
 obtain ⟨b, off, pa, pc, he, h0, _⟩ := h j ps[j] (List.getElem?_eq_getElem hj)
 exact ⟨b, off, _, he, h0, rfl⟩
set_option maxRecDepth 100000 in
set_option maxHeartbeats 800000 in
theorem copied_op (oa : Option Addr) (q : List OpD) (c : Nat) (w : World) (hO : OAt w oa q) (hl : q.length ≤ 1000) :
 Calls Tryz.prog 51 #[.slice oa q.length c] w fun r w' => r = .returned (.slice (some ⟨w.heap.size, 0, none⟩) q.length q.length) ∧ ∃ cs, w' = w.alloc (.cells cs.toArray 48) ∧ cs.length = q.length * 5 ∧ CsAt w oa cs := by
 obtain ⟨i0, hi, hz0, hz1, hz2⟩ := info_parts info_op
 obtain ⟨cs, h1, h2, h3⟩ := cps (oat_cells hO)
 have hm := run_mkG Tryz.underlying45 hi hz0 w q.length (by rw [hz2]; omega) (by omega)
 have hcp := run_cpG (z := .agg #[.int .i64 0, .int .i64 0, .int .i64 0, .slice none 0 0, .bool false]) Tryz.underlying45 hi 3 w oa q.length c cs (by rw [hz1]; exact h1) h2 h3 (by rw [hz1]; decide)
 generalize madeCells (Value.cells (.agg #[.int .i64 0, .int .i64 0, .int .i64 0, .slice none 0 0, .bool false])) (q.length * i0.size) = MC at hm hcp
 have H2 := hide h2
 clear hO h2 hi hz0 hz1 hz2
 go_enter Tryz.func51, Tryz.ntmps51
 go_wp2_with fail
 go_ret
 exact ⟨rfl, cs, rfl, h1, H2.out⟩
set_option maxRecDepth 100000 in
set_option maxHeartbeats 800000 in
theorem copied_pr (oa : Option Addr) (ps : List (List OpD)) (c : Nat) (w : World) (hP : PAt w oa ps) (hl : ps.length ≤ 1000) :
 Calls Tryz.prog 50 #[.slice oa ps.length c] w fun r w' => r = .returned (.slice (some ⟨w.heap.size, 0, none⟩) ps.length ps.length) ∧ ∃ cs, w' = w.alloc (.cells cs.toArray 45) ∧ cs.length = ps.length ∧ CsAt w oa cs := by
 obtain ⟨i0, hi, hz0, hz1, hz2⟩ := info_parts info_pr
 obtain ⟨cs, h1, h2, h3⟩ := cps (pat_cells hP)
 have hm := run_mkG Tryz.underlying22 hi hz0 w ps.length (by rw [hz2]; omega) (by omega)
 have hcp := run_cpG (z := .slice none 0 0) Tryz.underlying22 hi 3 w oa ps.length c cs (by rw [hz1]; exact h1) h2 h3 (by rw [hz1]; decide)
 generalize madeCells (Value.cells (.slice none 0 0)) (ps.length * i0.size) = MC at hm hcp
 have H2 := hide h2
 rw [Nat.mul_one] at h1
 clear hP h2 hi hz0 hz1 hz2
 go_enter Tryz.func50, Tryz.ntmps50
 go_wp2_with fail
 go_ret
 exact ⟨rfl, cs, rfl, h1, H2.out⟩
set_option maxRecDepth 100000 in
set_option maxHeartbeats 800000 in
theorem copied_case (oa : Option Addr) (l : List Cs) (c : Nat) (w : World) (hC : CAt w oa l) (hl : l.length ≤ 100000) :
 Calls Tryz.prog 52 #[.slice oa l.length c] w fun r w' => r = .returned (.slice (some ⟨w.heap.size, 0, none⟩) l.length l.length) ∧ CAt w' (some ⟨w.heap.size, 0, none⟩) l ∧ Below w.heap.size w w' := by
 obtain ⟨i0, hi, hz0, hz1, hz2⟩ := info_parts info_case
 obtain ⟨cs, h1, h2, h3⟩ := cps (cat_cells hC)
 have hm := run_mkG Tryz.underlying46 hi hz0 w l.length (by rw [hz2]; omega) (by omega)
 have hcp := run_cpG (z := .agg #[.bool false, .int .i64 0, .int .i64 0]) Tryz.underlying46 hi 3 w oa l.length c cs (by rw [hz1]; exact h1) h2 h3 (by rw [hz1]; decide)
 generalize madeCells (Value.cells (.agg #[.bool false, .int .i64 0, .int .i64 0])) (l.length * i0.size) = MC at hm hcp
 have HN : Hid (CAt (w.alloc (.cells cs.toArray 92)) (some ⟨w.heap.size, 0, none⟩) l) := by
  intro k x hk
  obtain ⟨b, off, rfl, q0, q1, q2⟩ := hC k x hk
  have hkl := (List.getElem?_eq_some_iff.1 hk).1
  refine ⟨w.heap.size, 0, rfl, ?_, ?_, ?_⟩
  ·rw [Nat.zero_add, row_cell]; exact cs_get h2 (by omega) q0
  ·rw [Nat.zero_add, row_cell]; exact cs_get h2 (by omega) (by rw [← Nat.add_assoc]; exact q1)
  ·rw [Nat.zero_add, row_cell]; exact cs_get h2 (by omega) (by rw [← Nat.add_assoc]; exact q2)
 clear hC h2 hi hz0 hz1 hz2
 go_enter Tryz.func52, Tryz.ntmps52
 go_wp2_with fail
 go_ret
 exact ⟨rfl, HN.out, below_alloc _ _⟩
end Sh
end Go.Proofs.YtkkgbeaaekmhfaaGreat
namespace Go.Proofs.YtkkgbeaaekmhfaaGreat
open Go.ChangeShapes Go.WideShapes Go.ChangeAt Go.RowKit
namespace Sh
open De Ba Re
def OM (w : World) (N0 g k : Nat) (l : List OpD) : Prop :=
 ∀ (t : Nat) (o : OpD), l[t]? = some o → ∃ ca cc, (w.cell? ⟨g, t * 5, none⟩ = some (.int .i64 o.kind) ∧ w.cell? ⟨g, t * 5 + 1, none⟩ = some (.int .i64 o.a) ∧ w.cell? ⟨g, t * 5 + 2, none⟩ = some (.int .i64 o.b) ∧ w.cell? ⟨g, t * 5 + 3, none⟩ = some (.slice ca o.cases.length cc) ∧ w.cell? ⟨g, t * 5 + 4, none⟩ = some (.bool o.def_)) ∧ CAt w ca o.cases ∧ (t < k → ∀ a, ca = some a → g + 1 ≤ a.block) ∧ (¬ t < k → ∀ a, ca = some a → o.cases ≠ [] → a.block < N0) ∧ o.cases.length ≤ 3000
theorem cat_lt {w : World} {oa : Option Addr} {l : List Cs} (h : CAt w oa l) (hl : l ≠ []) (a : Addr) (e : oa = some a) : a.block < w.heap.size := by
 cases l with
 | nil => exact absurd rfl hl
 | cons x t =>
   obtain ⟨b, off, rfl, h1, _⟩ := h 0 x rfl
   cases e
   exact World.block_lt_of_cell? w _ h1
theorem cat_kb' {R : Nat} {w w' : World} {oa : Option Addr} {l : List Cs} (k : De.KB R w w') (h : CAt w oa l) (hb : ∀ a, oa = some a → l ≠ [] → a.block ≠ R) : CAt w' oa l := by
 intro j x hj
 obtain ⟨b, off, rfl, h1, h2, h3⟩ := h j x hj
 have hne : l ≠ [] := by
  rintro rfl
  simp at hj
 exact ⟨b, off, rfl, kb_cell k h1 (hb _ rfl hne), kb_cell k h2 (hb _ rfl hne), kb_cell k h3 (hb _ rfl hne)⟩
theorem OM.start {w wr : World} {oa : Option Addr} {q : List OpD} {cs : List Value} (hO : OAt w oa q) (hb : Below w.heap.size w wr) (hl : cs.length = q.length * 5) (hA : CsAt wr oa cs) (h3 : ∀ o ∈ q, o.cases.length ≤ 3000) : OM (wr.alloc (.cells cs.toArray 48)) w.heap.size wr.heap.size 0 q := by
 intro t o ht
 obtain ⟨b, off, ca, cc, rfl, ⟨q0, q1, q2, q3, q4⟩, hC, _⟩ := hO t o ht
 have htl := (List.getElem?_eq_some_iff.1 ht).1
 refine ⟨ca, cc, ⟨?_, ?_, ?_, ?_, ?_⟩, (hC.below hb).below (below_alloc _ _), fun h => absurd h (Nat.not_lt_zero _), fun _ a e hne => cat_lt hC hne a e, h3 o (List.mem_of_getElem? ht)⟩
 ·rw [row_cell]; exact cs_get hA (by omega) (cellB q0 hb)
 ·rw [row_cell]; exact cs_get hA (by omega) (by rw [← Nat.add_assoc]; exact cellB q1 hb)
 ·rw [row_cell]; exact cs_get hA (by omega) (by rw [← Nat.add_assoc]; exact cellB q2 hb)
 ·rw [row_cell]; exact cs_get hA (by omega) (by rw [← Nat.add_assoc]; exact cellB q3 hb)
 ·rw [row_cell]; exact cs_get hA (by omega) (by rw [← Nat.add_assoc]; exact cellB q4 hb)
theorem OM.below {w w' : World} {N0 g k : Nat} {l : List OpD} (h : OM w N0 g k l) (hb : Below w.heap.size w w') : OM w' N0 g k l := by
 intro t o ht
 obtain ⟨ca, cc, ⟨q0, q1, q2, q3, q4⟩, hC, h1, h2, h3⟩ := h t o ht
 exact ⟨ca, cc, ⟨cellB q0 hb, cellB q1 hb, cellB q2 hb, cellB q3 hb, cellB q4 hb⟩, hC.below hb, h1, h2, h3⟩
theorem OM.step {w : World} {N0 g k : Nat} {l : List OpD} {o : OpD} (h : OM w N0 g k l) (hN : N0 ≤ g) (ho : l[k]? = some o) (ca : Addr) (cc : Nat) (hC : CAt w (some ca) o.cases) (hg : g + 1 ≤ ca.block) : OM (w.setCell ⟨g, k * 5 + 3, none⟩ (.slice (some ca) o.cases.length cc)) N0 g (k + 1) l := by
 have KG := (De.KB.refl g w).setCell (k * 5 + 3) (.slice (some ca) o.cases.length cc)
 have far : ∀ i v, i ≠ k * 5 + 3 → w.cell? ⟨g, i, none⟩ = some v → (w.setCell ⟨g, k * 5 + 3, none⟩ (.slice (some ca) o.cases.length cc)).cell? ⟨g, i, none⟩ = some v := fun i v hi hv => by
  exact (World.cell?_setCell_other w ⟨g, k * 5 + 3, none⟩ ⟨g, i, none⟩ _ (by intro e; injection e; omega)).trans hv
 intro t x ht
 obtain ⟨ca', cc', ⟨q0, q1, q2, q3, q4⟩, hC', h1, h2, h3⟩ := h t x ht
 by_cases e : t = k
 ·subst e
  rw [ho] at ht
  cases ht
  exact ⟨some ca, cc, ⟨far _ _ (by omega) q0, far _ _ (by omega) q1, far _ _ (by omega) q2, World.cell?_setCell_same _ _ _ q3, far _ _ (by omega) q4⟩, cat_kb KG hC (fun a e => by cases e; omega), fun _ a e => by cases e; exact hg, fun hlt => absurd (Nat.lt_succ_self _) hlt, h3⟩
 ·refine ⟨ca', cc', ⟨far _ _ (by omega) q0, far _ _ (by omega) q1, far _ _ (by omega) q2, far _ _ (by omega) q3, far _ _ (by omega) q4⟩, cat_kb' KG hC' ?_, fun hlt => h1 (by omega), fun hlt => h2 (by omega), h3⟩
  intro a ea hne
  by_cases ht2 : t < k
  ·have := h1 ht2 a ea; omega
  ·have := h2 ht2 a ea hne; omega
theorem OM.done {w : World} {N0 g k : Nat} {l : List OpD} (h : OM w N0 g k l) (hk : l.length ≤ k) : OF w (g + 1) g l := by
 intro t o ht
 obtain ⟨ca, cc, hq, hC, h1, _, h3⟩ := h t o ht
 have htl := (List.getElem?_eq_some_iff.1 ht).1
 exact ⟨ca, cc, hq, hC, h1 (by omega), h3⟩
def PM (w0 w : World) (N k : Nat) (arr : Array Value) (ps : List (List OpD)) : Prop :=
 PF w N arr (ps.take k) ∧ ∀ (t : Nat) (q : List OpD), k ≤ t → ps[t]? = some q → ∃ pa pc, arr[t]? = some (.slice pa q.length pc) ∧ OAt w0 pa q
theorem PF.below {w w' : World} {N : Nat} {arr : Array Value} {ps : List (List OpD)} (h : PF w N arr ps) (hb : Below w.heap.size w w') (hN : 0 < N) : PF w' N arr ps := h.kb (De.KB.of (R := 0) hb) hN
theorem PM.start {w wr : World} {oa : Option Addr} {ps : List (List OpD)} {cs : List Value} (hP : PAt w oa ps) (hb : Below w.heap.size w wr) (hl : cs.length = ps.length) (hA : CsAt wr oa cs) (W : World) (N : Nat) : PM w W N 0 cs.toArray ps := by
 refine ⟨fun t q ht => by simp at ht, fun t q _ ht => ?_⟩
 obtain ⟨b, off, pa, pc, rfl, h0, h1, _⟩ := hP t q ht
 have htl := (List.getElem?_eq_some_iff.1 ht).1
 exact ⟨pa, pc, by rw [List.getElem?_toArray]; exact cs_get hA (by omega) (cellB h0 hb), h1⟩
theorem PM.step {w0 w : World} {N k : Nat} {arr : Array Value} {ps : List (List OpD)} {q : List OpD} (h : PM w0 w N k arr ps) (hq : ps[k]? = some q) (hs : k < arr.size) (g c : Nat) (hof : OF w (g + 1) g q) (hN : N ≤ g) (hl : q.length ≤ 1000) : PM w0 w N (k + 1) (arr.setIfInBounds k (.slice (some ⟨g, 0, none⟩) q.length c)) ps := by
 have hk := (List.getElem?_eq_some_iff.1 hq).1
 refine ⟨?_, fun t x ht hx => ?_⟩
 ·rw [List.take_add_one, hq]
  exact h.1.store k (by rw [List.length_take]; omega) hs g c q hof hN hl
 ·obtain ⟨pa, pc, h1, h2⟩ := h.2 t x (by omega) hx
  exact ⟨pa, pc, by rw [Array.getElem?_setIfInBounds_ne (by omega)]; exact h1, h2⟩
theorem PM.below {w0 w w' : World} {N k : Nat} {arr : Array Value} {ps : List (List OpD)} (h : PM w0 w N k arr ps) (hb : Below w.heap.size w w') (hN : 0 < N) : PM w0 w' N k arr ps := ⟨h.1.below hb hN, h.2⟩
theorem PM.kb {w0 w w' : World} {N k R : Nat} {arr : Array Value} {ps : List (List OpD)} (h : PM w0 w N k arr ps) (hk : De.KB R w w') (hR : R < N) : PM w0 w' N k arr ps := ⟨h.1.kb hk hR, h.2⟩
theorem PF.mono {w : World} {N N' : Nat} {arr : Array Value} {ps : List (List OpD)} (h : PF w N arr ps) (hN : N' ≤ N) : PF w N' arr ps := by
 intro t q ht
 obtain ⟨g, c, h1, h2, h3, h4⟩ := h t q ht
 exact ⟨g, c, h1, h2, by omega, h4⟩
structure CC (w wr : World) (G : Nat) (v0 v1 v2 v3 v4 : Value) (arr : Array Value) (n : Nat) : Prop where
 bx : wr.heap[w.heap.size]? = some (.cells #[v0, v1, v2, v3, v4] 25 (0, 0))
 zr : wr.heap[w.heap.size + 1]? = some (.cells #[.int .i64 0, .int .i64 0, .slice none 0 0, .slice none 0 0, .slice none 0 0] 25 (0, 0))
 pr : wr.heap[G]? = some (.cells arr 45 (0, 0))
 sz : arr.size = n
 bel : Below w.heap.size w wr
 ne : w.heap.size + 1 < G
theorem CC.below {w wr wr' : World} {G : Nat} {v0 v1 v2 v3 v4 : Value} {arr : Array Value} {n : Nat} (h : CC w wr G v0 v1 v2 v3 v4 arr n) (hb : Below wr.heap.size wr wr') : CC w wr' G v0 v1 v2 v3 v4 arr n :=
 ⟨heap_below h.bx hb, heap_below h.zr hb, heap_below h.pr hb, h.sz, btr h.bel hb, h.ne⟩
theorem CC.other {w wr wr' : World} {G R : Nat} {v0 v1 v2 v3 v4 : Value} {arr : Array Value} {n : Nat} (h : CC w wr G v0 v1 v2 v3 v4 arr n) (k : De.KB R wr wr') (hR : G < R) : CC w wr' G v0 v1 v2 v3 v4 arr n := by
 have hn := h.ne
 exact ⟨k.heap h.bx (by omega), k.heap h.zr (by omega), k.heap h.pr (by omega), h.sz, De.KB.below h.bel k (by omega), hn⟩
theorem CC.store {w wr : World} {G : Nat} {v0 v1 v2 v3 v4 : Value} {arr : Array Value} {n : Nat} (h : CC w wr G v0 v1 v2 v3 v4 arr n) (k : Nat) (v : Value) : CC w (wr.setCell ⟨G, k, none⟩ v) G v0 v1 v2 v3 v4 (arr.setIfInBounds k v) n := by
 have hn := h.ne
 have K := (De.KB.refl G wr).setCell k v
 exact ⟨K.heap h.bx (by omega), K.heap h.zr (by omega), Ba.heap_setCell_same h.pr v, by rw [Array.size_setIfInBounds]; exact h.sz, De.KB.below h.bel K (by omega), hn⟩
theorem CC.box {w wr : World} {G : Nat} {v0 v1 v2 v3 v4 u0 u1 u2 u3 u4 : Value} {arr : Array Value} {n : Nat} (h : CC w wr G v0 v1 v2 v3 v4 arr n) (i : Nat) (v : Value) (he : (#[v0, v1, v2, v3, v4] : Array Value).setIfInBounds i v = #[u0, u1, u2, u3, u4]) : CC w (wr.setCell ⟨w.heap.size, i, none⟩ v) G u0 u1 u2 u3 u4 arr n := by
 have hn := h.ne
 have K := (De.KB.refl w.heap.size wr).setCell i v
 exact ⟨by rw [Ba.heap_setCell_same h.bx, he], K.heap h.zr (by omega), K.heap h.pr (by omega), h.sz, De.KB.below h.bel K (by omega), hn⟩
structure Small (ps : List (List OpD)) (pl dr : List Int) : Prop where
 n : ps.length ≤ 20
 q : ∀ q ∈ ps, q.length ≤ 100
 c : ∀ q ∈ ps, ∀ o ∈ q, o.cases.length ≤ 3000
 p : pl.length ≤ 1000
 d : dr.length ≤ 1000
def CRes (w : World) (T M : Int) (ps : List (List OpD)) (pl dr : List Int) (r : Ending) (w' : World) : Prop :=
 ∃ G L D arr, r = .returned (.agg #[.int .i64 T, .int .i64 M, .slice (some ⟨G, 0, none⟩) ps.length ps.length, .slice (some ⟨L, 0, none⟩) pl.length pl.length, .slice (some ⟨D, 0, none⟩) dr.length dr.length]) ∧ (w'.heap[G]? = some (.cells arr 45 (0, 0)) ∧ PF w' (w.heap.size + 1) arr ps ∧ w.heap.size < G) ∧ (w'.heap[L]? = some (.cells (row pl) 3 (0, 0)) ∧ G < L) ∧ w'.heap[D]? = some (.cells (row dr) 3 (0, 0)) ∧ L < D
set_option maxRecDepth 100000 in
set_option maxHeartbeats 3200000 in
theorem copy_any (T M : Int) (ps : List (List OpD)) (pl dr : List Int) (pa la da : Option Addr) (pc lc dc : Nat) (w : World) (hS : SAt w ⟨T, M, ps, pl, dr⟩ pa la da) (hm : Small ps pl dr) :
 Calls Tryz.prog 30 #[.agg #[.int .i64 T, .int .i64 M, .slice pa ps.length pc, .slice la pl.length lc, .slice da dr.length dc]] w fun r w' => CRes w T M ps pl dr r w' ∧ Below w.heap.size w w' := by
 have SW := hide hS
 obtain ⟨h20, h100, h3000, hpl, hdr⟩ := hm
 have H100 := hide h100
 have H3 := hide h3000
 have B0 := hide (btr (below_alloc w (.cells #[.int .i64 T, .int .i64 M, .slice pa ps.length pc, .slice la pl.length lc, .slice da dr.length dc] 25)) (below_alloc (w.alloc (.cells #[.int .i64 T, .int .i64 M, .slice pa ps.length pc, .slice la pl.length lc, .slice da dr.length dc] 25)) (.cells #[.int .i64 0, .int .i64 0, .slice none 0 0, .slice none 0 0, .slice none 0 0] 25)))
 have X0 := hide (heap_below (heap_new w (.cells #[.int .i64 T, .int .i64 M, .slice pa ps.length pc, .slice la pl.length lc, .slice da dr.length dc] 25)) (below_alloc (w.alloc (.cells #[.int .i64 T, .int .i64 M, .slice pa ps.length pc, .slice la pl.length lc, .slice da dr.length dc] 25)) (.cells #[.int .i64 0, .int .i64 0, .slice none 0 0, .slice none 0 0, .slice none 0 0] 25)))
 have Z0 : Hid (((w.alloc (.cells #[.int .i64 T, .int .i64 M, .slice pa ps.length pc, .slice la pl.length lc, .slice da dr.length dc] 25)).alloc (.cells #[.int .i64 0, .int .i64 0, .slice none 0 0, .slice none 0 0, .slice none 0 0] 25)).heap[w.heap.size + 1]? = some (.cells #[.int .i64 0, .int .i64 0, .slice none 0 0, .slice none 0 0, .slice none 0 0] 25 (0, 0))) := by
  have := heap_new (w.alloc (.cells #[.int .i64 T, .int .i64 M, .slice pa ps.length pc, .slice la pl.length lc, .slice da dr.length dc] 25)) (.cells #[.int .i64 0, .int .i64 0, .slice none 0 0, .slice none 0 0, .slice none 0 0] 25)
  rw [World.size_alloc] at this
  exact this
 have s0 : ((w.alloc (.cells #[.int .i64 T, .int .i64 M, .slice pa ps.length pc, .slice la pl.length lc, .slice da dr.length dc] 25)).alloc (.cells #[.int .i64 0, .int .i64 0, .slice none 0 0, .slice none 0 0, .slice none 0 0] 25)).heap.size = w.heap.size + 1 + 1 := by rw [World.size_alloc, World.size_alloc]
 have HS0 := hide s0
 obtain ⟨x0, x1, x2, x3, x4⟩ := sc_cells X0.out
 have fz2 := frozen_of X0.out 2
 clear hS h100 h3000 s0
 go_enter Tryz.func30, Tryz.ntmps30
 go_wp2_with fail
 generalize (w.alloc (.cells #[.int .i64 T, .int .i64 M, .slice pa ps.length pc, .slice la pl.length lc, .slice da dr.length dc] 25)).alloc (.cells #[.int .i64 0, .int .i64 0, .slice none 0 0, .slice none 0 0, .slice none 0 0] 25) = W0 at B0 X0 Z0 HS0 x0 x1 x2 x3 x4 fz2 ⊢
 refine (copied_pr pa ps pc _ (SW.out.ps.below B0.out) (by show ps.length ≤ 1000; omega)).mono ?_
 rw [HS0.out]
 rintro r w1 ⟨rfl, cs, hw1, hcl, hcs⟩
 have G1 : Hid (w1.heap[w.heap.size + 1 + 1]? = some (.cells cs.toArray 45 (0, 0))) := by
  have := heap_new W0 (.cells cs.toArray 45)
  rw [HS0.out] at this
  show _ = _
  rw [hw1]
  exact this
 have B1 : Hid (Below W0.heap.size W0 w1) := by
  show Below _ _ _
  rw [hw1]
  exact below_alloc _ _
 have PM1 := hide (PM.start SW.out.ps B0.out hcl hcs (w1.setCell ⟨w.heap.size, 2, none⟩ (.slice (some ⟨w.heap.size + 1 + 1, 0, none⟩) ps.length ps.length)) (w.heap.size + 1 + 1 + 1))
 have C0 : Hid (CC w w1 (w.heap.size + 1 + 1) (.int .i64 T) (.int .i64 M) (.slice pa ps.length pc) (.slice la pl.length lc) (.slice da dr.length dc) cs.toArray ps.length) :=
  ⟨heap_below X0.out B1.out, heap_below Z0.out B1.out, G1.out, by rw [List.size_toArray, hcl], btr B0.out B1.out, by omega⟩
 have C1 := hide (C0.out.box (u2 := .slice (some ⟨w.heap.size + 1 + 1, 0, none⟩) ps.length ps.length) 2 _ rfl)
 obtain ⟨x0, x1, x2, x3, x4⟩ := sc_cells C0.out.bx
 have fz2 := frozen_of C0.out.bx 2
 have N1 : Hid (w.heap.size + 1 + 1 + 1 ≤ (w1.setCell ⟨w.heap.size, 2, none⟩ (.slice (some ⟨w.heap.size + 1 + 1, 0, none⟩) ps.length ps.length)).heap.size) := De.heap_lt C1.out.pr
 clear hw1 hcl hcs
 go_wp2_with fail
 go_loopw [13] (fun i wr => ∃ (k : Nat) (arr : Array Value), k ≤ ps.length ∧ i = .int .i64 k ∧ CC w wr (w.heap.size + 1 + 1) (.int .i64 T) (.int .i64 M) (.slice (some ⟨w.heap.size + 1 + 1, 0, none⟩) ps.length ps.length) (.slice la pl.length lc) (.slice da dr.length dc) arr ps.length ∧ PM w wr (w.heap.size + 1 + 1 + 1) k arr ps ∧ w.heap.size + 1 + 1 + 1 ≤ wr.heap.size) (fun i _ => ps.length - (intOf i).toNat)
 case atStart => exact ⟨0, cs.toArray, Nat.zero_le _, rfl, C1.out, PM1.out, N1.out⟩
 case round =>
  clear x0 x1 x2 x3 x4 fz2 C0 C1 PM1 G1 B1 N1 B0 X0 Z0 HS0
  rename World => w2
  obtain ⟨k, arr, hk, rfl, c2, pm2, n2⟩ := hrel
  have C2 := hide c2
  have PM2 := hide pm2
  clear c2 pm2
  by_cases hlt : k < ps.length
  ·have hlt' : (k : Int) < (ps.length : Int) := by omega
   obtain ⟨q, hq⟩ : ∃ q, ps[k]? = some q := ⟨ps[k], by simp [hlt]⟩
   obtain ⟨qa, qc, har, hO⟩ := PM2.out.2 k q (Nat.le_refl _) hq
   have ck := (cell_of C2.out.pr k).trans har
   have hqm := List.mem_of_getElem? hq
   have hq1 := H100.out q hqm
   have hq3 := H3.out q hqm
   have HQ := hide hq
   have HO := hide hO
   have HQ3 := hide hq3
   clear hq hO hqm hq3 har
   go_wp2_with fail
   refine (copied_op qa q qc _ (HO.out.below C2.out.bel) (by omega)).mono ?_
   rintro r w3 ⟨rfl, cq, hw3, hcl, hcs⟩
   have B3 : Hid (Below w2.heap.size w2 w3) := by
    show Below _ _ _
    rw [hw3]
    exact below_alloc _ _
   have OM3 : Hid (OM w3 w.heap.size w2.heap.size 0 q) := by
    have := OM.start HO.out C2.out.bel hcl hcs HQ3.out
    rw [← hw3] at this
    exact this
   have G3 : Hid (w3.heap[w2.heap.size]? = some (.cells cq.toArray 48 (0, 0))) := by
    show _ = _
    rw [hw3]
    exact heap_new _ _
   have s3 := De.heap_lt G3.out
   have HCL := hide hcl
   clear hw3 hcl hcs ck
   go_wp2_with fail
   go_loopw [22] (fun i wr => ∃ (j : Nat), j ≤ q.length ∧ i = .int .i64 j ∧ Below w2.heap.size w2 wr ∧ OM wr w.heap.size w2.heap.size j q ∧ (∀ i, wr.frozen? ⟨w2.heap.size, i, none⟩ = false) ∧ w2.heap.size < wr.heap.size) (fun i _ => q.length - (intOf i).toNat)
   case atStart => exact ⟨0, Nat.zero_le _, rfl, B3.out, OM3.out, fun i => frozen_of G3.out i, s3⟩
   case round =>
    clear OM3 G3 s3 B3
    obtain ⟨j, hj, rfl, bw, om4, fz4, n4⟩ := hrel
    have BW := hide bw
    have OM4 := hide om4
    have FZ4 := hide fz4
    clear bw om4 fz4
    by_cases hjl : j < q.length
    ·have hjl' : (j : Int) < (q.length : Int) := by omega
     obtain ⟨o, ho⟩ : ∃ o, q[j]? = some o := ⟨q[j], by simp [hjl]⟩
     obtain ⟨ca, cc, ⟨y0, y1, y2, y3, y4⟩, hC, -, -, hl3⟩ := OM4.out j o ho
     have HX := hide ho
     have HC := hide hC
     clear ho hC y0 y1 y2 y4
     go_wp2_with fail
     refine (copied_case ca o.cases cc _ HC.out (by omega)).mono ?_
     rintro r w5 ⟨rfl, c5, b5⟩
     have C5 := hide c5
     have s5 := b5.size
     have OM5 := hide (OM4.out.below b5)
     have z3 := cellB y3 b5
     have zf := (b5.frozen (p := ⟨w2.heap.size, j * 5 + 3, none⟩) n4).trans (FZ4.out (j * 5 + 3))
     have FZ5 : Hid (∀ i, w5.frozen? ⟨w2.heap.size, i, none⟩ = false) := fun i => (b5.frozen (p := ⟨w2.heap.size, i, none⟩) n4).trans (FZ4.out i)
     have BW5 := hide (BW.out.trans (b5.mono (Nat.le_of_lt n4)))
     clear c5 b5 y3
     go_wp2_with fail
     go_roundw
     case rel => exact ⟨j + 1, by omega, by go_num, BW5.out.setCell (Nat.le_refl _) _, OM5.out.step (by omega) HX.out ⟨wr.heap.size, 0, none⟩ o.cases.length C5.out n4, fun i => by rw [World.frozen?_setCell]; exact FZ5.out i, Nat.lt_of_lt_of_le (Nat.lt_of_lt_of_le n4 s5) ((De.KB.refl w2.heap.size w5).setCell (j * 5 + 3) (.slice (some ⟨wr.heap.size, 0, none⟩) o.cases.length o.cases.length)).size⟩
     case measure => simp [intOf]; omega
    ·have hjl' : ¬ ((j : Int) < (q.length : Int)) := by omega
     have C5 := hide (C2.out.below BW.out)
     have PM5 := hide (PM2.out.below BW.out (by omega))
     have OF5 := hide (OM4.out.done (by omega))
     have PM6 := hide ((PM5.out.step HQ.out (by rw [C5.out.sz]; exact hlt) w2.heap.size q.length OF5.out n2 (by omega)).kb ((De.KB.refl (w.heap.size + 1 + 1) wr).setCell k (.slice (some ⟨w2.heap.size, 0, none⟩) q.length q.length)) (by omega))
     obtain ⟨x0, x1, x2, x3, x4⟩ := sc_cells C5.out.bx
     have fk := frozen_of C5.out.pr k
     obtain ⟨vk, hvk⟩ : ∃ v, wr.cell? ⟨w.heap.size + 1 + 1, k, none⟩ = some v := ⟨_, (cell_of C5.out.pr k).trans (Array.getElem?_eq_getElem (by rw [C5.out.sz]; exact hlt))⟩
     have s6 := ((De.KB.refl (w.heap.size + 1 + 1) wr).setCell k (.slice (some ⟨w2.heap.size, 0, none⟩) q.length q.length)).size
     go_wp2_with fail
     go_roundw
     case rel => exact ⟨k + 1, _, by omega, by go_num, C5.out.store k _, PM6.out, by omega⟩
     case measure => simp [intOf]; omega
  ·have hlt' : ¬ ((k : Int) < (ps.length : Int)) := by omega
   have PF2 : Hid (PF w2 (w.heap.size + 1 + 1 + 1) arr ps) := by
    have := PM2.out.1
    rw [List.take_of_length_le (by omega)] at this
    exact this
   obtain ⟨x0, x1, x2, x3, x4⟩ := sc_cells C2.out.bx
   clear PM2
   go_wp2_with fail
   refine (copied_int la pl lc _ (SW.out.pl.below C2.out.bel) (by show pl.length ≤ 1000000; omega)).mono ?_
   rintro r w3 ⟨rfl, hw3⟩
   have B3 : Hid (Below w2.heap.size w2 w3) := by
    show Below _ _ _
    rw [hw3]
    exact below_alloc _ _
   have L3 : Hid (w3.heap[w2.heap.size]? = some (.cells (row pl) 3 (0, 0))) := by
    show _ = _
    rw [hw3]
    exact heap_new _ _
   have s3 := De.heap_lt L3.out
   have C3 := hide (C2.out.below B3.out)
   have PF3 := hide (PF2.out.below B3.out (by omega))
   obtain ⟨x0, x1, x2, x3, x4⟩ := sc_cells C3.out.bx
   have fz3 := frozen_of C3.out.bx 3
   have K4 := (De.KB.refl w.heap.size w3).setCell 3 (.slice (some ⟨w2.heap.size, 0, none⟩) pl.length pl.length)
   have C4 := hide (C3.out.box (u3 := .slice (some ⟨w2.heap.size, 0, none⟩) pl.length pl.length) 3 _ rfl)
   have PF4 := hide (PF3.out.kb K4 (by omega))
   have L4 := hide (K4.heap L3.out (by omega))
   have s4 := K4.size
   clear hw3 K4
   go_wp2_with fail
   refine (copied_int da dr dc _ (SW.out.dr.below C4.out.bel) (by show dr.length ≤ 1000000; omega)).mono ?_
   generalize hW4 : w3.setCell ⟨w.heap.size, 3, none⟩ (.slice (some ⟨w2.heap.size, 0, none⟩) pl.length pl.length) = W4 at C4 PF4 L4 s4 ⊢
   rintro r w5 ⟨rfl, hw5⟩
   have B5 : Hid (Below W4.heap.size W4 w5) := by
    show Below _ _ _
    rw [hw5]
    exact below_alloc _ _
   have D5 : Hid (w5.heap[W4.heap.size]? = some (.cells (row dr) 3 (0, 0))) := by
    show _ = _
    rw [hw5]
    exact heap_new _ _
   have C5 := hide (C4.out.below B5.out)
   have PF5 := hide (PF4.out.below B5.out (by omega))
   have L5 := hide (heap_below L4.out B5.out)
   obtain ⟨x0, x1, x2, x3, x4⟩ := sc_cells C5.out.bx
   have fz4 := frozen_of C5.out.bx 4
   have K6 := (De.KB.refl w.heap.size w5).setCell 4 (.slice (some ⟨W4.heap.size, 0, none⟩) dr.length dr.length)
   have C6 := hide (C5.out.box (u4 := .slice (some ⟨W4.heap.size, 0, none⟩) dr.length dr.length) 4 _ rfl)
   have PF6 := hide (PF5.out.kb K6 (by omega))
   have L6 := hide (K6.heap L5.out (by omega))
   have D6 := hide (K6.heap D5.out (by omega))
   obtain ⟨y0, y1, y2, y3, y4⟩ := sc_cells C6.out.bx
   obtain ⟨r0, r1, r2, r3, r4⟩ := sc_cells C6.out.zr
   have q0 := frozen_of C6.out.zr 0
   have q1 := frozen_of C6.out.zr 1
   have q2 := frozen_of C6.out.zr 2
   have q3 := frozen_of C6.out.zr 3
   have q4 := frozen_of C6.out.zr 4
   clear hw5 K6 hW4
   go_wp2_with fail
   have KZ := fun (u0 u1 u2 u3 u4 : Value) => (((((De.KB.refl (w.heap.size + 1) (w5.setCell ⟨w.heap.size, 4, none⟩ (.slice (some ⟨W4.heap.size, 0, none⟩) dr.length dr.length))).setCell 0 u0).setCell 1 u1).setCell 2 u2).setCell 3 u3).setCell 4 u4
   have hL2 : w.heap.size + 1 + 1 < w2.heap.size := by omega
   exact bodyPost_ret (results_row1 Tryz.results30 _ _ _ _ rfl (loadVar_sc (five_set C6.out.zr _ _ _ _ _) rfl)) rfl ⟨⟨w.heap.size + 1 + 1, w2.heap.size, W4.heap.size, arr, rfl, ⟨(KZ _ _ _ _ _).heap C6.out.pr (by omega), (PF6.out.kb (KZ _ _ _ _ _) (by omega)).mono (by omega), by omega⟩, ⟨(KZ _ _ _ _ _).heap L6.out (by omega), hL2⟩, (KZ _ _ _ _ _).heap D6.out (by omega), by omega⟩, De.KB.below C6.out.bel (KZ _ _ _ _ _) (by omega)⟩
end Sh
end Go.Proofs.YtkkgbeaaekmhfaaGreat
