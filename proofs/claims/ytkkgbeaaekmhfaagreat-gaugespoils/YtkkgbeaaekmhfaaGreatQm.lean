/- Each event of a run is right. -/
import Derived.Test.YtkkgbeaaekmhfaaGreatZjGl12
import Derived.Test.YtkkgbeaaekmhfaaGreatQl
import Derived.Test.YtkkgbeaaekmhfaaGreatQe
namespace Go.Proofs.YtkkgbeaaekmhfaaGreat
namespace Lo
open Ba

theorem EI.alone {s : Lm} (h : EI s) (g : Int) (c : Ca) (hg : gB g) (hv : vB c.v) (h0 : c.sd = false → c.v = 0) (hu : ∀ st, Fk.nmB s.sts c.ch = some st → gB (num s c.ch)) (hn : -1 ≤ num s c.ch ∧ num s c.ch ≤ 511) : EI (aloneF s g c).s := by
  have h1 := h.try g (-1) c hg (by unfold aB; omega) hv hu
  unfold aloneF
  split
  · exact h1
  · exact h1.tell _ (h1.sts.wait c g hg hv) rfl (ev_wait c.sd hg hn hv h0)
theorem EI.draw {s : Lm} (h : EI s) (d : List Int) : EI { s with d := d } := ⟨h.sts, h.tr⟩
theorem EI.plan {s : Lm} (h : EI s) (p : List Int) : EI { s with p := p } := ⟨h.sts, h.tr⟩
theorem nth_rdy (l : List Ca) (sts : List (Option St)) (hl : l.length ≤ 4) (k : Nat) : aB (nth (Fk.rdyL l sts) k) := by
  by_cases hk : k < (Fk.rdyL l sts).length
  · obtain ⟨p, hp, hpl, -⟩ := ps_at (P := fun i => match l[i]? with | none => false | some c => Fk.crdy sts c) (n := l.length) hk
    have e : nth (Fk.rdyL l sts) k = (p : Int) := hp
    rw [e]
    unfold aB
    omega
  · have e : nth (Fk.rdyL l sts) k = 0 := by
      unfold nth
      rw [List.getD_eq_getElem?_getD, List.getElem?_eq_none (by omega)]
      rfl
    rw [e]
    unfold aB
    omega
theorem caseAt_v (o : OpD) (hv : ∀ c ∈ cas o, vB c.v) (i : Int) : vB (caseAt o i).v := by
  unfold caseAt
  cases h : (cas o)[i.toNat]? with
  | none => show vB 0; unfold vB; omega
  | some c => exact hv c (List.mem_of_getElem? h)
theorem EI.choose {s : Lm} (h : EI s) (g : Int) (o : OpD) (hg : gB g) (h4 : o.cases.length ≤ 4) (hv : ∀ c ∈ cas o, vB c.v) (hu : ∀ c st, Fk.nmB s.sts c = some st → gB (num s c)) : EI (chooseF s g o).s := by
  have hl : (cas o).length ≤ 4 := by unfold cas; rw [List.length_map]; exact h4
  unfold chooseF
  split
  · exact (h.draw _).try _ _ _ hg (nth_rdy _ _ hl _) (caseAt_v o hv _) (fun st e => hu _ st e)
  · split
    · exact h.tell _ h.sts rfl (ev_bare (.inl rfl) hg)
    · exact h.tell _ (h.sts.pkA g _ hg hl hv) rfl (ev_waits hg ⟨by omega, by omega⟩)
theorem EI.all (g c : Int) (hg : gB g) (hc : gB c) : ∀ (l : List Wt) {s : Lm}, (∀ x ∈ l, okW x) → EI s → EI (wakeAll g c s l)
  | [], _, _, h => h
  | x :: l, s, hl, h => by
    have ox := hl x (by simp)
    show EI (wakeAll g c (if parked s x.g then _ else s) l)
    split
    · exact EI.all g c hg hc l (fun y hy => hl y (List.mem_cons_of_mem _ hy)) (h.tell (s' := { s with sts := Fk.leaveS x.g s.sts, cr := Cr.chL s.cr x.g 1 0 1 }) ⟨7, x.g, c, x.c, 0, g, false, false⟩ (h.sts.leave _) rfl (ev_wake0 ox.1 hc ox.2.1 hg))
    · exact EI.all g c hg hc l (fun y hy => hl y (List.mem_cons_of_mem _ hy)) h
theorem first_ok (s : Lm) : ∀ (l : List Wt), (∀ x ∈ l, okW x) → first s l = -1 ∨ gB (first s l)
  | [], _ => .inl rfl
  | x :: l, hl => by
    show (if parked s x.g then x.g else first s l) = -1 ∨ gB (if parked s x.g then x.g else first s l)
    split
    · exact .inr (hl x (by simp)).1
    · exact first_ok s l (fun y hy => hl y (List.mem_cons_of_mem _ hy))
theorem EI.closes {s : Lm} (h : EI s) (g k : Int) (hg : gB g) (hu : ∀ c st, Fk.nmB s.sts c = some st → gB (num s c)) : EI (closesF s g k).s ∧ ((closesF s g k).who = -1 ∨ gB (closesF s g k).who) := by
  unfold closesF
  split
  · exact ⟨h, .inr hg⟩
  · rename_i st e
    split
    · exact ⟨h, .inr hg⟩
    · have hc := hu k st e
      have os := h.sts.nm e
      exact ⟨EI.all _ _ hg hc _ os.rcv (h.tell _ (h.sts.set os.close) rfl (ev_close hg hc)), first_ok _ _ os.snd⟩
theorem EI.panic {s : Lm} (h : EI s) (g : Int) (hg : gB g) : EI (panicS s g) := h.tell (s' := { s with pk := true }) _ h.sts rfl (ev_bare (.inr (.inr rfl)) hg)
/-- no name's number is below -1 -/
def NL (s : Lm) : Prop := ∀ i, i < 8 → -1 ≤ nth s.nm i
theorem EI.do_ {s : Lm} (h : EI s) (v : VI s) (nl : NL s) (g : Int) (o : OpD) {n : Int} (hg : gB g) (ho : De.chk o n = 0) (hcr : s.cr.length ≤ 511) (hmd : s.md ≤ 511) : EI (doF s g o) := by
  obtain ⟨hn, hk, h4, ha, hb, -, hcs⟩ := op_ok ho
  have m0 := v.md0
  have hu : ∀ c st, Fk.nmB s.sts c = some st → gB (num s c) := fun c st e => by
    have := v.nmd e
    unfold gB
    omega
  have hnum : ∀ a : Int, a.toNat < 8 → num s a ≤ 511 := fun a h8 => by
    have := v.nlt _ h8
    unfold num
    omega
  have hcas : ∀ c ∈ cas o, vB c.v := fun c hc => by
    unfold cas at hc
    rw [List.mem_map] at hc
    obtain ⟨x, hx, rfl⟩ := hc
    exact (hcs x hx).2
  by_cases h1 : o.kind = 1
  · rw [do_is1 _ _ _ h1]
    have ha7 : 0 ≤ o.a ∧ o.a ≤ 7 := by rw [h1] at ha; simp [De.mA] at ha; omega
    refine h.tell (s' := { s with cr := _ }) _ h.sts rfl (ev_spawn hg ha7 ?_)
    unfold Cr.spV gB
    rw [if_neg (by omega), if_neg (by omega)]
    omega
  by_cases h2 : o.kind = 2
  · rw [do_is2 _ _ _ h2]
    have hb4 : 0 ≤ o.b ∧ o.b ≤ 4 := by rw [h2] at hb; simp [De.mB] at hb; omega
    exact h.tell (s' := { opensS s o.a o.b with cr := _ }) _ (h.sts.set (OkS.new _)) rfl (ev_make hg ⟨m0, hmd⟩ hb4)
  by_cases h7 : o.kind = 7
  · rw [do_is7 _ _ _ h7]
    have ha7 : 0 ≤ o.a ∧ o.a ≤ 7 := by rw [h7] at ha; simp [De.mA] at ha; omega
    exact h.tell (s' := { s with cr := _ }) _ h.sts rfl (ev_cell (.inl rfl) hg ha7)
  by_cases h8 : o.kind = 8
  · rw [do_is8 _ _ _ h8]
    have ha7 : 0 ≤ o.a ∧ o.a ≤ 7 := by rw [h8] at ha; simp [De.mA] at ha; omega
    exact h.tell (s' := { s with cr := _ }) _ h.sts rfl (ev_cell (.inr rfl) hg ha7)
  by_cases h9 : o.kind = 9
  · rw [do_is9 _ _ _ h9]
    exact h.tell (s' := { s with cr := _ }) _ h.sts rfl (ev_bare (.inr (.inl rfl)) hg)
  have low : ∀ a : Int, a.toNat < 8 → -1 ≤ num s a := fun a h8 => nl _ h8
  by_cases h3 : o.kind = 3
  · rw [do_is3 _ _ _ h3]
    have a8 : o.a.toNat < 8 := by rw [h3] at ha; simp [De.mA] at ha; omega
    have hb9 : vB o.b := by rw [h3] at hb; simp [De.mB] at hb; exact hb
    have q := h.alone g ⟨true, o.a, o.b⟩ hg hb9 (by simp) (fun st e => hu _ st e) ⟨low _ a8, hnum _ a8⟩
    split
    · exact q
    · exact q.panic _ hg
  by_cases h4' : o.kind = 4
  · rw [do_is4 _ _ _ h4']
    have a8 : o.a.toNat < 8 := by rw [h4'] at ha; simp [De.mA] at ha; omega
    exact h.alone g ⟨false, o.a, 0⟩ hg (by unfold vB; simp) (fun _ => rfl) (fun st e => hu _ st e) ⟨low _ a8, hnum _ a8⟩
  by_cases h5 : o.kind = 5
  · rw [do_is5 _ _ _ h5]
    obtain ⟨q, w⟩ := h.closes g o.a hg hu
    split
    · exact q
    · rename_i z
      rcases w with w | w
      · exact absurd w z
      · exact q.panic _ w
  by_cases h6 : o.kind = 6
  · rw [do_is6 _ _ _ h6]
    have q := h.choose g o hg h4 hcas hu
    split
    · exact q
    · exact q.panic _ hg
  rw [do_is0 _ _ _ h1 h2 h7 h8 h9 h3 h4' h5 h6]
  exact h
end Lo
end Go.Proofs.YtkkgbeaaekmhfaaGreat
