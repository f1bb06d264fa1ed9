/- A loom's trace is taken by the reader: all steps, and how long it is; without memory. -/
import Derived.Test.YtkkgbeaaekmhfaaGreatZjGl12
import Derived.Test.YtkkgbeaaekmhfaaGreatQr6
namespace Go.Proofs.YtkkgbeaaekmhfaaGreat
namespace Lo
open Ba

section
variable {s : Lm} {gs : Gu.Gs} {g : Int} {y z : Mb}
theorem WQ.wg {sts : List (Option St)} {cr : List Mb} (h : WQ sts cr) (g : Int) : WG g sts cr := fun x hx => .inr (h x hx)
theorem RI.alone (h : RI s gs) (v : VI s) (hp : s.pk = false) (hg : Cr.gt s.cr g = some y) (hy : y.s = 0) (c : Ca) (hc : num s c.ch < s.md) : ∃ gs', RI (aloneF s g c).s gs' := by
  unfold aloneF
  cases hd : (tryF s g (-1) c).done
  · have e := try_no hd
    cases hf : (tryF s g (-1) c).fine
    · simp only [Bool.not_false, Bool.or_true, if_true]
      rw [e]
      exact ⟨gs, h⟩
    · simp only [Bool.not_true, Bool.or_false, Bool.false_eq_true, if_false]
      rw [e]
      exact h.waits hp (sts' := waitN s.sts c g) ⟨6, g, num s c.ch, -1, c.v, -1, c.sd, false⟩ hg hy rfl hc (Sv.wait _ _ _) ((h.w.wg g).wait c) (h.c.wait _ _)
  · simp only [Bool.true_or, if_true]
    exact h.try_ v hp hg hy _ _
theorem alone_no {c : Ca} (h : (aloneF s g c).fine = false) : (aloneF s g c).s = s := by
  unfold aloneF at h ⊢
  cases hd : (tryF s g (-1) c).done
  · rw [hd] at h
    cases hf : (tryF s g (-1) c).fine
    · simp only [Bool.not_false, Bool.or_true, if_true]
      exact try_no hd
    · rw [hf] at h
      simp at h
  · rw [hd] at h
    simp only [Bool.true_or, if_true] at h
    exfalso
    unfold tryF at hd h
    split at hd
    · cases hd
    · rename_i q
      rw [if_neg q] at h
      split at h <;> cases h
theorem try_fine {a : Int} {c : Ca} (h : (tryF s g a c).fine = false) : (tryF s g a c).s = s := by
  apply try_no
  unfold tryF at h ⊢
  split
  · rfl
  · rename_i q
    rw [if_neg q] at h
    split at h <;> cases h
theorem RI.choose (h : RI s gs) (v : VI s) (hp : s.pk = false) (hg : Cr.gt s.cr g = some y) (hy : y.s = 0) (o : OpD) : ∃ gs', RI (chooseF s g o).s gs' := by
  have m0 := v.md0
  have key : ∀ d, RI { s with d := d } gs := fun d => h.eqv rfl rfl rfl rfl rfl rfl
  have kv : ∀ d, VI { s with d := d } := fun d => ⟨v.l1, v.l2, v.md0, v.lt, v.nlt, v.inj, v.ch, v.pre⟩
  unfold chooseF
  split
  · exact (key (Pk.dr s.d (Fk.rdyL (cas o) s.sts).length)).try_ (kv _) hp hg hy _ _
  · split
    · exact h.go hp (bareE 8 g) hg hy (.inl rfl) rfl
    · exact h.waits hp (sts' := Fk.pkA g (cas o) s.sts) ⟨6, g, -1, o.cases.length, 0, -1, false, false⟩ hg hy rfl (by show (-1 : Int) < s.md; omega) (Sv.pkA _ _ _) ((h.w.wg g).pkA _) (h.c.pkA _ _)
theorem choose_no {o : OpD} (h : (chooseF s g o).fine = false) : ∃ d, (chooseF s g o).s = { s with d := d } := by
  unfold chooseF at h ⊢
  split
  · rename_i q
    rw [if_pos q] at h
    exact ⟨_, try_fine h⟩
  · rename_i q
    rw [if_neg q] at h
    split at h <;> cases h
theorem first_is (s : Lm) : ∀ l : List Wt, first s l = -1 ∨ parked s (first s l) = true
  | [] => .inl rfl
  | x :: l => by
    unfold first
    split
    · rename_i q
      exact .inr q
    · exact first_is s l
theorem all_pk (g c : Int) : ∀ (l : List Wt) (s : Lm), (wakeAll g c s l).pk = s.pk
  | [], _ => rfl
  | x :: l, s => by
    show (wakeAll g c (if parked s x.g then _ else s) l).pk = s.pk
    rw [all_pk g c l]
    split <;> rfl
theorem RI.closes (h : RI s gs) (v : VI s) (hp : s.pk = false) (hg : Cr.gt s.cr g = some y) (hy : y.s = 0) (n : Int) : ∃ gs', RI (if (closesF s g n).who = -1 then (closesF s g n).s else panicS (closesF s g n).s (closesF s g n).who) gs' := by
  have g0 := (gt_at hg).1
  unfold closesF
  cases hn : Fk.nmB s.sts n with
  | none =>
    simp only
    rw [if_neg (by omega)]
    exact h.panic hp hg (by omega)
  | some st =>
    simp only
    cases hc : st.closed
    · simp only [Bool.false_eq_true, if_false]
      obtain ⟨gs1, h1⟩ := h.close v hp hg hy hn hc
      split
      · exact ⟨gs1, h1⟩
      · rename_i q
        rcases first_is (wakeAll g (num s n) (goS { s with sts := s.sts.set n.toNat (some (_root_.Go.Proofs.YtkkgbeaaekmhfaaGreat.Pi.closeS st)) } ⟨5, g, num s n, -1, -1, -1, false, false⟩) st.rcv) st.snd with w | w
        · exact absurd w q
        · obtain ⟨z, hz, hz1⟩ := parked_some w
          exact h1.panic (by rw [all_pk]; exact hp) hz (by omega)
    · simp only [if_true]
      rw [if_neg (by omega)]
      exact h.panic hp hg (by omega)
theorem RI.do_ (h : RI s gs) (v : VI s) (hp : s.pk = false) (hg : Cr.gt s.cr g = some y) (hy : y.s = 0) (o : OpD) {n : Int} (ho : De.chk o n = 0) (hcr : s.cr.length < 512) : ∃ gs', RI (doF s g o) gs' := by
  obtain ⟨hn, hk, h4, ha, hb, -, hcs⟩ := op_ok ho
  have m0 := v.md0
  by_cases h1 : o.kind = 1
  · rw [do_is1 _ _ _ h1]
    have ha7 : 0 ≤ o.a := by rw [h1] at ha; simp [De.mA] at ha; omega
    exact h.spawn hp o.a ha7 hcr hg hy
  by_cases h2 : o.kind = 2
  · rw [do_is2 _ _ _ h2]
    have ha7 : 0 ≤ o.a ∧ o.a < 8 := by rw [h2] at ha; simp [De.mA] at ha; omega
    have hb4 : 0 ≤ o.b := by rw [h2] at hb; simp [De.mB] at hb; omega
    exact h.make v hp o.a o.b ha7 hb4 hg hy
  by_cases h7 : o.kind = 7
  · rw [do_is7 _ _ _ h7]
    exact h.go hp ⟨9, g, -1, -1, o.a, -1, false, false⟩ hg hy (.inr (.inl rfl)) rfl
  by_cases h8 : o.kind = 8
  · rw [do_is8 _ _ _ h8]
    exact h.go hp ⟨10, g, -1, -1, o.a, -1, false, false⟩ hg hy (.inr (.inr rfl)) rfl
  by_cases h9 : o.kind = 9
  · rw [do_is9 _ _ _ h9]
    exact h.exit hp hg hy
  by_cases h3 : o.kind = 3
  · rw [do_is3 _ _ _ h3]
    have a8 : o.a.toNat < 8 := by rw [h3] at ha; simp [De.mA] at ha; omega
    split
    · exact h.alone v hp hg hy ⟨true, o.a, o.b⟩ (v.nlt _ a8)
    · rename_i q
      rw [alone_no (by simpa using q)]
      exact h.panic hp hg (by omega)
  by_cases h4' : o.kind = 4
  · rw [do_is4 _ _ _ h4']
    have a8 : o.a.toNat < 8 := by rw [h4'] at ha; simp [De.mA] at ha; omega
    exact h.alone v hp hg hy ⟨false, o.a, 0⟩ (v.nlt _ a8)
  by_cases h5 : o.kind = 5
  · rw [do_is5 _ _ _ h5]
    exact h.closes v hp hg hy o.a
  by_cases h6 : o.kind = 6
  · rw [do_is6 _ _ _ h6]
    split
    · exact h.choose v hp hg hy o
    · rename_i q
      obtain ⟨d, e⟩ := choose_no (s := s) (g := g) (o := o) (by simpa using q)
      rw [e]
      exact RI.panic (s := { s with d := d }) (h.eqv rfl rfl rfl rfl rfl rfl) hp hg (by omega)
  rw [do_is0 _ _ _ h1 h2 h7 h8 h9 h3 h4' h5 h6]
  exact ⟨gs, h⟩
end
theorem RI.new (sc : Sh.Sc) : RI (newS sc) Gu.gs0 := by
  have hno : ∀ (i : Nat) (st : St), (newS sc).sts[i]? = some (some st) → False := fun i st e => by
    have e' : (List.replicate 8 (none : Option St))[i]? = some (some st) := e
    rw [List.getElem?_replicate] at e'
    split at e' <;> simp at e'
  exact ⟨rfl, ⟨rfl, rfl, rfl, fun i st hi => (hno i st hi).elim, by decide⟩, fun x ⟨i, st, hi, _⟩ => (hno i st hi).elim, fun i st hi => (hno i st hi).elim⟩
theorem plan_nn {sc : Sh.Sc} {n : Nat} {s : Lm} (hs : Sh.schk sc = 0) (i : Inv sc n s) (hv : verd s = 0) (ht : nth s.p 0 ≠ -1) : 0 ≤ nth s.p 0 := by
  obtain ⟨-, -, -, -, -, h6, -⟩ := schk_ok hs
  have hpl : 0 < s.p.length := by
    rcases Nat.eq_zero_or_pos s.p.length with z | z
    · exfalso
      unfold verd at hv
      rw [if_pos z] at hv
      split at hv
      · omega
      · split at hv <;> omega
    · exact z
  have hm : nth s.p 0 ∈ sc.pl := by
    rw [nth_lt _ _ hpl]
    have hsub : ∀ x ∈ s.p, x ∈ sc.pl := fun x hx => by
      rw [i.p] at hx
      exact List.mem_of_mem_drop hx
    exact hsub _ (List.getElem_mem hpl)
  have := h6 _ hm
  omega
theorem pk_of {s : Lm} (hv : verd s = 0) : s.pk = false := by
  cases h : s.pk
  · rfl
  · unfold verd at hv
    rw [h] at hv
    simp at hv
theorem gt_k {l : List Mb} {k : Nat} {y : Mb} (h : l[k]? = some y) : Cr.gt l (k : Int) = some y := by rw [Cr.gt_nat]; exact h
theorem RI.step {sc : Sh.Sc} {n : Nat} {s : Lm} {gs : Gu.Gs} (hs : Sh.schk sc = 0) (i : Inv sc n s) (v : VI s) (h : RI s gs) : ∃ gs', RI (stepF s) gs' := by
  by_cases hv : verd s = 0
  · have hp := pk_of hv
    unfold stepF
    rw [if_neg (by omega)]
    by_cases ht : nth s.p 0 = -1
    · rw [if_pos ht]
      exact h.compact hp _
    · rw [if_neg ht]
      obtain ⟨k, y, hw, hk, hy⟩ := who_ok hv (plan_nn hs i hv ht)
      have hc := i.b.cl
      have hn := i.n200 hs
      have h1 : RI { s with p := s.p.tail } gs := h.eqv rfl rfl rfl rfl rfl rfl
      rw [hw]
      exact h1.do_ (v.plan _) hp (gt_k hk) hy _ (op_chk hs i _) (by show s.cr.length < 512; omega)
  · rw [step_end hv]
    exact ⟨gs, h⟩
theorem RI.steps {sc : Sh.Sc} (hs : Sh.schk sc = 0) : ∀ n, ∃ gs, RI (stepsF n (newS sc)) gs
  | 0 => ⟨_, RI.new sc⟩
  | n + 1 => by
    obtain ⟨gs, h⟩ := RI.steps hs n
    obtain ⟨k, -, i, -⟩ := Inv.steps hs n
    rw [steps_succ]
    exact h.step hs i (VI.steps hs n)
end Lo
end Go.Proofs.YtkkgbeaaekmhfaaGreat
