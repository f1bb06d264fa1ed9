/- Compact entries change nothing but that they stand in the trace. -/
import Derived.Test.YtkkgbeaaekmhfaaGreatZjGl12
import Derived.Test.YtkkgbeaaekmhfaaGreatHs
namespace Go.Proofs.YtkkgbeaaekmhfaaGreat
namespace Lo
open Ba

/-- another plan, and something ahead in the trace -/
def pre (t : List Ev) (p : List Int) (s : Lm) : Lm := { s with p := p, tr := t ++ s.tr }
section
variable (t : List Ev) (p : List Int)
theorem pre_tell (s : Lm) (e : Ev) : tellS (pre t p s) e = pre t p (tellS s e) := by simp [pre, tellS]
theorem pre_go (s : Lm) (e : Ev) : goS (pre t p s) e = pre t p (goS s e) := by simp [pre, goS, tellS]
theorem pre_waits (s : Lm) (e : Ev) : waitsS (pre t p s) e = pre t p (waitsS s e) := by simp [pre, waitsS, tellS]
theorem pre_wakes (s : Lm) (e : Ev) : wakesS (pre t p s) e = pre t p (wakesS s e) := by simp [pre, wakesS, tellS]
theorem pre_panic (s : Lm) (g : Int) : panicS (pre t p s) g = pre t p (panicS s g) := by simp [pre, panicS, tellS]
theorem pre_try (s : Lm) (g at_ : Int) (c : Ca) : tryF (pre t p s) g at_ c = ⟨pre t p (tryF s g at_ c).s, (tryF s g at_ c).done, (tryF s g at_ c).fine⟩ := by
  have e : ∀ sts, ({ pre t p s with sts := sts } : Lm) = pre t p { s with sts := sts } := fun _ => rfl
  unfold tryF
  show (if Fk.tryE s.sts c ≠ 0 ∨ (Fk.tryG s.sts c).rd = false then (⟨{ pre t p s with sts := Fk.tryS s.sts c }, false, Fk.tryE s.sts c == 0⟩ : Tr3) else if (Fk.tryG s.sts c).wk then ⟨wakesS (goS { pre t p s with sts := Fk.tryS s.sts c } (tryV s g at_ c (Fk.tryG s.sts c))) (servV (tryV s g at_ c (Fk.tryG s.sts c)) (Fk.tryG s.sts c)), true, true⟩ else ⟨goS { pre t p s with sts := Fk.tryS s.sts c } (tryV s g at_ c (Fk.tryG s.sts c)), true, true⟩) = _
  rw [e]
  split
  · rfl
  · split
    · rw [pre_go, pre_wakes]
    · rw [pre_go]
theorem pre_alone (s : Lm) (g : Int) (c : Ca) : aloneF (pre t p s) g c = ⟨pre t p (aloneF s g c).s, (aloneF s g c).fine⟩ := by
  unfold aloneF
  rw [pre_try]
  simp only
  split
  · rfl
  · rw [show num (pre t p s) c.ch = num s c.ch from rfl]
    congr 1
    exact pre_waits t p { (tryF s g (-1) c).s with sts := waitN (tryF s g (-1) c).s.sts c g } _
theorem pre_choose (s : Lm) (g : Int) (o : OpD) : chooseF (pre t p s) g o = ⟨pre t p (chooseF s g o).s, (chooseF s g o).fine⟩ := by
  unfold chooseF
  show (if 0 < (Fk.rdyL (cas o) s.sts).length then (⟨(tryF (pre t p { s with d := Pk.dr s.d (Fk.rdyL (cas o) s.sts).length }) g _ _).s, (tryF (pre t p { s with d := Pk.dr s.d (Fk.rdyL (cas o) s.sts).length }) g _ _).fine⟩ : Tr2) else if o.def_ then ⟨goS (pre t p s) (bareE 8 g), true⟩ else ⟨waitsS (pre t p { s with sts := Fk.pkA g (cas o) s.sts }) _, true⟩) = _
  split
  · rw [pre_try]
    rfl
  · split
    · rw [pre_go]
    · rw [pre_waits]
theorem pre_all (g c : Int) : ∀ (l : List Wt) (s : Lm), wakeAll g c (pre t p s) l = pre t p (wakeAll g c s l)
  | [], _ => rfl
  | x :: l, s => by
    show wakeAll g c (if parked s x.g then wakesS (pre t p s) _ else pre t p s) l = pre t p (wakeAll g c (if parked s x.g then _ else s) l)
    rw [← pre_all g c l]
    congr 1
    split
    · exact pre_wakes _ _ _ _
    · rfl
theorem pre_first (s : Lm) : ∀ (l : List Wt), first (pre t p s) l = first s l
  | [] => rfl
  | x :: l => by
    show (if parked s x.g then x.g else first (pre t p s) l) = (if parked s x.g then x.g else first s l)
    rw [pre_first s l]
theorem pre_closes (s : Lm) (g k : Int) : closesF (pre t p s) g k = ⟨pre t p (closesF s g k).s, (closesF s g k).who⟩ := by
  unfold closesF
  rw [show (pre t p s).sts = s.sts from rfl, show num (pre t p s) k = num s k from rfl]
  split
  · rfl
  · rename_i st e
    split
    · rfl
    · have e1 : goS { pre t p s with sts := s.sts.set k.toNat (some (_root_.Go.Proofs.YtkkgbeaaekmhfaaGreat.Pi.closeS st)) } ⟨5, g, num s k, -1, -1, -1, false, false⟩ = pre t p (goS { s with sts := s.sts.set k.toNat (some (_root_.Go.Proofs.YtkkgbeaaekmhfaaGreat.Pi.closeS st)) } ⟨5, g, num s k, -1, -1, -1, false, false⟩) := pre_go t p { s with sts := s.sts.set k.toNat (some (_root_.Go.Proofs.YtkkgbeaaekmhfaaGreat.Pi.closeS st)) } _
      rw [e1, pre_all, pre_first]
theorem do_is1 (s : Lm) (g : Int) (o : OpD) (h : o.kind = 1) : doF s g o = (goS { s with cr := Cr.spL s.cr o.a } ⟨1, g, -1, -1, o.a, Cr.spV s.cr o.a, false, false⟩) := by
  unfold doF
  rw [if_pos h]
theorem do_is2 (s : Lm) (g : Int) (o : OpD) (h : o.kind = 2) : doF s g o = (goS (opensS s o.a o.b) ⟨2, g, s.md, -1, o.b, -1, false, false⟩) := by
  unfold doF
  rw [if_neg (by omega), if_pos h]
theorem do_is7 (s : Lm) (g : Int) (o : OpD) (h : o.kind = 7) : doF s g o = (goS s ⟨9, g, -1, -1, o.a, -1, false, false⟩) := by
  unfold doF
  rw [if_neg (by omega), if_neg (by omega), if_pos h]
theorem do_is8 (s : Lm) (g : Int) (o : OpD) (h : o.kind = 8) : doF s g o = (goS s ⟨10, g, -1, -1, o.a, -1, false, false⟩) := by
  unfold doF
  rw [if_neg (by omega), if_neg (by omega), if_neg (by omega), if_pos h]
theorem do_is9 (s : Lm) (g : Int) (o : OpD) (h : o.kind = 9) : doF s g o = (tellS { s with cr := Cr.chL s.cr g 0 2 0 } (bareE 11 g)) := by
  unfold doF
  rw [if_neg (by omega), if_neg (by omega), if_neg (by omega), if_neg (by omega), if_pos h]
theorem do_is3 (s : Lm) (g : Int) (o : OpD) (h : o.kind = 3) : doF s g o = (if (aloneF s g ⟨true, o.a, o.b⟩).fine then (aloneF s g ⟨true, o.a, o.b⟩).s else panicS (aloneF s g ⟨true, o.a, o.b⟩).s g) := by
  unfold doF
  rw [if_neg (by omega), if_neg (by omega), if_neg (by omega), if_neg (by omega), if_neg (by omega), if_pos h]
theorem do_is4 (s : Lm) (g : Int) (o : OpD) (h : o.kind = 4) : doF s g o = ((aloneF s g ⟨false, o.a, 0⟩).s) := by
  unfold doF
  rw [if_neg (by omega), if_neg (by omega), if_neg (by omega), if_neg (by omega), if_neg (by omega), if_neg (by omega), if_pos h]
theorem do_is5 (s : Lm) (g : Int) (o : OpD) (h : o.kind = 5) : doF s g o = (if (closesF s g o.a).who = -1 then (closesF s g o.a).s else panicS (closesF s g o.a).s (closesF s g o.a).who) := by
  unfold doF
  rw [if_neg (by omega), if_neg (by omega), if_neg (by omega), if_neg (by omega), if_neg (by omega), if_neg (by omega), if_neg (by omega), if_pos h]
theorem do_is6 (s : Lm) (g : Int) (o : OpD) (h : o.kind = 6) : doF s g o = (if (chooseF s g o).fine then (chooseF s g o).s else panicS (chooseF s g o).s g) := by
  unfold doF
  rw [if_neg (by omega), if_neg (by omega), if_neg (by omega), if_neg (by omega), if_neg (by omega), if_neg (by omega), if_neg (by omega), if_neg (by omega), if_pos h]
theorem do_is0 (s : Lm) (g : Int) (o : OpD) (h1 : o.kind ≠ 1) (h2 : o.kind ≠ 2) (h7 : o.kind ≠ 7) (h8 : o.kind ≠ 8) (h9 : o.kind ≠ 9) (h3 : o.kind ≠ 3) (h4 : o.kind ≠ 4) (h5 : o.kind ≠ 5) (h6 : o.kind ≠ 6) : doF s g o = s := by
  unfold doF
  rw [if_neg h1, if_neg h2, if_neg h7, if_neg h8, if_neg h9, if_neg h3, if_neg h4, if_neg h5, if_neg h6]
theorem pre_do (s : Lm) (g : Int) (o : OpD) : doF (pre t p s) g o = pre t p (doF s g o) := by
  by_cases h1 : o.kind = 1
  · rw [do_is1 _ _ _ h1, do_is1 _ _ _ h1]
    exact pre_go t p { s with cr := Cr.spL s.cr o.a } _
  by_cases h2 : o.kind = 2
  · rw [do_is2 _ _ _ h2, do_is2 _ _ _ h2]
    exact pre_go t p (opensS s o.a o.b) _
  by_cases h7 : o.kind = 7
  · rw [do_is7 _ _ _ h7, do_is7 _ _ _ h7]
    exact pre_go _ _ _ _
  by_cases h8 : o.kind = 8
  · rw [do_is8 _ _ _ h8, do_is8 _ _ _ h8]
    exact pre_go _ _ _ _
  by_cases h9 : o.kind = 9
  · rw [do_is9 _ _ _ h9, do_is9 _ _ _ h9]
    exact pre_tell t p { s with cr := Cr.chL s.cr g 0 2 0 } _
  by_cases h3 : o.kind = 3
  · rw [do_is3 _ _ _ h3, do_is3 _ _ _ h3, pre_alone]
    generalize aloneF s g ⟨true, o.a, o.b⟩ = R
    obtain ⟨sR, fR⟩ := R
    cases fR
    · exact pre_panic t p sR g
    · rfl
  by_cases h4 : o.kind = 4
  · rw [do_is4 _ _ _ h4, do_is4 _ _ _ h4, pre_alone]
  by_cases h5 : o.kind = 5
  · rw [do_is5 _ _ _ h5, do_is5 _ _ _ h5, pre_closes]
    generalize closesF s g o.a = R
    obtain ⟨sR, wR⟩ := R
    show (if wR = -1 then pre t p sR else panicS (pre t p sR) wR) = pre t p (if wR = -1 then sR else panicS sR wR)
    split
    · rfl
    · exact pre_panic t p sR wR
  by_cases h6 : o.kind = 6
  · rw [do_is6 _ _ _ h6, do_is6 _ _ _ h6, pre_choose]
    generalize chooseF s g o = R
    obtain ⟨sR, fR⟩ := R
    cases fR
    · exact pre_panic t p sR g
    · rfl
  rw [do_is0 _ _ _ h1 h2 h7 h8 h9 h3 h4 h5 h6, do_is0 _ _ _ h1 h2 h7 h8 h9 h3 h4 h5 h6]
end
/-- no Compact is told -/
def NC (s : Lm) : Prop := ∀ e ∈ s.tr, e.k ≠ 13
theorem NC.tell {s : Lm} {e : Ev} (h : NC s) (he : e.k ≠ 13) : NC (tellS s e) := fun x hx => by
  have hx' : x ∈ s.tr ++ [e] := hx
  rw [List.mem_append] at hx'
  rcases hx' with q | q
  · exact h x q
  · simp at q
    rw [q]
    exact he
theorem NC.sm {s s' : Lm} (h : NC s) (e : s'.tr = s.tr) : NC s' := fun x hx => h x (by rw [← e]; exact hx)
theorem NC.try {s : Lm} (h : NC s) (g at_ : Int) (c : Ca) : NC (tryF s g at_ c).s := by
  unfold tryF
  have hk : (tryV s g at_ c (Fk.tryG s.sts c)).k ≠ 13 := by unfold tryV; simp only; split <;> omega
  have h1 : NC { s with sts := Fk.tryS s.sts c } := h.sm rfl
  split
  · exact h1
  · split
    · refine NC.tell ?_ (by show (7 : Int) ≠ 13; omega)
      exact (NC.tell (h1.sm rfl) hk).sm rfl
    · exact NC.tell (h1.sm rfl) hk
theorem NC.alone {s : Lm} (h : NC s) (g : Int) (c : Ca) : NC (aloneF s g c).s := by
  unfold aloneF
  split
  · exact h.try _ _ _
  · exact NC.tell ((h.try g (-1) c).sm rfl) (by show (6 : Int) ≠ 13; omega)
theorem NC.choose {s : Lm} (h : NC s) (g : Int) (o : OpD) : NC (chooseF s g o).s := by
  unfold chooseF
  split
  · exact NC.try (s := { s with d := Pk.dr s.d (Fk.rdyL (cas o) s.sts).length }) (h.sm rfl) _ _ _
  · split
    · exact NC.tell (h.sm rfl) (by show (8 : Int) ≠ 13; omega)
    · exact NC.tell (h.sm rfl) (by show (6 : Int) ≠ 13; omega)
theorem NC.all (g c : Int) : ∀ (l : List Wt) {s : Lm}, NC s → NC (wakeAll g c s l)
  | [], _, h => h
  | x :: l, s, h => by
    show NC (wakeAll g c (if parked s x.g then _ else s) l)
    apply NC.all g c l
    split
    · exact NC.tell (h.sm rfl) (by show (7 : Int) ≠ 13; omega)
    · exact h
theorem NC.closes {s : Lm} (h : NC s) (g k : Int) : NC (closesF s g k).s := by
  unfold closesF
  split
  · exact h
  · split
    · exact h
    · exact NC.all _ _ _ (NC.tell (h.sm rfl) (by show (5 : Int) ≠ 13; omega))
theorem NC.panic {s : Lm} (h : NC s) (g : Int) : NC (panicS s g) := NC.tell (h.sm rfl) (by show (12 : Int) ≠ 13; omega)
theorem NC.do_ {s : Lm} (h : NC s) (g : Int) (o : OpD) : NC (doF s g o) := by
  unfold doF
  split
  · exact NC.tell (h.sm rfl) (by show (1 : Int) ≠ 13; omega)
  · split
    · exact NC.tell (h.sm rfl) (by show (2 : Int) ≠ 13; omega)
    · split
      · exact NC.tell (h.sm rfl) (by show (9 : Int) ≠ 13; omega)
      · split
        · exact NC.tell (h.sm rfl) (by show (10 : Int) ≠ 13; omega)
        · split
          · exact NC.tell (h.sm rfl) (by show (11 : Int) ≠ 13; omega)
          · split
            · split
              · exact h.alone _ _
              · exact (h.alone _ _).panic _
            · split
              · exact h.alone _ _
              · split
                · split
                  · exact h.closes _ _
                  · exact (h.closes _ _).panic _
                · split
                  · split
                    · exact h.choose _ _
                    · exact (h.choose _ _).panic _
                  · exact h
def nk (e : Ev) : Bool := !(e.k == 13)
/-- without Compact entries, and without what is told of them -/
def er (s : Lm) : Lm := { s with p := Sh.bar s.p, tr := s.tr.filter nk }
theorem er_comp {s : Lm} (hv : verd s = 0) (ht : nth s.p 0 = -1) : er (stepF s) = er s := by
  have hp : ∃ p, s.p = -1 :: p := by
    cases h : s.p with
    | nil => rw [h] at ht; simp [nth] at ht
    | cons x p => rw [h] at ht; simp [nth] at ht; exact ⟨p, by rw [ht]⟩
  obtain ⟨p, hp⟩ := hp
  unfold stepF
  rw [if_neg (by omega), if_pos ht]
  simp [er, tellS, hp, Sh.bar, nk, bareE]
theorem er_op {s : Lm} (hv : verd s = 0) (ht : nth s.p 0 ≠ -1) : er (stepF s) = stepF (er s) ∧ verd (er s) = 0 := by
  have hpl : s.p.length ≠ 0 := fun z => by
    unfold verd at hv
    rw [if_pos z] at hv
    split at hv
    · omega
    · split at hv <;> omega
  obtain ⟨x, p, hp⟩ : ∃ x p, s.p = x :: p := by
    cases h : s.p with
    | nil => rw [h] at hpl; simp at hpl
    | cons x p => exact ⟨x, p, rfl⟩
  have hx : x ≠ -1 := by rw [hp] at ht; simpa [nth] using ht
  have hb : Sh.bar s.p = x :: Sh.bar p := by rw [hp]; simp [Sh.bar, hx]
  have hv2 : verd (er s) = 0 := by
    unfold verd at hv ⊢
    rw [if_neg hpl] at hv
    show (if s.pk then (3 : Int) else if Cr.ovr s.cr ≠ 0 then Cr.ovr s.cr else if (Sh.bar s.p).length = 0 then 4 else 0) = 0
    rw [hb, if_neg (by simp : ¬ ((x :: Sh.bar p).length = 0))]
    exact hv
  refine ⟨?_, hv2⟩
  have ht2 : nth (er s).p 0 = nth s.p 0 := by show nth (Sh.bar s.p) 0 = _; rw [hb, hp]; simp [nth]
  have hw : whoN (er s) = whoN s := by
    unfold whoN
    rw [ht2]
    rfl
  have ho : opOf (er s) (whoN (er s)) = opOf s (whoN s) := by rw [hw]; rfl
  have e1 : stepF s = doF { s with p := s.p.tail } (whoN s) (opOf s (whoN s)) := by
    unfold stepF
    rw [if_neg (by omega), if_neg ht]
  have e2 : stepF (er s) = doF { er s with p := (er s).p.tail } (whoN s) (opOf s (whoN s)) := by
    unfold stepF
    rw [if_neg (by omega), if_neg (by rw [ht2]; exact ht), ho, hw]
  have s1 : ({ s with p := s.p.tail } : Lm) = pre s.tr p { s with p := [], tr := [] } := by rw [hp]; simp [pre]
  have s2 : ({ er s with p := (er s).p.tail } : Lm) = pre (s.tr.filter nk) (Sh.bar p) { s with p := [], tr := [] } := by
    have : (er s).p.tail = Sh.bar p := by show (Sh.bar s.p).tail = _; rw [hb]; rfl
    rw [this]
    simp [pre, er]
  rw [e1, e2, s1, s2, pre_do, pre_do]
  have nc : NC (doF { s with p := [], tr := [] } (whoN s) (opOf s (whoN s))) := NC.do_ (fun e he => by simp at he) _ _
  have hf : (doF { s with p := [], tr := [] } (whoN s) (opOf s (whoN s))).tr.filter nk = (doF { s with p := [], tr := [] } (whoN s) (opOf s (whoN s))).tr := by
    rw [List.filter_eq_self]
    intro e he
    simp [nk, nc e he]
  unfold er pre
  simp only [List.filter_append, hf]
theorem er_steps (s : Lm) : ∀ n, ∃ m, er (stepsF n s) = stepsF m (er s)
  | 0 => ⟨0, rfl⟩
  | n + 1 => by
    obtain ⟨m, h⟩ := er_steps s n
    rw [steps_succ]
    by_cases hv : verd (stepsF n s) = 0
    · by_cases ht : nth (stepsF n s).p 0 = -1
      · exact ⟨m, by rw [er_comp hv ht, h]⟩
      · exact ⟨m + 1, by rw [(er_op hv ht).1, h, steps_succ]⟩
    · exact ⟨m, by rw [step_end hv, h]⟩
theorem over_one {s : Lm} {a b : Nat} (ha : verd (stepsF a s) ≠ 0) (hb : verd (stepsF b s) ≠ 0) : stepsF a s = stepsF b s := by
  rcases Nat.le_total a b with h | h
  · obtain ⟨m, rfl⟩ : ∃ m, b = a + m := ⟨b - a, by omega⟩
    rw [steps_add, steps_end ha]
  · obtain ⟨m, rfl⟩ : ∃ m, a = b + m := ⟨a - b, by omega⟩
    rw [steps_add, steps_end hb]
theorem er_verd {s : Lm} (h : verd s ≠ 0) : verd (er s) = verd s := by
  unfold verd at h ⊢
  show (if s.pk then (3 : Int) else if Cr.ovr s.cr ≠ 0 then Cr.ovr s.cr else if (Sh.bar s.p).length = 0 then 4 else 0) = _
  split
  · rfl
  · rename_i h1
    rw [if_neg h1] at h
    split
    · rfl
    · rename_i h2
      rw [if_neg h2] at h
      split at h
      · rename_i h3
        have : s.p = [] := List.eq_nil_of_length_eq_zero h3
        rw [this]
        rfl
      · exact absurd rfl h
/-- a bare script's run -/
theorem bare_run {T M : Int} {ps : List (List OpD)} {pl dr : List Int} (hs : Sh.schk ⟨T, M, ps, pl, dr⟩ = 0) : (runF ⟨T, M, ps, Sh.bar pl, dr⟩).tr = (runF ⟨T, M, ps, pl, dr⟩).tr.filter nk ∧ verd (runF ⟨T, M, ps, Sh.bar pl, dr⟩) = verd (runF ⟨T, M, ps, pl, dr⟩) := by
  have h1 := run_over hs
  have h2 := run_over (Sh.schk_bar hs)
  obtain ⟨m, hm⟩ := er_steps (newS ⟨T, M, ps, pl, dr⟩) pl.length
  have e0 : er (newS ⟨T, M, ps, pl, dr⟩) = newS ⟨T, M, ps, Sh.bar pl, dr⟩ := rfl
  rw [e0] at hm
  have e1 : er (runF ⟨T, M, ps, pl, dr⟩) = stepsF m (newS ⟨T, M, ps, Sh.bar pl, dr⟩) := hm
  have h3 := er_verd h1
  have h4 : verd (stepsF m (newS ⟨T, M, ps, Sh.bar pl, dr⟩)) ≠ 0 := by rw [← e1, h3]; exact h1
  have e2 : runF ⟨T, M, ps, Sh.bar pl, dr⟩ = er (runF ⟨T, M, ps, pl, dr⟩) := by
    rw [e1]
    exact over_one h2 h4
  rw [e2]
  exact ⟨rfl, h3⟩
end Lo
end Go.Proofs.YtkkgbeaaekmhfaaGreat
