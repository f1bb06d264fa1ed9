import Derived.Test.YtkcbokhkmcmpdabGreatZjLb9
/- Other draws change nothing where nothing is drawn. -/
namespace Go.Proofs.YtkcbokhkmcmpdabGreat
namespace Lo
open Ba

/-- other draws -/
def dw (d : List Int) (s : Lm) : Lm := { s with d := d }
section
variable (d : List Int)
theorem dw_try (s : Lm) (g at_ : Int) (c : Ca) : tryF (dw d s) g at_ c = ⟨dw d (tryF s g at_ c).s, (tryF s g at_ c).done, (tryF s g at_ c).fine⟩ := by
  unfold tryF
  show (if Fk.tryE s.sts c ≠ 0 ∨ (Fk.tryG s.sts c).rd = false then (⟨{ dw d s with sts := Fk.tryS s.sts c }, false, Fk.tryE s.sts c == 0⟩ : Tr3) else if (Fk.tryG s.sts c).wk then ⟨wakesS (goS { dw d s with sts := Fk.tryS s.sts c } (tryV s g at_ c (Fk.tryG s.sts c))) (servV (tryV s g at_ c (Fk.tryG s.sts c)) (Fk.tryG s.sts c)), true, true⟩ else ⟨goS { dw d s with sts := Fk.tryS s.sts c } (tryV s g at_ c (Fk.tryG s.sts c)), true, true⟩) = _
  split
  · rfl
  · split
    · rfl
    · rfl
theorem dw_alone (s : Lm) (g : Int) (c : Ca) : aloneF (dw d s) g c = ⟨dw d (aloneF s g c).s, (aloneF s g c).fine⟩ := by
  unfold aloneF
  rw [dw_try]
  simp only
  split
  · rfl
  · rfl
theorem dv_one {d : List Int} {n : Nat} (h : n ≤ 1) : Pk.dv d n = 0 := by
  unfold Pk.dv
  split
  · rfl
  · rw [if_pos (by omega)]
theorem dr_one {d : List Int} {n : Nat} (h : n ≤ 1) : Pk.dr d n = d := by
  unfold Pk.dr
  rw [if_pos (by omega)]
theorem dw_choose (s : Lm) (g : Int) (o : OpD) (h : o.cases.length ≤ 1) : chooseF (dw d s) g o = ⟨dw d (chooseF s g o).s, (chooseF s g o).fine⟩ := by
  have hl : (Fk.rdyL (cas o) s.sts).length ≤ 1 := Nat.le_trans (Fk.ps_len _ _) (by unfold cas; rw [List.length_map]; exact h)
  unfold chooseF
  rw [show (dw d s).sts = s.sts from rfl, dv_one hl, dv_one hl, dr_one hl, dr_one hl]
  by_cases h0 : 0 < (Fk.rdyL (cas o) s.sts).length
  · rw [if_pos h0, if_pos h0]
    exact congrArg (fun x : Tr3 => (⟨x.s, x.fine⟩ : Tr2)) (dw_try d s g _ _)
  · rw [if_neg h0, if_neg h0]
    split
    · rfl
    · rfl
theorem dw_all (g c : Int) : ∀ (l : List Wt) (s : Lm), wakeAll g c (dw d s) l = dw d (wakeAll g c s l)
  | [], _ => rfl
  | x :: l, s => by
    show wakeAll g c (if parked s x.g then wakesS (dw d s) _ else dw d s) l = dw d (wakeAll g c (if parked s x.g then _ else s) l)
    rw [← dw_all g c l]
    congr 1
    split
    · rfl
    · rfl
theorem dw_first (s : Lm) : ∀ (l : List Wt), first (dw d s) l = first s l
  | [] => rfl
  | x :: l => by
    show (if parked s x.g then x.g else first (dw d s) l) = (if parked s x.g then x.g else first s l)
    rw [dw_first s l]
theorem dw_closes (s : Lm) (g k : Int) : closesF (dw d s) g k = ⟨dw d (closesF s g k).s, (closesF s g k).who⟩ := by
  unfold closesF
  rw [show (dw d s).sts = s.sts from rfl, show num (dw d s) k = num s k from rfl]
  split
  · rfl
  · rename_i st e
    split
    · rfl
    · have e1 : goS { dw d s with sts := s.sts.set k.toNat (some (_root_.Go.Proofs.YtkcbokhkmcmpdabGreat.Pi.closeS st)) } ⟨5, g, num s k, -1, -1, -1, false, false⟩ = dw d (goS { s with sts := s.sts.set k.toNat (some (_root_.Go.Proofs.YtkcbokhkmcmpdabGreat.Pi.closeS st)) } ⟨5, g, num s k, -1, -1, -1, false, false⟩) := rfl
      rw [e1, dw_all, dw_first]
theorem dw_do (s : Lm) (g : Int) (o : OpD) (h : o.kind = 6 → o.cases.length ≤ 1) : doF (dw d s) g o = dw d (doF s g o) := by
  by_cases h1 : o.kind = 1
  · rw [do_is1 _ _ _ h1, do_is1 _ _ _ h1]
    rfl
  by_cases h2 : o.kind = 2
  · rw [do_is2 _ _ _ h2, do_is2 _ _ _ h2]
    rfl
  by_cases h7 : o.kind = 7
  · rw [do_is7 _ _ _ h7, do_is7 _ _ _ h7]
    rfl
  by_cases h8 : o.kind = 8
  · rw [do_is8 _ _ _ h8, do_is8 _ _ _ h8]
    rfl
  by_cases h9 : o.kind = 9
  · rw [do_is9 _ _ _ h9, do_is9 _ _ _ h9]
    rfl
  by_cases h3 : o.kind = 3
  · rw [do_is3 _ _ _ h3, do_is3 _ _ _ h3, dw_alone]
    generalize aloneF s g ⟨true, o.a, o.b⟩ = R
    obtain ⟨sR, fR⟩ := R
    cases fR <;> rfl
  by_cases h4 : o.kind = 4
  · rw [do_is4 _ _ _ h4, do_is4 _ _ _ h4, dw_alone]
  by_cases h5 : o.kind = 5
  · rw [do_is5 _ _ _ h5, do_is5 _ _ _ h5, dw_closes]
    generalize closesF s g o.a = R
    obtain ⟨sR, wR⟩ := R
    show (if wR = -1 then dw d sR else panicS (dw d sR) wR) = dw d (if wR = -1 then sR else panicS sR wR)
    split <;> rfl
  by_cases h6 : o.kind = 6
  · rw [do_is6 _ _ _ h6, do_is6 _ _ _ h6, dw_choose _ _ _ _ (h h6)]
    generalize chooseF s g o = R
    obtain ⟨sR, fR⟩ := R
    cases fR <;> rfl
  rw [do_is0 _ _ _ h1 h2 h7 h8 h9 h3 h4 h5 h6, do_is0 _ _ _ h1 h2 h7 h8 h9 h3 h4 h5 h6]
end
/-- no select has more than a case -/
def Fews (ps : List (List OpD)) : Prop := ∀ q ∈ ps, ∀ o ∈ q, o.kind = 6 → o.cases.length ≤ 1
theorem op_few {s : Lm} (h : Fews s.ps) (g : Int) : (opOf s g).kind = 6 → (opOf s g).cases.length ≤ 1 := by
  unfold opOf
  generalize (Cr.one0 (Cr.gt s.cr g)).p.toNat = i
  generalize (Cr.one0 (Cr.gt s.cr g)).q.toNat = j
  cases hi : s.ps[i]? with
  | none => intro e; cases e
  | some q =>
    cases hj : q[j]? with
    | none => simp only [Option.getD_some, hj, Option.getD_none]; intro e; cases e
    | some o =>
      simp only [Option.getD_some, hj]
      exact h q (List.mem_of_getElem? hi) o (List.mem_of_getElem? hj)
theorem step_ps (s : Lm) : (stepF s).ps = s.ps := by
  unfold stepF
  split
  · rfl
  · split
    · rfl
    · exact (sme_do { s with p := s.p.tail } _ _).ps
theorem dw_step (d : List Int) {s : Lm} (h : Fews s.ps) : stepF (dw d s) = dw d (stepF s) := by
  by_cases hv : verd s = 0
  · by_cases hx : nth s.p 0 = -1
    · have e1 : stepF s = tellS { s with p := s.p.tail } (bareE 13 (-1)) := by
        unfold stepF
        rw [if_neg (by omega), if_pos hx]
      have e2 : stepF (dw d s) = tellS { dw d s with p := s.p.tail } (bareE 13 (-1)) := by
        unfold stepF
        rw [if_neg (show ¬ verd (dw d s) ≠ 0 from fun z => z hv), if_pos (show nth (dw d s).p 0 = -1 from hx)]
        rfl
      rw [e1, e2]
      rfl
    · have e1 : stepF s = doF { s with p := s.p.tail } (whoN s) (opOf s (whoN s)) := by
        unfold stepF
        rw [if_neg (by omega), if_neg hx]
      have e2 : stepF (dw d s) = doF (dw d { s with p := s.p.tail }) (whoN s) (opOf s (whoN s)) := by
        unfold stepF
        rw [if_neg (show ¬ verd (dw d s) ≠ 0 from fun z => z hv), if_neg (show ¬ nth (dw d s).p 0 = -1 from hx)]
        rfl
      rw [e1, e2]
      exact dw_do d _ _ _ (op_few h _)
  · rw [step_end hv, step_end (s := dw d s) hv]
theorem dw_steps (d : List Int) : ∀ (n : Nat) {s : Lm}, Fews s.ps → stepsF n (dw d s) = dw d (stepsF n s)
  | 0, _, _ => rfl
  | n + 1, s, h => by
    show stepsF n (stepF (dw d s)) = dw d (stepsF n (stepF s))
    rw [dw_step d h]
    exact dw_steps d n (by rw [step_ps]; exact h)
theorem draws {T M : Int} {ps : List (List OpD)} {pl dr : List Int} (d : List Int) (h : Fews ps) : runF ⟨T, M, ps, pl, d⟩ = dw d (runF ⟨T, M, ps, pl, dr⟩) := dw_steps d pl.length (s := newS ⟨T, M, ps, pl, dr⟩) h
theorem draws_tr {T M : Int} {ps : List (List OpD)} {pl dr : List Int} (d : List Int) (h : Fews ps) : (runF ⟨T, M, ps, pl, d⟩).tr = (runF ⟨T, M, ps, pl, dr⟩).tr ∧ verd (runF ⟨T, M, ps, pl, d⟩) = verd (runF ⟨T, M, ps, pl, dr⟩) := by
  rw [draws (dr := dr) d h]
  exact ⟨rfl, rfl⟩
end Lo
end Go.Proofs.YtkcbokhkmcmpdabGreat
