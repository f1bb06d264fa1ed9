/- How long a run's trace is; it keeps all rules, and so does each beginning; without memory. -/
import Derived.Test.YtkkgbeaaekmhfaaGreatZjGl12
import Derived.Test.YtkkgbeaaekmhfaaGreatQr7
namespace Go.Proofs.YtkkgbeaaekmhfaaGreat
namespace Lo
open Ba

/-- events that are no wakes -/
def nw (l : List Ev) : Nat := l.countP fun e => decide (e.k ≠ 7)
theorem nw_app (l : List Ev) (e : Ev) : nw (l ++ [e]) = nw l + if e.k = 7 then 0 else 1 := by
  unfold nw
  by_cases h : e.k = 7 <;> simp [List.countP_append, h]
theorem nw_tell (s : Lm) (e : Ev) : nw (tellS s e).tr ≤ nw s.tr + 1 := by
  unfold tellS
  simp only [nw_app]
  split <;> omega
theorem nw_go (s : Lm) (e : Ev) : nw (goS s e).tr ≤ nw s.tr + 1 := nw_tell _ _
theorem nw_waits (s : Lm) (e : Ev) : nw (waitsS s e).tr ≤ nw s.tr + 1 := nw_tell _ _
theorem nw_wakes (s : Lm) (e : Ev) (h : e.k = 7) : nw (wakesS s e).tr = nw s.tr := by
  show nw (s.tr ++ [e]) = _
  rw [nw_app, if_pos h]
  rfl
theorem nw_try (s : Lm) (g a : Int) (c : Ca) : nw (tryF s g a c).s.tr ≤ nw s.tr + 1 := by
  unfold tryF
  split
  · exact Nat.le_succ _
  · split
    · rw [nw_wakes _ _ rfl]
      exact nw_go _ _
    · exact nw_go _ _
theorem nw_alone (s : Lm) (g : Int) (c : Ca) : nw (aloneF s g c).s.tr ≤ nw s.tr + 2 := by
  have h := nw_try s g (-1) c
  unfold aloneF
  split
  · exact Nat.le_succ_of_le h
  · exact Nat.le_trans (nw_waits _ _) (Nat.succ_le_succ h)
theorem nw_choose (s : Lm) (g : Int) (o : OpD) : nw (chooseF s g o).s.tr ≤ nw s.tr + 1 := by
  unfold chooseF
  split
  · exact nw_try { s with d := Pk.dr s.d (Fk.rdyL (cas o) s.sts).length } _ _ _
  · split
    · exact nw_go _ _
    · exact nw_waits _ _
theorem nw_all (g c : Int) : ∀ (l : List Wt) (s : Lm), nw (wakeAll g c s l).tr = nw s.tr
  | [], _ => rfl
  | x :: l, s => by
    show nw (wakeAll g c (if parked s x.g then _ else s) l).tr = nw s.tr
    rw [nw_all g c l]
    split
    · exact nw_wakes _ _ rfl
    · rfl
theorem nw_closes (s : Lm) (g n : Int) : nw (closesF s g n).s.tr ≤ nw s.tr + 1 := by
  unfold closesF
  split
  · exact Nat.le_succ _
  · split
    · exact Nat.le_succ _
    · show nw (wakeAll _ _ _ _).tr ≤ _
      rw [nw_all]
      exact nw_go _ _
theorem nw_panic (s : Lm) (g : Int) : nw (panicS s g).tr ≤ nw s.tr + 1 := nw_tell _ _
theorem nw_do (s : Lm) (g : Int) (o : OpD) : nw (doF s g o).tr ≤ nw s.tr + 3 := by
  have a1 := fun c => nw_alone s g c
  have a2 := nw_choose s g o
  have a3 := nw_closes s g o.a
  have a4 := fun s' w => nw_panic s' w
  unfold doF
  split
  · exact Nat.le_trans (nw_go _ _) (by show nw s.tr + 1 ≤ _; omega)
  · split
    · exact Nat.le_trans (nw_go _ _) (by show nw s.tr + 1 ≤ _; omega)
    · split
      · exact Nat.le_trans (nw_go _ _) (by omega)
      · split
        · exact Nat.le_trans (nw_go _ _) (by omega)
        · split
          · exact Nat.le_trans (nw_tell _ _) (by show nw s.tr + 1 ≤ _; omega)
          · split
            · split
              · exact Nat.le_trans (a1 _) (by omega)
              · exact Nat.le_trans (a4 _ _) (by have := a1 ⟨true, o.a, o.b⟩; omega)
            · split
              · exact Nat.le_trans (a1 _) (by omega)
              · split
                · split
                  · omega
                  · exact Nat.le_trans (a4 _ _) (by omega)
                · split
                  · split
                    · omega
                    · exact Nat.le_trans (a4 _ _) (by omega)
                  · omega
theorem nw_step (s : Lm) : nw (stepF s).tr ≤ nw s.tr + 3 := by
  unfold stepF
  split
  · omega
  · split
    · exact Nat.le_trans (nw_tell _ _) (by show nw s.tr + 1 ≤ _; omega)
    · exact nw_do { s with p := s.p.tail } _ _
theorem nw_steps (sc : Sh.Sc) : ∀ n, nw (stepsF n (newS sc)).tr ≤ 3 * n
  | 0 => Nat.le_refl _
  | n + 1 => by
    rw [steps_succ]
    have h1 := nw_step (stepsF n (newS sc))
    have h2 := nw_steps sc n
    omega
/-- how many wait, by the reader -/
def ones (l : List Int) : Nat := l.countP fun x => decide (x = 1)
theorem ones_set (l : List Int) (k : Nat) (v : Int) (hv : v ≠ 1) : ones (l.set k v) + (if l.getD k 0 = 1 then 1 else 0) = ones l := by
  by_cases h : k < l.length
  · have := countP_set (fun x : Int => decide (x = 1)) l k l[k] v (List.getElem?_eq_getElem h)
    unfold ones
    simp only [decide_eq_true_eq, hv, if_false] at this
    rw [List.getD_eq_getElem?_getD, List.getElem?_eq_getElem h]
    simpa using this
  · rw [List.set_eq_of_length_le (by omega), List.getD_eq_getElem?_getD, List.getElem?_eq_none (by omega)]
    simp
theorem ones_le (l : List Int) (k : Nat) (v : Int) : ones (l.set k v) ≤ ones l + 1 := by
  by_cases h : k < l.length
  · have := countP_set (fun x : Int => decide (x = 1)) l k l[k] v (List.getElem?_eq_getElem h)
    unfold ones
    split at this <;> split at this <;> omega
  · rw [List.set_eq_of_length_le (by omega)]
    omega
theorem r2_ones {st st' : List Int} {pn pn' : Bool} {e : Ev} (h : Gu.r2 st pn e = some (st', pn')) : (if e.k = 7 then 1 else 0) + ones st' ≤ ones st + (if e.k = 6 then 1 else 0) := by
  unfold Gu.r2 at h
  split at h
  · cases h
  · split at h
    · rename_i q
      cases h
      rw [if_neg (by omega), if_neg (by omega)]
      omega
    · split at h
      · cases h
      · split at h
        · cases h
        · rename_i hm
          split at h
          · rename_i q
            split at h
            · cases h
            · cases h
              rw [if_neg (by omega), if_neg (by omega)]
              unfold ones
              simp [List.countP_append]
          · split at h
            · rename_i q
              cases h
              rw [if_neg (by omega), if_pos q]
              have := ones_le st e.g.toNat 1
              omega
            · split at h
              · rename_i q
                cases h
                rw [if_pos q, if_neg (by omega)]
                have := ones_set st e.g.toNat 0 (by decide)
                have ht : st.getD e.g.toNat 0 = 1 := by
                  unfold Gu.may at hm
                  rw [if_pos q] at hm
                  simpa using hm
                rw [if_pos ht] at this
                omega
              · split at h
                · rename_i q
                  cases h
                  rw [if_neg (by omega), if_neg (by omega)]
                  have := ones_set st e.g.toNat 2 (by decide)
                  omega
                · split at h
                  · rename_i q
                    cases h
                    rw [if_neg (by omega), if_neg (by omega)]
                    omega
                  · rename_i q7 _ _
                    cases h
                    split <;> omega
def c6 (l : List Ev) : Nat := l.countP fun e => decide (e.k = 6)
def c7 (l : List Ev) : Nat := l.countP fun e => decide (e.k = 7)
theorem stepH_r2 {gs g1 : Gu.Gs} {e : Ev} {nx : Option Ev} (h : Gu.stepH gs e nx = some g1) : Gu.r2 gs.st gs.pn e = some (g1.st, g1.pn) := by
  unfold Gu.stepH at h
  split at h
  · cases h
  · rename_i e2
    rw [e2]
    split at h
    · cases h
    · split at h
      · cases h
      · split at h
        · cases h
        · split at h
          · cases h
          · cases h
            rfl
theorem acc_ones : ∀ {es : List Ev} {gs g' : Gu.Gs}, Gu.AccH gs es g' → c7 es + ones g'.st ≤ c6 es + ones gs.st
  | [], gs, g', h => by
    have : g' = gs := h
    subst this
    simp [c7, c6]
  | e :: es, gs, g', h => by
    obtain ⟨g1, h1, -, h3⟩ := h
    have q := r2_ones (stepH_r2 (h1 es.head? (fun _ => rfl)))
    have k := acc_ones h3
    have e7 : c7 (e :: es) = c7 es + if e.k = 7 then 1 else 0 := by unfold c7; rw [List.countP_cons]; simp
    have e6 : c6 (e :: es) = c6 es + if e.k = 6 then 1 else 0 := by unfold c6; rw [List.countP_cons]; simp
    rw [e7, e6]
    omega
theorem count_len : ∀ l : List Ev, l.length = c7 l + nw l ∧ c6 l ≤ nw l
  | [] => ⟨rfl, Nat.le_refl _⟩
  | e :: l => by
    obtain ⟨h1, h2⟩ := count_len l
    have e7 : c7 (e :: l) = c7 l + if e.k = 7 then 1 else 0 := by unfold c7; rw [List.countP_cons]; simp
    have e6 : c6 (e :: l) = c6 l + if e.k = 6 then 1 else 0 := by unfold c6; rw [List.countP_cons]; simp
    have en : nw (e :: l) = nw l + if e.k = 7 then 0 else 1 := by
      unfold nw
      rw [List.countP_cons]
      by_cases h : e.k = 7 <;> simp [h]
    rw [e7, e6, en, List.length_cons]
    by_cases h : e.k = 7
    · rw [if_pos h, if_pos h, if_neg (by omega)]
      omega
    · rw [if_neg h, if_neg h]
      split <;> omega
/-- a run's trace is taken whole, and short -/
theorem run_acc {sc : Sh.Sc} (hs : Sh.schk sc = 0) (n : Nat) (hn : n ≤ 201) : (stepsF n (newS sc)).tr.length ≤ 1300 ∧ ∃ g, Gu.Acc Gu.gs0 0 (stepsF n (newS sc)).tr g := by
  obtain ⟨gs, h⟩ := RI.steps hs n
  have h1 := acc_ones h.acc
  have h2 := count_len (stepsF n (newS sc)).tr
  have h3 := nw_steps sc n
  have h4 : ones Gu.gs0.st = 0 := by decide
  have hl : (stepsF n (newS sc)).tr.length ≤ 1300 := by omega
  exact ⟨hl, gs, h.acc.acc (EI.steps hs n).1.tr (by omega)⟩
end Lo
end Go.Proofs.YtkkgbeaaekmhfaaGreat
