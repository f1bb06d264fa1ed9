/- Each event of a run is right: all steps. -/
import Derived.Test.YtkkgbeaaekmhfaaGreatZjGl12
import Derived.Test.YtkkgbeaaekmhfaaGreatQm
namespace Go.Proofs.YtkkgbeaaekmhfaaGreat
namespace Lo
open Ba

theorem alone_nm (s : Lm) (g : Int) (c : Ca) : (aloneF s g c).s.nm = s.nm := by
  unfold aloneF
  split
  · exact (try_nm s g (-1) c).1
  · exact (try_nm s g (-1) c).1
theorem choose_nm (s : Lm) (g : Int) (o : OpD) : (chooseF s g o).s.nm = s.nm := by
  unfold chooseF
  split
  · exact (try_nm { s with d := _ } g _ _).1
  · split <;> rfl
theorem all_nm (g c : Int) : ∀ (l : List Wt) (s : Lm), (wakeAll g c s l).nm = s.nm
  | [], _ => rfl
  | x :: l, s => by
    show (wakeAll g c (if parked s x.g then _ else s) l).nm = s.nm
    rw [all_nm g c l]
    split <;> rfl
theorem closes_nm (s : Lm) (g k : Int) : (closesF s g k).s.nm = s.nm := by
  unfold closesF
  split
  · rfl
  · split
    · rfl
    · show (wakeAll _ _ _ _).nm = s.nm
      rw [all_nm]
      rfl
theorem do_nm (s : Lm) (g : Int) (o : OpD) : (doF s g o).nm = s.nm ∨ (doF s g o).nm = s.nm.set o.a.toNat s.md := by
  unfold doF
  split
  · exact .inl rfl
  · split
    · exact .inr rfl
    · split
      · exact .inl rfl
      · split
        · exact .inl rfl
        · split
          · exact .inl rfl
          · split
            · split
              · exact .inl (alone_nm _ _ _)
              · exact .inl (alone_nm _ _ _)
            · split
              · exact .inl (alone_nm _ _ _)
              · split
                · split
                  · exact .inl (closes_nm _ _ _)
                  · exact .inl (closes_nm _ _ _)
                · split
                  · split
                    · exact .inl (choose_nm _ _ _)
                    · exact .inl (choose_nm _ _ _)
                  · exact .inl rfl
theorem NL.step {s : Lm} (h : NL s) (v : VI s) : NL (stepF s) := by
  unfold stepF
  split
  · exact h
  · split
    · exact h
    · intro i hi
      have m0 := v.md0
      rcases do_nm { s with p := s.p.tail } (whoN s) (opOf s (whoN s)) with e | e
      · rw [e]
        exact h i hi
      · rw [e]
        show -1 ≤ nth (s.nm.set _ s.md) i
        rw [nth_lt _ _ (by rw [List.length_set, v.l2]; exact hi), List.getElem_set]
        split
        · omega
        · have := h i hi
          rw [nth_lt _ _ (by rw [v.l2]; exact hi)] at this
          exact this
theorem EI.steps {sc : Sh.Sc} (hs : Sh.schk sc = 0) : ∀ n, EI (stepsF n (newS sc)) ∧ NL (stepsF n (newS sc))
  | 0 => ⟨⟨fun i st e => by
      have e' : (List.replicate 8 (none : Option St))[i]? = some (some st) := e
      rw [List.getElem?_replicate] at e'
      split at e' <;> simp at e', fun e he => by simp [stepsF, newS] at he⟩, fun i hi => by
      show -1 ≤ nth (List.replicate 8 (-1)) i
      rw [nth_lt _ _ (by simpa using hi), List.getElem_replicate]
      decide⟩
  | n + 1 => by
    obtain ⟨h, nl⟩ := EI.steps hs n
    have v := VI.steps hs n
    rw [steps_succ]
    obtain ⟨k, -, i, -⟩ := Inv.steps hs n
    generalize stepsF n (newS sc) = s at *
    refine ⟨?_, nl.step v⟩
    by_cases hv : verd s = 0
    · have hk := i.n200 hs
      have hcl := i.b.cl
      have hmd := i.b.md
      obtain ⟨h1, h2, h3, h4, h5, h6, h7⟩ := schk_ok hs
      by_cases ht : nth s.p 0 = -1
      · unfold stepF
        rw [if_neg (by omega), if_pos ht]
        exact (h.plan _).tell (s' := { s with p := s.p.tail }) _ h.sts rfl ev_comp
      · have ht0 : 0 ≤ nth s.p 0 := by
          have hpl : 0 < s.p.length := by
            rcases Nat.eq_zero_or_pos s.p.length with z | z
            · exfalso
              unfold verd at hv
              rw [if_pos z] at hv
              split at hv
              · omega
              · split at hv <;> omega
            · exact z
          have hm : nth s.p 0 ∈ sc.pl := by
            rw [nth_lt _ _ hpl]
            have hsub : ∀ x ∈ s.p, x ∈ sc.pl := fun x hx => by
              rw [i.p] at hx
              exact List.mem_of_mem_drop hx
            exact hsub _ (List.getElem_mem hpl)
          have := h6 _ hm
          omega
        obtain ⟨j, y, hwk, hky, -⟩ := who_ok hv ht0
        have hj := (List.getElem?_eq_some_iff.1 hky).1
        unfold stepF
        rw [if_neg (by omega), if_neg ht]
        have hgB : gB (whoN s) := by rw [hwk]; unfold gB; omega
        have hop := op_chk hs i (whoN s)
        have hc5 : s.cr.length ≤ 511 := by omega
        have hm5 : s.md ≤ 511 := by omega
        have hp1 : EI { s with p := s.p.tail } := h.plan _
        have vp1 : VI { s with p := s.p.tail } := v.plan _
        have np1 : NL { s with p := s.p.tail } := nl
        generalize opOf s (whoN s) = o at *
        generalize whoN s = g at *
        exact EI.do_ hp1 vp1 np1 g o hgB hop hc5 hm5
    · rw [step_end hv]
      exact h
/-- each event of a run is right -/
theorem right {sc : Sh.Sc} (hs : Sh.schk sc = 0) : ∀ e ∈ (runF sc).tr, En.chk e = 0 := (EI.steps hs sc.pl.length).1.tr
end Lo
end Go.Proofs.YtkkgbeaaekmhfaaGreat
