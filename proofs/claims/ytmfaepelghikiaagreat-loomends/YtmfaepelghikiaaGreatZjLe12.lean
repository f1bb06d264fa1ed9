import Derived.Test.YtmfaepelghikiaaGreatZjLe11
/- Each event of a run is right. -/
namespace Go.Proofs.YtmfaepelghikiaaGreat
namespace Lo
open Ba

theorem EI.alone {s : Lm} (h : EI s) (g : Int) (c : Ca) (hg : gB g) (hv : vB c.v) (h0 : c.sd = false → c.v = 0) (hu : ∀ st, Fk.nmB s.sts c.ch = some st → gB (num s c.ch)) (hn : -1 ≤ num s c.ch ∧ num s c.ch ≤ 511) : EI (aloneF s g c).s := by
  have h1 := h.try g (-1) c hg (by unfold aB; omega) hv hu
  unfold aloneF
  split
  · exact h1
  · exact h1.tell _ (h1.sts.wait c g hg hv) rfl (ev_wait c.sd hg hn hv h0)
theorem EI.draw {s : Lm} (h : EI s) (d : List Int) : EI { s with d := d } := ⟨h.sts, h.tr⟩
theorem EI.plan {s : Lm} (h : EI s) (p : List Int) : EI { s with p := p } := ⟨h.sts, h.tr⟩
theorem nth_rdy (l : List Ca) (sts : List (Option St)) (hl : l.length ≤ 4) (k : Nat) : aB (nth (Fk.rdyL l sts) k) := by
  by_cases hk : k < (Fk.rdyL l sts).length
  · obtain ⟨p, hp, hpl, -⟩ := ps_at (P := fun i => match l[i]? with | none => false | some c => Fk.crdy sts c) (n := l.length) hk
    have e : nth (Fk.rdyL l sts) k = (p : Int) := hp
    rw [e]
    unfold aB
    omega
  · have e : nth (Fk.rdyL l sts) k = 0 := by
      unfold nth
      rw [List.getD_eq_getElem?_getD, List.getElem?_eq_none (by omega)]
      rfl
    rw [e]
    unfold aB
    omega
theorem caseAt_v (o : OpD) (hv : ∀ c ∈ cas o, vB c.v) (i : Int) : vB (caseAt o i).v := by
  unfold caseAt
  cases h : (cas o)[i.toNat]? with
  | none => show vB 0; unfold vB; omega
  | some c => exact hv c (List.mem_of_getElem? h)
theorem EI.choose {s : Lm} (h : EI s) (g : Int) (o : OpD) (hg : gB g) (h4 : o.cases.length ≤ 4) (hv : ∀ c ∈ cas o, vB c.v) (hu : ∀ c st, Fk.nmB s.sts c = some st → gB (num s c)) : EI (chooseF s g o).s := by
  have hl : (cas o).length ≤ 4 := by unfold cas; rw [List.length_map]; exact h4
  unfold chooseF
  split
  · exact (h.draw _).try _ _ _ hg (nth_rdy _ _ hl _) (caseAt_v o hv _) (fun st e => hu _ st e)
  · split
    · exact h.tell _ h.sts rfl (ev_bare (.inl rfl) hg)
    · exact h.tell _ (h.sts.pkA g _ hg hl hv) rfl (ev_waits hg ⟨by omega, by omega⟩)
theorem EI.all (g c : Int) (hg : gB g) (hc : gB c) : ∀ (l : List Wt) {s : Lm}, (∀ x ∈ l, okW x) → EI s → EI (wakeAll g c s l)
  | [], _, _, h => h
  | x :: l, s, hl, h => by
    have ox := hl x (by simp)
    show EI (wakeAll g c (if parked s x.g then _ else s) l)
    split
    · exact EI.all g c hg hc l (fun y hy => hl y (List.mem_cons_of_mem _ hy)) (h.tell (s' := { s with sts := Fk.leaveS x.g s.sts, cr := Cr.chL s.cr x.g 1 0 1 }) ⟨7, x.g, c, x.c, 0, g, false, false⟩ (h.sts.leave _) rfl (ev_wake0 ox.1 hc ox.2.1 hg))
    · exact EI.all g c hg hc l (fun y hy => hl y (List.mem_cons_of_mem _ hy)) h
theorem first_ok (s : Lm) : ∀ (l : List Wt), (∀ x ∈ l, okW x) → first s l = -1 ∨ gB (first s l)
  | [], _ => .inl rfl
  | x :: l, hl => by
    show (if parked s x.g then x.g else first s l) = -1 ∨ gB (if parked s x.g then x.g else first s l)
    split
    · exact .inr (hl x (by simp)).1
    · exact first_ok s l (fun y hy => hl y (List.mem_cons_of_mem _ hy))
theorem EI.closes {s : Lm} (h : EI s) (g k : Int) (hg : gB g) (hu : ∀ c st, Fk.nmB s.sts c = some st → gB (num s c)) : EI (closesF s g k).s ∧ ((closesF s g k).who = -1 ∨ gB (closesF s g k).who) := by
  unfold closesF
  split
  · exact ⟨h, .inr hg⟩
  · rename_i st e
    split
    · exact ⟨h, .inr hg⟩
    · have hc := hu k st e
      have os := h.sts.nm e
      exact ⟨EI.all _ _ hg hc _ os.rcv (h.tell _ (h.sts.set os.close) rfl (ev_close hg hc)), first_ok _ _ os.snd⟩
theorem EI.panic {s : Lm} (h : EI s) (g : Int) (hg : gB g) : EI (panicS s g) := h.tell (s' := { s with pk := true }) _ h.sts rfl (ev_bare (.inr (.inr rfl)) hg)
/-- no name's number is below -1 -/
def NL (s : Lm) : Prop := ∀ i, i < 8 → -1 ≤ nth s.nm i
theorem EI.do_ {s : Lm} (h : EI s) (v : VI s) (nl : NL s) (g : Int) (o : OpD) {n : Int} (hg : gB g) (ho : De.chk o n = 0) (hcr : s.cr.length ≤ 511) (hmd : s.md ≤ 511) : EI (doF s g o) := by
  obtain ⟨hn, hk, h4, ha, hb, -, hcs⟩ := op_ok ho
  have m0 := v.md0
  have hu : ∀ c st, Fk.nmB s.sts c = some st → gB (num s c) := fun c st e => by
    have := v.nmd e
    unfold gB
    omega
  have hnum : ∀ a : Int, a.toNat < 8 → num s a ≤ 511 := fun a h8 => by
    have := v.nlt _ h8
    unfold num
    omega
  have hcas : ∀ c ∈ cas o, vB c.v := fun c hc => by
    unfold cas at hc
    rw [List.mem_map] at hc
    obtain ⟨x, hx, rfl⟩ := hc
    exact (hcs x hx).2
  by_cases h1 : o.kind = 1
  · rw [do_is1 _ _ _ h1]
    have ha7 : 0 ≤ o.a ∧ o.a ≤ 7 := by rw [h1] at ha; simp [De.mA] at ha; omega
    refine h.tell (s' := { s with cr := _ }) _ h.sts rfl (ev_spawn hg ha7 ?_)
    unfold Cr.spV gB
    rw [if_neg (by omega), if_neg (by omega)]
    omega
  by_cases h2 : o.kind = 2
  · rw [do_is2 _ _ _ h2]
    have hb4 : 0 ≤ o.b ∧ o.b ≤ 4 := by rw [h2] at hb; simp [De.mB] at hb; omega
    exact h.tell (s' := { opensS s o.a o.b with cr := _ }) _ (h.sts.set (OkS.new _)) rfl (ev_make hg ⟨m0, hmd⟩ hb4)
  by_cases h7 : o.kind = 7
  · rw [do_is7 _ _ _ h7]
    have ha7 : 0 ≤ o.a ∧ o.a ≤ 7 := by rw [h7] at ha; simp [De.mA] at ha; omega
    exact h.tell (s' := { s with cr := _ }) _ h.sts rfl (ev_cell (.inl rfl) hg ha7)
  by_cases h8 : o.kind = 8
  · rw [do_is8 _ _ _ h8]
    have ha7 : 0 ≤ o.a ∧ o.a ≤ 7 := by rw [h8] at ha; simp [De.mA] at ha; omega
    exact h.tell (s' := { s with cr := _ }) _ h.sts rfl (ev_cell (.inr rfl) hg ha7)
  by_cases h9 : o.kind = 9
  · rw [do_is9 _ _ _ h9]
    exact h.tell (s' := { s with cr := _ }) _ h.sts rfl (ev_bare (.inr (.inl rfl)) hg)
  have low : ∀ a : Int, a.toNat < 8 → -1 ≤ num s a := fun a h8 => nl _ h8
  by_cases h3 : o.kind = 3
  · rw [do_is3 _ _ _ h3]
    have a8 : o.a.toNat < 8 := by rw [h3] at ha; simp [De.mA] at ha; omega
    have hb9 : vB o.b := by rw [h3] at hb; simp [De.mB] at hb; exact hb
    have q := h.alone g ⟨true, o.a, o.b⟩ hg hb9 (by simp) (fun st e => hu _ st e) ⟨low _ a8, hnum _ a8⟩
    split
    · exact q
    · exact q.panic _ hg
  by_cases h4' : o.kind = 4
  · rw [do_is4 _ _ _ h4']
    have a8 : o.a.toNat < 8 := by rw [h4'] at ha; simp [De.mA] at ha; omega
    exact h.alone g ⟨false, o.a, 0⟩ hg (by unfold vB; simp) (fun _ => rfl) (fun st e => hu _ st e) ⟨low _ a8, hnum _ a8⟩
  by_cases h5 : o.kind = 5
  · rw [do_is5 _ _ _ h5]
    obtain ⟨q, w⟩ := h.closes g o.a hg hu
    split
    · exact q
    · rename_i z
      rcases w with w | w
      · exact absurd w z
      · exact q.panic _ w
  by_cases h6 : o.kind = 6
  · rw [do_is6 _ _ _ h6]
    have q := h.choose g o hg h4 hcas hu
    split
    · exact q
    · exact q.panic _ hg
  rw [do_is0 _ _ _ h1 h2 h7 h8 h9 h3 h4' h5 h6]
  exact h
end Lo
end Go.Proofs.YtmfaepelghikiaaGreat
/- Each event of a run is right: all steps. -/
namespace Go.Proofs.YtmfaepelghikiaaGreat
namespace Lo
open Ba

theorem alone_nm (s : Lm) (g : Int) (c : Ca) : (aloneF s g c).s.nm = s.nm := by
  unfold aloneF
  split
  · exact (try_nm s g (-1) c).1
  · exact (try_nm s g (-1) c).1
theorem choose_nm (s : Lm) (g : Int) (o : OpD) : (chooseF s g o).s.nm = s.nm := by
  unfold chooseF
  split
  · exact (try_nm { s with d := _ } g _ _).1
  · split <;> rfl
theorem all_nm (g c : Int) : ∀ (l : List Wt) (s : Lm), (wakeAll g c s l).nm = s.nm
  | [], _ => rfl
  | x :: l, s => by
    show (wakeAll g c (if parked s x.g then _ else s) l).nm = s.nm
    rw [all_nm g c l]
    split <;> rfl
theorem closes_nm (s : Lm) (g k : Int) : (closesF s g k).s.nm = s.nm := by
  unfold closesF
  split
  · rfl
  · split
    · rfl
    · show (wakeAll _ _ _ _).nm = s.nm
      rw [all_nm]
      rfl
theorem do_nm (s : Lm) (g : Int) (o : OpD) : (doF s g o).nm = s.nm ∨ (doF s g o).nm = s.nm.set o.a.toNat s.md := by
  unfold doF
  split
  · exact .inl rfl
  · split
    · exact .inr rfl
    · split
      · exact .inl rfl
      · split
        · exact .inl rfl
        · split
          · exact .inl rfl
          · split
            · split
              · exact .inl (alone_nm _ _ _)
              · exact .inl (alone_nm _ _ _)
            · split
              · exact .inl (alone_nm _ _ _)
              · split
                · split
                  · exact .inl (closes_nm _ _ _)
                  · exact .inl (closes_nm _ _ _)
                · split
                  · split
                    · exact .inl (choose_nm _ _ _)
                    · exact .inl (choose_nm _ _ _)
                  · exact .inl rfl
theorem NL.step {s : Lm} (h : NL s) (v : VI s) : NL (stepF s) := by
  unfold stepF
  split
  · exact h
  · split
    · exact h
    · intro i hi
      have m0 := v.md0
      rcases do_nm { s with p := s.p.tail } (whoN s) (opOf s (whoN s)) with e | e
      · rw [e]
        exact h i hi
      · rw [e]
        show -1 ≤ nth (s.nm.set _ s.md) i
        rw [nth_lt _ _ (by rw [List.length_set, v.l2]; exact hi), List.getElem_set]
        split
        · omega
        · have := h i hi
          rw [nth_lt _ _ (by rw [v.l2]; exact hi)] at this
          exact this
theorem EI.steps {sc : Sh.Sc} (hs : Sh.schk sc = 0) : ∀ n, EI (stepsF n (newS sc)) ∧ NL (stepsF n (newS sc))
  | 0 => ⟨⟨fun i st e => by
      have e' : (List.replicate 8 (none : Option St))[i]? = some (some st) := e
      rw [List.getElem?_replicate] at e'
      split at e' <;> simp at e', fun e he => by simp [stepsF, newS] at he⟩, fun i hi => by
      show -1 ≤ nth (List.replicate 8 (-1)) i
      rw [nth_lt _ _ (by simpa using hi), List.getElem_replicate]
      decide⟩
  | n + 1 => by
    obtain ⟨h, nl⟩ := EI.steps hs n
    have v := VI.steps hs n
    rw [steps_succ]
    obtain ⟨k, -, i, -⟩ := Inv.steps hs n
    generalize stepsF n (newS sc) = s at *
    refine ⟨?_, nl.step v⟩
    by_cases hv : verd s = 0
    · have hk := i.n200 hs
      have hcl := i.b.cl
      have hmd := i.b.md
      obtain ⟨h1, h2, h3, h4, h5, h6, h7⟩ := schk_ok hs
      by_cases ht : nth s.p 0 = -1
      · unfold stepF
        rw [if_neg (by omega), if_pos ht]
        exact (h.plan _).tell (s' := { s with p := s.p.tail }) _ h.sts rfl ev_comp
      · have ht0 : 0 ≤ nth s.p 0 := by
          have hpl : 0 < s.p.length := by
            rcases Nat.eq_zero_or_pos s.p.length with z | z
            · exfalso
              unfold verd at hv
              rw [if_pos z] at hv
              split at hv
              · omega
              · split at hv <;> omega
            · exact z
          have hm : nth s.p 0 ∈ sc.pl := by
            rw [nth_lt _ _ hpl]
            have hsub : ∀ x ∈ s.p, x ∈ sc.pl := fun x hx => by
              rw [i.p] at hx
              exact List.mem_of_mem_drop hx
            exact hsub _ (List.getElem_mem hpl)
          have := h6 _ hm
          omega
        obtain ⟨j, y, hwk, hky, -⟩ := who_ok hv ht0
        have hj := (List.getElem?_eq_some_iff.1 hky).1
        unfold stepF
        rw [if_neg (by omega), if_neg ht]
        have hgB : gB (whoN s) := by rw [hwk]; unfold gB; omega
        have hop := op_chk hs i (whoN s)
        have hc5 : s.cr.length ≤ 511 := by omega
        have hm5 : s.md ≤ 511 := by omega
        have hp1 : EI { s with p := s.p.tail } := h.plan _
        have vp1 : VI { s with p := s.p.tail } := v.plan _
        have np1 : NL { s with p := s.p.tail } := nl
        generalize opOf s (whoN s) = o at *
        generalize whoN s = g at *
        exact EI.do_ hp1 vp1 np1 g o hgB hop hc5 hm5
    · rw [step_end hv]
      exact h
/-- each event of a run is right -/
theorem right {sc : Sh.Sc} (hs : Sh.schk sc = 0) : ∀ e ∈ (runF sc).tr, En.chk e = 0 := (EI.steps hs sc.pl.length).1.tr
end Lo
end Go.Proofs.YtmfaepelghikiaaGreat
/- The laws' own hands(), over this seat's program. -/
namespace Go.Proofs.YtmfaepelghikiaaGreat
open Go.ChangeShapes Go.WideShapes Go.ChangeAt Go.RowKit
namespace Lo
open Ba

def psH : List (List OpD) := [[⟨2, 0, 0, [], false⟩, ⟨1, 1, 0, [], false⟩, ⟨4, 0, 0, [], false⟩], [⟨3, 0, 5, [], false⟩]]
def scH : Sh.Sc := ⟨9, 9, psH, [0, 0, 0, 0], []⟩
theorem scH_chk : Sh.schk ⟨9, 9, psH, [0, 0, 0, 0], []⟩ = 0 := by decide
def trH : List Ev := [⟨2, 0, 0, -1, 0, -1, false, false⟩, ⟨1, 0, -1, -1, 1, 1, false, false⟩, ⟨6, 0, 0, -1, 0, -1, false, false⟩, ⟨3, 1, 0, -1, 5, 0, true, false⟩, ⟨7, 0, 0, -1, 5, 1, false, true⟩]
theorem scH_run : (runF ⟨9, 9, psH, [0, 0, 0, 0], []⟩).tr = trH ∧ verd (runF ⟨9, 9, psH, [0, 0, 0, 0], []⟩) = 4 := ⟨by rfl, by rfl⟩
theorem wh_at (w : World) : Sh.SAt ((((w.alloc (.cells #[.int .i64 2, .int .i64 0, .int .i64 0, .slice none 0 0, .bool false, .int .i64 1, .int .i64 1, .int .i64 0, .slice none 0 0, .bool false, .int .i64 4, .int .i64 0, .int .i64 0, .slice none 0 0, .bool false] 44)).alloc (.cells #[.int .i64 3, .int .i64 0, .int .i64 5, .slice none 0 0, .bool false] 44)).alloc (.cells #[.slice (some ⟨w.heap.size, 0, none⟩) 3 3, .slice (some ⟨w.heap.size + 1, 0, none⟩) 1 1] 68)).alloc (.cells #[.int .i64 0, .int .i64 0, .int .i64 0, .int .i64 0] 3)) ⟨9, 9, psH, [0, 0, 0, 0], []⟩ (some ⟨w.heap.size + 1 + 1, 0, none⟩) (some ⟨w.heap.size + 1 + 1 + 1, 0, none⟩) none ∧ Below w.heap.size w ((((w.alloc (.cells #[.int .i64 2, .int .i64 0, .int .i64 0, .slice none 0 0, .bool false, .int .i64 1, .int .i64 1, .int .i64 0, .slice none 0 0, .bool false, .int .i64 4, .int .i64 0, .int .i64 0, .slice none 0 0, .bool false] 44)).alloc (.cells #[.int .i64 3, .int .i64 0, .int .i64 5, .slice none 0 0, .bool false] 44)).alloc (.cells #[.slice (some ⟨w.heap.size, 0, none⟩) 3 3, .slice (some ⟨w.heap.size + 1, 0, none⟩) 1 1] 68)).alloc (.cells #[.int .i64 0, .int .i64 0, .int .i64 0, .int .i64 0] 3)) := by
  have b1 := below_alloc w (.cells #[.int .i64 2, .int .i64 0, .int .i64 0, .slice none 0 0, .bool false, .int .i64 1, .int .i64 1, .int .i64 0, .slice none 0 0, .bool false, .int .i64 4, .int .i64 0, .int .i64 0, .slice none 0 0, .bool false] 44)
  have h1 := heap_new w (.cells #[.int .i64 2, .int .i64 0, .int .i64 0, .slice none 0 0, .bool false, .int .i64 1, .int .i64 1, .int .i64 0, .slice none 0 0, .bool false, .int .i64 4, .int .i64 0, .int .i64 0, .slice none 0 0, .bool false] 44)
  have z1 : (w.alloc (.cells #[.int .i64 2, .int .i64 0, .int .i64 0, .slice none 0 0, .bool false, .int .i64 1, .int .i64 1, .int .i64 0, .slice none 0 0, .bool false, .int .i64 4, .int .i64 0, .int .i64 0, .slice none 0 0, .bool false] 44)).heap.size = w.heap.size + 1 := World.size_alloc ..
  generalize w.alloc (.cells #[.int .i64 2, .int .i64 0, .int .i64 0, .slice none 0 0, .bool false, .int .i64 1, .int .i64 1, .int .i64 0, .slice none 0 0, .bool false, .int .i64 4, .int .i64 0, .int .i64 0, .slice none 0 0, .bool false] 44) = w1 at *
  have b2 := below_alloc w1 (.cells #[.int .i64 3, .int .i64 0, .int .i64 5, .slice none 0 0, .bool false] 44)
  have h2 := heap_new w1 (.cells #[.int .i64 3, .int .i64 0, .int .i64 5, .slice none 0 0, .bool false] 44)
  have z2 : (w1.alloc (.cells #[.int .i64 3, .int .i64 0, .int .i64 5, .slice none 0 0, .bool false] 44)).heap.size = w1.heap.size + 1 := World.size_alloc ..
  generalize w1.alloc (.cells #[.int .i64 3, .int .i64 0, .int .i64 5, .slice none 0 0, .bool false] 44) = w2 at *
  have b3 := below_alloc w2 (.cells #[.slice (some ⟨w.heap.size, 0, none⟩) 3 3, .slice (some ⟨w.heap.size + 1, 0, none⟩) 1 1] 68)
  have h3 := heap_new w2 (.cells #[.slice (some ⟨w.heap.size, 0, none⟩) 3 3, .slice (some ⟨w.heap.size + 1, 0, none⟩) 1 1] 68)
  have z3 : (w2.alloc (.cells #[.slice (some ⟨w.heap.size, 0, none⟩) 3 3, .slice (some ⟨w.heap.size + 1, 0, none⟩) 1 1] 68)).heap.size = w2.heap.size + 1 := World.size_alloc ..
  generalize w2.alloc (.cells #[.slice (some ⟨w.heap.size, 0, none⟩) 3 3, .slice (some ⟨w.heap.size + 1, 0, none⟩) 1 1] 68) = w3 at *
  have b4 := below_alloc w3 (.cells #[.int .i64 0, .int .i64 0, .int .i64 0, .int .i64 0] 3)
  have h4 := heap_new w3 (.cells #[.int .i64 0, .int .i64 0, .int .i64 0, .int .i64 0] 3)
  generalize w3.alloc (.cells #[.int .i64 0, .int .i64 0, .int .i64 0, .int .i64 0] 3) = w4 at *
  rw [z3, z2, z1] at h4
  rw [z2, z1] at h3
  rw [z1] at h2
  have g1 := heap_below (heap_below (heap_below h1 b2) b3) b4
  have g2 := heap_below (heap_below h2 b3) b4
  have g3 := heap_below h3 b4
  refine ⟨⟨?_, ?_, fun k hk => absurd hk (Nat.not_lt_zero _), by decide, by decide, by decide⟩, btr (btr (btr b1 b2) b3) b4⟩
  · intro k q hq
    match k, hq with
    | 0, hq =>
      obtain rfl : q = [⟨2, 0, 0, [], false⟩, ⟨1, 1, 0, [], false⟩, ⟨4, 0, 0, [], false⟩] := by simpa [psH] using hq.symm
      refine ⟨_, _, _, 3, rfl, cell_of g3 0, ?_, by decide⟩
      intro j o ho
      match j, ho with
      | 0, ho =>
        obtain rfl : o = ⟨2, 0, 0, [], false⟩ := by simpa using ho.symm
        exact ⟨_, _, none, 0, rfl, ⟨cell_of g1 0, cell_of g1 1, cell_of g1 2, cell_of g1 3, cell_of g1 4⟩, (fun k x hk => by simp at hk), by decide⟩
      | 1, ho =>
        obtain rfl : o = ⟨1, 1, 0, [], false⟩ := by simpa using ho.symm
        exact ⟨_, _, none, 0, rfl, ⟨cell_of g1 5, cell_of g1 6, cell_of g1 7, cell_of g1 8, cell_of g1 9⟩, (fun k x hk => by simp at hk), by decide⟩
      | 2, ho =>
        obtain rfl : o = ⟨4, 0, 0, [], false⟩ := by simpa using ho.symm
        exact ⟨_, _, none, 0, rfl, ⟨cell_of g1 10, cell_of g1 11, cell_of g1 12, cell_of g1 13, cell_of g1 14⟩, (fun k x hk => by simp at hk), by decide⟩
      | j + 3, ho => simp at ho
    | 1, hq =>
      obtain rfl : q = [⟨3, 0, 5, [], false⟩] := by simpa [psH] using hq.symm
      refine ⟨_, _, _, 1, rfl, cell_of g3 1, ?_, by decide⟩
      intro j o ho
      match j, ho with
      | 0, ho =>
        obtain rfl : o = ⟨3, 0, 5, [], false⟩ := by simpa using ho.symm
        exact ⟨_, _, none, 0, rfl, ⟨cell_of g2 0, cell_of g2 1, cell_of g2 2, cell_of g2 3, cell_of g2 4⟩, (fun k x hk => by simp at hk), by decide⟩
      | j + 1, ho => simp at ho
    | k + 2, hq => simp [psH] at hq
  · intro k hk
    have hk' : k < 4 := hk
    match k, hk' with
    | 0, _ => exact ⟨_, _, rfl, cell_of h4 0⟩
    | 1, _ => exact ⟨_, _, rfl, cell_of h4 1⟩
    | 2, _ => exact ⟨_, _, rfl, cell_of h4 2⟩
    | 3, _ => exact ⟨_, _, rfl, cell_of h4 3⟩
set_option maxRecDepth 100000 in
set_option maxHeartbeats 1600000 in
theorem hands_any (w : World) : Calls Tryz.prog 7 #[] w fun r w' => r = .returned (.bool true) ∧ Below w.heap.size w w' := by
  obtain ⟨S0, B0⟩ := wh_at w
  obtain ⟨R, hR⟩ : ∃ R, runF ⟨9, 9, psH, [0, 0, 0, 0], []⟩ = R := ⟨_, rfl⟩
  obtain ⟨r1, r2⟩ := scH_run
  rw [hR] at r1 r2
  have RN := hide (run_yes 9 9 psH [0, 0, 0, 0] [] _ _ none 2 4 0 _ S0 scH_chk R hR)
  rw [r1, r2] at RN
  have B0 := hide B0
  clear hR r1 r2 S0
  go_enter Tryz.func7, Tryz.ntmps7
  go_wp2_with fail
  refine RN.out.mono ?_
  rintro r w1 ⟨ob, d, rfl, e1, -, b1⟩
  obtain ⟨b, off, rfl, -⟩ := e1 0 _ rfl
  obtain ⟨p20, -⟩ := e1.read (k := 2) rfl
  obtain ⟨p30, -, -, -, -, p35, -⟩ := e1.read (k := 3) rfl
  obtain ⟨p40, -, -, -, p44, -⟩ := e1.read (k := 4) rfl
  have B1 := hide (btr B0.out b1)
  clear e1 b1 RN
  simp only [Nat.reduceMul] at p20 p30 p35 p40 p44
  go_wp2_with fail
  go_ret
  exact ⟨rfl, B1.out⟩
end Lo
end Go.Proofs.YtmfaepelghikiaaGreat
/- The laws' own large(), over this seat's program. -/
namespace Go.Proofs.YtmfaepelghikiaaGreat
open Go.ChangeShapes Go.WideShapes Go.ChangeAt Go.RowKit
namespace Lo
open Sh De Ba

set_option maxRecDepth 100000 in
set_option maxHeartbeats 3200000 in
theorem large13 (T M : Int) (ps : List (List OpD)) (pl dr : List Int) (pa la da : Option Addr) (pc lc dc : Nat) (w : World) (hS : SAt w ⟨T, M, ps, pl, dr⟩ pa la da) (hB : Held ps) :
    Calls Tryz.prog 6 #[.agg #[.int .i64 T, .int .i64 M, .slice pa ps.length pc, .slice la pl.length lc, .slice da dr.length dc]] w fun r w' => LR ps pl dr r ∧ Below w.heap.size w w' := by
  have S0 := hide (hS.below (below_alloc w (.cells #[.int .i64 T, .int .i64 M, .slice pa ps.length pc, .slice la pl.length lc, .slice da dr.length dc] 25)))
  have B0 := hide (below_alloc w (.cells #[.int .i64 T, .int .i64 M, .slice pa ps.length pc, .slice la pl.length lc, .slice da dr.length dc] 25))
  have X0 := hide (heap_new w (.cells #[.int .i64 T, .int .i64 M, .slice pa ps.length pc, .slice la pl.length lc, .slice da dr.length dc] 25))
  have h1 := hS.h1
  have h2 := hS.h2
  have h3 := hS.h3
  unfold maxLen at h1 h2 h3
  simp only at h1 h2 h3
  have HB := hide hB
  clear hS hB
  by_cases n1 : 20 < ps.length
  · have g1 : decide (20 < (ps.length : Int)) = true := by simp; omega
    go_enter Tryz.func6, Tryz.ntmps6
    go_wp2_with fail
    go_ret
    exact ⟨⟨true, rfl, fun e => by cases e⟩, B0.out⟩
  have g1 : decide (20 < (ps.length : Int)) = false := by simp; omega
  by_cases n2 : 1000 < pl.length
  · have g2 : decide (1000 < (pl.length : Int)) = true := by simp; omega
    go_enter Tryz.func6, Tryz.ntmps6
    go_wp2_with fail
    go_ret
    exact ⟨⟨true, rfl, fun e => by cases e⟩, B0.out⟩
  have g2 : decide (1000 < (pl.length : Int)) = false := by simp; omega
  by_cases n3 : 1000 < dr.length
  · have g3 : decide (1000 < (dr.length : Int)) = true := by simp; omega
    go_enter Tryz.func6, Tryz.ntmps6
    go_wp2_with fail
    go_ret
    exact ⟨⟨true, rfl, fun e => by cases e⟩, B0.out⟩
  have g3 : decide (1000 < (dr.length : Int)) = false := by simp; omega
  go_enter Tryz.func6, Tryz.ntmps6
  go_wp2_with fail
  generalize w.alloc (.cells #[.int .i64 T, .int .i64 M, .slice pa ps.length pc, .slice la pl.length lc, .slice da dr.length dc] 25) = W at S0 B0 X0 ⊢
  obtain ⟨x0, x1, x2, x3, x4⟩ := sc_cells X0.out
  go_loopw [27, 3] (fun i a wr => ∃ (k n : Nat), k ≤ ps.length ∧ i = .int .i64 k ∧ a = .int .i64 n ∧ n ≤ 3000 ∧ (∀ (t : Nat) (q : List OpD), t < k → ps[t]? = some q → q.length ≤ 100 ∧ ∀ o ∈ q, o.cases.length ≤ 3000) ∧ Below W.heap.size W wr) (fun i _ _ => ps.length - (intOf i).toNat)
  case atStart => exact ⟨0, 0, Nat.zero_le _, rfl, rfl, by decide, fun t q ht => absurd ht (Nat.not_lt_zero _), Below.refl _ _⟩
  case round =>
    rename World => w5
    obtain ⟨k, n, hk, rfl, rfl, hn, hall, b5⟩ := hrel
    have HE := hide hall
    have B5 := hide b5
    clear hall b5
    by_cases hlt : k < ps.length
    · have hlt' : (k : Int) < (ps.length : Int) := by omega
      obtain ⟨q, hq⟩ : ∃ q, ps[k]? = some q := ⟨ps[k], by simp [hlt]⟩
      obtain ⟨b, off, qa, qc, e1, c1, hO, m1⟩ := (S0.out.below B5.out).ps k q hq
      subst e1
      have HQ := hide hq
      have HO := hide hO
      unfold maxLen at m1
      clear hq hO
      by_cases hl : 100 < q.length
      · have hl' : decide (100 < (q.length : Int)) = true := by simp; omega
        go_wp2_with fail
        go_ret
        exact ⟨⟨true, rfl, fun e => by cases e⟩, btr B0.out B5.out⟩
      · have hl' : decide (100 < (q.length : Int)) = false := by simp; omega
        go_wp2_with fail
        go_loopw [36, 3] (fun i a wr => ∃ (j m : Nat), j ≤ q.length ∧ i = .int .i64 j ∧ a = .int .i64 m ∧ m ≤ 3000 ∧ (∀ (t : Nat) (o : OpD), t < j → q[t]? = some o → o.cases.length ≤ 3000) ∧ Below w5.heap.size w5 wr) (fun i _ _ => q.length - (intOf i).toNat)
        case atStart => exact ⟨0, n, Nat.zero_le _, rfl, rfl, hn, fun t o ht => absurd ht (Nat.not_lt_zero _), Below.refl _ _⟩
        case round =>
          obtain ⟨j, m, hj, rfl, rfl, hm, hal2, b6⟩ := hrel
          have HF := hide hal2
          have B6 := hide b6
          clear hal2 b6
          by_cases hjl : j < q.length
          · have hjl' : (j : Int) < (q.length : Int) := by omega
            obtain ⟨o, ho⟩ : ∃ o, q[j]? = some o := ⟨q[j], by simp [hjl]⟩
            obtain ⟨b', off', ca, cc, e2, ⟨y0, y1, y2, y3, y4⟩, hC, hM⟩ := (HO.out.below B6.out) j o ho
            subst e2
            have hM2 := HB.out q (List.mem_of_getElem? HQ.out) o (List.mem_of_getElem? ho)
            have HX := hide ho
            clear hM
            have B7 := hide (btr B6.out (below_alloc wr (.cells #[.int .i64 o.kind, .int .i64 o.a, .int .i64 o.b, .slice ca o.cases.length cc, .bool o.def_] 44)))
            clear ho hC
            by_cases hc : 3000 < m + o.cases.length
            · have hc' : decide (3000 < (m : Int) + (o.cases.length : Int)) = true := by simp; omega
              go_wp2_with fail
              go_ret
              exact ⟨⟨true, rfl, fun e => by cases e⟩, btr B0.out (btr B5.out B7.out)⟩
            · have hc' : decide (3000 < (m : Int) + (o.cases.length : Int)) = false := by simp; omega
              go_wp2_with fail
              go_roundw
              case rel => exact ⟨j + 1, m + o.cases.length, by omega, by go_num, by go_num, by omega, fun t x ht hx => by
                by_cases e : t = j
                · subst e; rw [HX.out] at hx; cases hx; omega
                · exact HF.out t x (by omega) hx, B7.out⟩
              case measure => simp [intOf]; omega
          · have hjl' : ¬ ((j : Int) < (q.length : Int)) := by omega
            go_wp2_with fail
            go_roundw
            case rel => exact ⟨k + 1, m, by omega, by go_num, rfl, hm, fun t x ht hx => by
              by_cases e : t = k
              · subst e; rw [HQ.out] at hx; cases hx
                exact ⟨by omega, fun o ho => by
                  obtain ⟨i, hi⟩ := List.mem_iff_getElem?.1 ho
                  exact HF.out i o (by have := (List.getElem?_eq_some_iff.1 hi).1; omega) hi⟩
              · exact HE.out t x (by omega) hx, btr B5.out B6.out⟩
            case measure => simp [intOf]; omega
    · have hlt' : ¬ ((k : Int) < (ps.length : Int)) := by omega
      have SM : Hid (Small ps pl dr) := by
        have key : ∀ q ∈ ps, q.length ≤ 100 ∧ ∀ o ∈ q, o.cases.length ≤ 3000 := fun q hq => by
          obtain ⟨t, ht⟩ := List.mem_iff_getElem?.1 hq
          exact HE.out t q (by have := (List.getElem?_eq_some_iff.1 ht).1; omega) ht
        exact ⟨by omega, fun q hq => (key q hq).1, fun q hq => (key q hq).2, by omega, by omega⟩
      go_wp2_with fail
      go_ret
      exact ⟨⟨false, rfl, fun _ => SM.out⟩, btr B0.out B5.out⟩
end Lo
end Go.Proofs.YtmfaepelghikiaaGreat
