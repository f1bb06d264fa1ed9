/- What is received was sent: each step of a loom keeps it. -/
import Derived.Test.YtkkgbeaaekmhfaaGreatZjGl12
import Derived.Test.YtkkgbeaaekmhfaaGreatQh
namespace Go.Proofs.YtkkgbeaaekmhfaaGreat
namespace Lo
open Ba

theorem VI.same {s s' : Lm} (h : VI s) (hn : s'.nm = s.nm) (hm : s'.md = s.md) (hq : Qt s.sts s'.sts) (ht : s'.tr = s.tr) : VI s' :=
  h.quiet hn hm hq [] (by rw [ht]; simp) (fun e he => by simp at he)
theorem try_nm (s : Lm) (g at_ : Int) (c : Ca) : (tryF s g at_ c).s.nm = s.nm ∧ (tryF s g at_ c).s.md = s.md := by
  unfold tryF
  split
  · exact ⟨rfl, rfl⟩
  · split <;> exact ⟨rfl, rfl⟩
set_option maxHeartbeats 1600000 in
theorem VI.try {s : Lm} (h : VI s) (g at_ : Int) (c : Ca) : VI (tryF s g at_ c).s := by
  cases hn : Fk.nmB s.sts c.ch with
  | none =>
    have e1 : Fk.tryG s.sts c = _root_.Go.Proofs.YtkkgbeaaekmhfaaGreat.Pi.gz := by unfold Fk.tryG; rw [hn]
    have e2 : Fk.tryS s.sts c = s.sts := by unfold Fk.tryS; rw [hn]
    unfold tryF
    rw [e1, e2, if_pos (by exact Or.inr rfl)]
    exact h.same rfl rfl (Qt.refl _) rfl
  | some st =>
    have eE : Fk.tryE s.sts c = if c.sd then _root_.Go.Proofs.YtkkgbeaaekmhfaaGreat.Pi.sendE st else 0 := by unfold Fk.tryE; rw [hn]
    have eG : Fk.tryG s.sts c = if c.sd then _root_.Go.Proofs.YtkkgbeaaekmhfaaGreat.Pi.sendG st else _root_.Go.Proofs.YtkkgbeaaekmhfaaGreat.Pi.recvG st := by unfold Fk.tryG; rw [hn]
    have eS : Fk.tryS s.sts c = s.sts.set c.ch.toNat (some (if c.sd then _root_.Go.Proofs.YtkkgbeaaekmhfaaGreat.Pi.sendS st c.v else _root_.Go.Proofs.YtkkgbeaaekmhfaaGreat.Pi.recvS st)) := by unfold Fk.tryS; rw [hn]
    unfold tryF
    rw [eE, eG, eS]
    cases hs : c.sd with
    | true =>
      simp only [if_true]
      unfold _root_.Go.Proofs.YtkkgbeaaekmhfaaGreat.Pi.sendE _root_.Go.Proofs.YtkkgbeaaekmhfaaGreat.Pi.sendG _root_.Go.Proofs.YtkkgbeaaekmhfaaGreat.Pi.sendS
      cases hcl : st.closed with
      | true =>
        rw [if_pos (by simp)]
        exact h.same rfl rfl (Qt.set hn rfl id) rfl
      | false =>
        cases hr : st.rcv with
        | cons y t =>
          simp only [Bool.false_eq_true, if_false]
          rw [if_neg (by simp), if_pos (by simp)]
          refine h.act hn rfl rfl (Qt.leave _ _) [_, _] (List.append_assoc s.tr [_] [_]) ?_ ?_
          · intro e he
            simp only [List.mem_cons, List.not_mem_nil, or_false] at he
            rcases he with rfl | rfl <;> rfl
          · intro j
            have hb : st.buf = [] := j (by rw [hr]; simp)
            refine ⟨fun _ => by first | exact hb | rfl, ?_⟩
            simp [ins, inB, outs, outB, tryV, servV, hs, hb]
        | nil =>
          simp only [Bool.false_eq_true, if_false]
          by_cases hl : st.buf.length < st.size
          · simp only [if_pos hl]
            rw [if_neg (by simp), if_neg (by simp)]
            refine h.act hn rfl rfl (Qt.refl _) [_] rfl ?_ ?_
            · intro e he
              simp only [List.mem_singleton] at he
              subst he
              rfl
            · intro _
              refine ⟨fun z => by first | exact absurd hr z | exact absurd rfl z, ?_⟩
              simp [ins, inB, outs, outB, tryV, hs]
          · simp only [if_neg hl]
            rw [if_pos (by exact Or.inr rfl)]
            exact h.same rfl rfl (Qt.set hn rfl id) rfl
    | false =>
      simp only [Bool.false_eq_true, if_false]
      unfold _root_.Go.Proofs.YtkkgbeaaekmhfaaGreat.Pi.recvG _root_.Go.Proofs.YtkkgbeaaekmhfaaGreat.Pi.recvS
      cases hb : st.buf with
      | nil =>
        cases hq : st.snd with
        | nil =>
          simp only
          cases hcl : st.closed with
          | false =>
            rw [if_pos (by exact Or.inr rfl)]
            exact h.same rfl rfl (Qt.set hn rfl id) rfl
          | true =>
            rw [if_neg (by simp), if_neg (by simp)]
            refine h.act hn rfl rfl (Qt.refl _) [_] rfl ?_ ?_
            · intro e he
              simp only [List.mem_singleton] at he
              subst he
              rfl
            · intro j
              refine ⟨j, ?_⟩
              simp [ins, inB, outs, outB, tryV, hs]
        | cons y t =>
          simp only
          rw [if_neg (by simp), if_pos (by simp)]
          refine h.act hn rfl rfl (Qt.leave _ _) [_, _] (List.append_assoc s.tr [_] [_]) ?_ ?_
          · intro e he
            simp only [List.mem_cons, List.not_mem_nil, or_false] at he
            rcases he with rfl | rfl <;> rfl
          · intro _
            refine ⟨fun _ => by first | exact hb | rfl, ?_⟩
            simp [ins, inB, outs, outB, tryV, servV, hs, hb]
      | cons x b =>
        cases hq : st.snd with
        | nil =>
          simp only
          rw [if_neg (by simp), if_neg (by simp)]
          refine h.act hn rfl rfl (Qt.refl _) [_] rfl ?_ ?_
          · intro e he
            simp only [List.mem_singleton] at he
            subst he
            rfl
          · intro j
            refine ⟨fun z => ?_, ?_⟩
            · have := j z
              rw [hb] at this
              cases this
            · simp [ins, inB, outs, outB, tryV, hs, hb]
        | cons y t =>
          simp only
          rw [if_neg (by simp), if_pos (by simp)]
          refine h.act hn rfl rfl (Qt.leave _ _) [_, _] (List.append_assoc s.tr [_] [_]) ?_ ?_
          · intro e he
            simp only [List.mem_cons, List.not_mem_nil, or_false] at he
            rcases he with rfl | rfl <;> rfl
          · intro j
            refine ⟨fun z => ?_, ?_⟩
            · have := j z
              rw [hb] at this
              cases this
            · simp [ins, inB, outs, outB, tryV, servV, hs, hb]
theorem VI.alone {s : Lm} (h : VI s) (g : Int) (c : Ca) (hc : c.ch.toNat < 8) : VI (aloneF s g c).s := by
  unfold aloneF
  split
  · exact h.try _ _ _
  · have h1 := h.try g (-1) c
    refine h1.tell _ rfl rfl (Qt.wait _ _ _) rfl ?_ rfl
    rw [(try_nm s g (-1) c).2]
    exact h.nlt _ hc
theorem VI.draw {s : Lm} (h : VI s) (d : List Int) : VI { s with d := d } := ⟨h.l1, h.l2, h.md0, h.lt, h.nlt, h.inj, h.ch, h.pre⟩
theorem VI.choose {s : Lm} (h : VI s) (g : Int) (o : OpD) : VI (chooseF s g o).s := by
  have := h.md0
  unfold chooseF
  split
  · exact (h.draw _).try _ _ _
  · split
    · exact h.tell _ rfl rfl (Qt.refl _) rfl (by show (-1 : Int) < s.md; omega) rfl
    · exact h.tell _ rfl rfl (Qt.pkA _ _ _) rfl (by show (-1 : Int) < s.md; omega) rfl
theorem VI.all (g c : Int) : ∀ (l : List Wt) {s : Lm}, VI s → c < s.md → VI (wakeAll g c s l)
  | [], _, h, _ => h
  | x :: l, s, h, hc => by
    show VI (wakeAll g c (if parked s x.g then _ else s) l)
    split
    · exact VI.all g c l (h.tell (s' := { s with sts := Fk.leaveS x.g s.sts, cr := Cr.chL s.cr x.g 1 0 1 }) ⟨7, x.g, c, x.c, 0, g, false, false⟩ rfl rfl (Qt.leave _ _) rfl hc rfl) hc
    · exact VI.all g c l h hc
theorem VI.closes {s : Lm} (h : VI s) (g k : Int) : VI (closesF s g k).s := by
  unfold closesF
  split
  · exact h
  · rename_i st e
    split
    · exact h
    · have hn := (h.nmd e).2.2.1
      exact VI.all _ _ _ (h.tell _ rfl rfl (Qt.close e) rfl hn rfl) hn
theorem VI.panic {s : Lm} (h : VI s) (g : Int) : VI (panicS s g) :=
  h.tell _ rfl rfl (Qt.refl _) rfl (by have := h.md0; show (-1 : Int) < s.md; omega) rfl
theorem VI.opens {s : Lm} (h : VI s) (k : Nat) (hk : k < 8) (size : Int) (g v : Int) (cr : List Mb) : VI (tellS { s with sts := s.sts.set k (some (_root_.Go.Proofs.YtkkgbeaaekmhfaaGreat.Pi.st0 size.toNat)), nm := s.nm.set k s.md, md := s.md + 1, cr := cr } ⟨2, g, s.md, -1, v, -1, false, false⟩) := by
  have m0 := h.md0
  have q : quietE ⟨2, g, s.md, -1, v, -1, false, false⟩ = true := rfl
  have i1 : ∀ c, ins c (s.tr ++ [⟨2, g, s.md, -1, v, -1, false, false⟩]) = ins c s.tr := fun c => by rw [ins_app, ins_none (l := [_]) (fun e he => by simp at he; subst he; exact (quiet_off q c).1), List.append_nil]
  have o1 : ∀ c, outs c (s.tr ++ [⟨2, g, s.md, -1, v, -1, false, false⟩]) = outs c s.tr := fun c => by rw [outs_app, outs_none (l := [_]) (fun e he => by simp at he; subst he; exact (quiet_off q c).2), List.append_nil]
  have im : ins s.md s.tr = [] := ins_none fun e he => (in_off (by have := h.lt e he; omega)).1
  have om : outs s.md s.tr = [] := outs_none fun e he => (in_off (by have := h.lt e he; omega)).2
  have nk : nth (s.nm.set k s.md) k = s.md := by rw [nth_lt _ _ (by rw [List.length_set, h.l2]; exact hk)]; simp
  have nn : ∀ i, i < 8 → i ≠ k → nth (s.nm.set k s.md) i = nth s.nm i := fun i hi hne => by
    rw [nth_lt _ _ (by rw [List.length_set, h.l2]; exact hi), nth_lt _ _ (by rw [h.l2]; exact hi), List.getElem_set_ne (Ne.symm hne)]
  refine ⟨by show (s.sts.set k _).length = 8; rw [List.length_set]; exact h.l1, by show (s.nm.set k _).length = 8; rw [List.length_set]; exact h.l2, by show 0 ≤ s.md + 1; omega, fun e he => ?_, fun i hi => ?_, fun i j hi hj e0 p0 => ?_, fun i st hst => ?_, fun c => ?_⟩
  · have he' : e ∈ s.tr ++ [⟨2, g, s.md, -1, v, -1, false, false⟩] := he
    rw [List.mem_append] at he'
    show e.c < s.md + 1
    rcases he' with z | z
    · have := h.lt e z; omega
    · simp at z; subst z; show s.md < s.md + 1; omega
  · show nth (s.nm.set k s.md) i < s.md + 1
    by_cases e : i = k
    · subst e; rw [nk]; omega
    · rw [nn i hi e]; have := h.nlt i hi; omega
  · have e0' : nth (s.nm.set k s.md) i = nth (s.nm.set k s.md) j := e0
    have p0' : 0 ≤ nth (s.nm.set k s.md) i := p0
    by_cases ei : i = k
    · by_cases ej : j = k
      · omega
      · subst ei
        rw [nk, nn j hj ej] at e0'
        have := h.nlt j hj
        omega
    · by_cases ej : j = k
      · subst ej
        rw [nk, nn i hi ei] at e0'
        have := h.nlt i hi
        omega
      · rw [nn i hi ei, nn j hj ej] at e0'
        rw [nn i hi ei] at p0'
        exact h.inj i j hi hj e0' p0'
  · have hst' : (s.sts.set k (some (_root_.Go.Proofs.YtkkgbeaaekmhfaaGreat.Pi.st0 size.toNat)))[i]? = some (some st) := hst
    show 0 ≤ nth (s.nm.set k s.md) i ∧ ins (nth (s.nm.set k s.md) i) (s.tr ++ [_]) = outs (nth (s.nm.set k s.md) i) (s.tr ++ [_]) ++ st.buf ∧ J st
    rw [i1, o1]
    rw [List.getElem?_set] at hst'
    split at hst'
    · rename_i e
      subst e
      split at hst'
      · simp at hst'
        subst hst'
        rw [nk, im, om]
        exact ⟨m0, rfl, fun z => absurd rfl z⟩
      · cases hst'
    · rename_i e
      have i8 : i < 8 := by have := (List.getElem?_eq_some_iff.1 hst').1; rw [h.l1] at this; exact this
      rw [nn i i8 (fun z => e z.symm)]
      exact h.ch i st hst'
  · show ∃ l, ins c (s.tr ++ [_]) = outs c (s.tr ++ [_]) ++ l
    rw [i1, o1]
    exact h.pre c
theorem VI.do_ {s : Lm} (h : VI s) (g : Int) (o : OpD) {n : Int} (ho : De.chk o n = 0) : VI (doF s g o) := by
  have m0 := h.md0
  obtain ⟨hn, hk, -, ha, -, -, -⟩ := op_ok ho
  have neg : ∀ (e : Ev), e.c = -1 → e.c < s.md := fun e he => by omega
  by_cases h1 : o.kind = 1
  · unfold doF
    rw [if_pos h1]
    exact h.tell _ rfl rfl (Qt.refl _) rfl (neg _ rfl) rfl
  by_cases h2 : o.kind = 2
  · unfold doF
    rw [if_neg h1, if_pos h2]
    have h8 : o.a.toNat < 8 := by rw [h2] at ha; simp [De.mA] at ha; omega
    exact h.opens o.a.toNat h8 o.b g o.b _
  by_cases h7 : o.kind = 7
  · unfold doF
    rw [if_neg h1, if_neg h2, if_pos h7]
    exact h.tell _ rfl rfl (Qt.refl _) rfl (neg _ rfl) rfl
  by_cases h8 : o.kind = 8
  · unfold doF
    rw [if_neg h1, if_neg h2, if_neg h7, if_pos h8]
    exact h.tell _ rfl rfl (Qt.refl _) rfl (neg _ rfl) rfl
  by_cases h9 : o.kind = 9
  · unfold doF
    rw [if_neg h1, if_neg h2, if_neg h7, if_neg h8, if_pos h9]
    exact h.tell _ rfl rfl (Qt.refl _) rfl (neg _ rfl) rfl
  by_cases h3 : o.kind = 3
  · unfold doF
    rw [if_neg h1, if_neg h2, if_neg h7, if_neg h8, if_neg h9, if_pos h3]
    have a8 : o.a.toNat < 8 := by rw [h3] at ha; simp [De.mA] at ha; omega
    split
    · exact h.alone _ _ a8
    · exact (h.alone _ _ a8).panic _
  by_cases h4 : o.kind = 4
  · unfold doF
    rw [if_neg h1, if_neg h2, if_neg h7, if_neg h8, if_neg h9, if_neg h3, if_pos h4]
    have a8 : o.a.toNat < 8 := by rw [h4] at ha; simp [De.mA] at ha; omega
    exact h.alone _ _ a8
  by_cases h5 : o.kind = 5
  · unfold doF
    rw [if_neg h1, if_neg h2, if_neg h7, if_neg h8, if_neg h9, if_neg h3, if_neg h4, if_pos h5]
    split
    · exact h.closes _ _
    · exact (h.closes _ _).panic _
  by_cases h6 : o.kind = 6
  · unfold doF
    rw [if_neg h1, if_neg h2, if_neg h7, if_neg h8, if_neg h9, if_neg h3, if_neg h4, if_neg h5, if_pos h6]
    split
    · exact h.choose _ _
    · exact (h.choose _ _).panic _
  · unfold doF
    rw [if_neg h1, if_neg h2, if_neg h7, if_neg h8, if_neg h9, if_neg h3, if_neg h4, if_neg h5, if_neg h6]
    exact h
theorem VI.plan {s : Lm} (h : VI s) (p : List Int) : VI { s with p := p } := ⟨h.l1, h.l2, h.md0, h.lt, h.nlt, h.inj, h.ch, h.pre⟩
theorem VI.new (sc : Sh.Sc) : VI (newS sc) := by
  refine ⟨rfl, rfl, Int.le_refl _, fun e he => by simp [newS] at he, fun i hi => ?_, fun i j hi hj e0 p0 => ?_, fun i st hst => ?_, fun c => ⟨[], rfl⟩⟩
  · show nth (List.replicate 8 (-1)) i < 0
    rw [nth_lt _ _ (by simpa using hi), List.getElem_replicate]
    decide
  · have p0' : 0 ≤ nth (List.replicate 8 (-1 : Int)) i := p0
    rw [nth_lt _ _ (by simpa using hi), List.getElem_replicate] at p0'
    omega
  · have hst' : (List.replicate 8 (none : Option St))[i]? = some (some st) := hst
    rw [List.getElem?_replicate] at hst'
    split at hst' <;> simp at hst'
theorem VI.steps {sc : Sh.Sc} (hs : Sh.schk sc = 0) : ∀ n, VI (stepsF n (newS sc))
  | 0 => VI.new sc
  | n + 1 => by
    have h := VI.steps hs n
    rw [steps_succ]
    obtain ⟨k, -, i, -⟩ := Inv.steps hs n
    generalize stepsF n (newS sc) = s at *
    unfold stepF
    split
    · exact h
    · split
      · exact (h.plan _).tell _ rfl rfl (Qt.refl _) rfl (by have := h.md0; show (-1 : Int) < s.md; omega) rfl
      · exact (h.plan _).do_ _ _ (op_chk hs i _)
theorem values {sc : Sh.Sc} (hs : Sh.schk sc = 0) (c : Int) : ∃ l, ins c (runF sc).tr = outs c (runF sc).tr ++ l := (VI.steps hs sc.pl.length).pre c
end Lo
end Go.Proofs.YtkkgbeaaekmhfaaGreat
