/- A loom's crew, who waits, and the reader's channels, one beside the other; without memory. -/
import Derived.Test.YtkkgbeaaekmhfaaGreatZjGl12
import Derived.Test.YtkkgbeaaekmhfaaGreatQn
import Derived.Test.YtkkgbeaaekmhfaaGreatQr1
namespace Go.Proofs.YtkkgbeaaekmhfaaGreat
namespace Lo
open Ba

/-! ### the crew -/
theorem gt_at {l : List Mb} {g : Int} {y : Mb} (h : Cr.gt l g = some y) : 0 ≤ g ∧ g.toNat < l.length ∧ l[g.toNat]? = some y := by
  obtain ⟨k, rfl, hk, hy⟩ := Cr.gt_some h
  exact ⟨by omega, by simpa using hk, by simpa using hy⟩
theorem st_at {l : List Mb} {g : Int} {y : Mb} (h : Cr.gt l g = some y) : (l.map (·.s)).getD g.toNat 0 = y.s := by
  obtain ⟨_, _, hy⟩ := gt_at h
  simp [List.getD_eq_getElem?_getD, hy]
theorem ch_is {l : List Mb} {g a b d : Int} {y : Mb} (h : Cr.gt l g = some y) (hy : y.s = a) : Cr.chL l g a b d = l.set g.toNat ⟨y.p, y.q + d, b⟩ := by
  unfold Cr.chL
  rw [h]
  simp [hy]
theorem ch_map {l : List Mb} {g a b d : Int} {y : Mb} (h : Cr.gt l g = some y) (hy : y.s = a) : (Cr.chL l g a b d).map (·.s) = (l.map (·.s)).set g.toNat b := by
  rw [ch_is h hy, List.map_set]
theorem gt_set' (l : List Mb) (g x : Int) (z : Mb) (h : x ≠ g) (hg : 0 ≤ g) : Cr.gt (l.set g.toNat z) x = Cr.gt l x := by
  unfold Cr.gt
  split
  · rfl
  · rw [List.getElem?_set_ne (by omega)]
theorem gt_ch_other {l : List Mb} {g a b d x : Int} (h : x ≠ g) : Cr.gt (Cr.chL l g a b d) x = Cr.gt l x := by
  unfold Cr.chL
  split
  · rfl
  · rename_i y hy
    split
    · exact gt_set' l g x _ h (gt_at hy).1
    · rfl
theorem gt_ch_same {l : List Mb} {g a b d : Int} {y : Mb} (h : Cr.gt l g = some y) (hy : y.s = a) : Cr.gt (Cr.chL l g a b d) g = some ⟨y.p, y.q + d, b⟩ := by
  rw [ch_is h hy]
  obtain ⟨h0, h1, _⟩ := gt_at h
  unfold Cr.gt
  rw [if_neg (by omega)]
  simp [h1]
/-- how many wait -/
def pc (l : List Mb) : Nat := l.countP fun x => decide (x.s = 1)
theorem countP_set {α : Type} (p : α → Bool) : ∀ (l : List α) (k : Nat) (x y : α), l[k]? = some x → (l.set k y).countP p + (if p x then 1 else 0) = l.countP p + (if p y then 1 else 0)
  | [], _, _, _, h => by simp at h
  | a :: l, 0, x, y, h => by
    simp at h
    subst h
    simp only [List.set_cons_zero, List.countP_cons]
    omega
  | a :: l, k + 1, x, y, h => by
    have := countP_set p l k x y (by simpa using h)
    simp only [List.set_cons_succ, List.countP_cons]
    omega
theorem pc_ch {l : List Mb} {g a b d : Int} {y : Mb} (h : Cr.gt l g = some y) (hy : y.s = a) : pc (Cr.chL l g a b d) + (if a = 1 then 1 else 0) = pc l + (if b = 1 then 1 else 0) := by
  rw [ch_is h hy]
  have := countP_set (fun x : Mb => decide (x.s = 1)) l g.toNat y ⟨y.p, y.q + d, b⟩ (gt_at h).2.2
  unfold pc
  simp only [decide_eq_true_eq, hy] at this
  exact this
/-! ### who waits -/
def Wm (sts : List (Option St)) (x : Wt) : Prop := ∃ (i : Nat) (st : St), sts[i]? = some (some st) ∧ (x ∈ st.snd ∨ x ∈ st.rcv)
/-- who waits is parked -/
def WQ (sts : List (Option St)) (cr : List Mb) : Prop := ∀ x, Wm sts x → ∃ y, Cr.gt cr x.g = some y ∧ y.s = 1
theorem WQ.sub {a b : List (Option St)} {cr : List Mb} (h : WQ a cr) (hs : ∀ x, Wm b x → Wm a x) : WQ b cr := fun x hx => h x (hs x hx)
theorem WQ.ch {sts : List (Option St)} {cr : List Mb} (h : WQ sts cr) {g : Int} {y : Mb} (hg : Cr.gt cr g = some y) (hy : y.s ≠ 1) (a b d : Int) : WQ sts (Cr.chL cr g a b d) := fun x hx => by
  obtain ⟨z, hz, hz1⟩ := h x hx
  have : x.g ≠ g := fun e => by rw [e, hg] at hz; cases hz; exact hy hz1
  exact ⟨z, by rw [gt_ch_other this]; exact hz, hz1⟩
theorem dr_in {g : Int} {l : List Wt} {x : Wt} (h : x ∈ Pe.dr g l) : x ∈ l ∧ x.g ≠ g := by
  unfold Pe.dr at h
  simp at h
  exact h
theorem leave_at {g : Int} {a : List (Option St)} {i : Nat} {z : St} (hz : (Fk.leaveS g a)[i]? = some (some z)) : ∃ x, a[i]? = some (some x) ∧ z = _root_.Go.Proofs.YtkkgbeaaekmhfaaGreat.Pi.dropS x g := by
  unfold Fk.leaveS at hz
  rw [List.getElem?_map] at hz
  cases hx : a[i]? with
  | none => rw [hx] at hz; cases hz
  | some o =>
    rw [hx] at hz
    cases o with
    | none => simp [Fk.dropO] at hz
    | some x =>
      simp [Fk.dropO] at hz
      exact ⟨x, rfl, hz.symm⟩
theorem wm_leave {g : Int} {a : List (Option St)} {x : Wt} (h : Wm (Fk.leaveS g a) x) : Wm a x ∧ x.g ≠ g := by
  obtain ⟨i, z, hz, hx⟩ := h
  obtain ⟨y, hy, rfl⟩ := leave_at hz
  unfold _root_.Go.Proofs.YtkkgbeaaekmhfaaGreat.Pi.dropS at hx
  rcases hx with q | q
  · exact ⟨⟨i, y, hy, .inl (dr_in q).1⟩, (dr_in q).2⟩
  · exact ⟨⟨i, y, hy, .inr (dr_in q).1⟩, (dr_in q).2⟩
theorem WQ.wake {sts : List (Option St)} {cr : List Mb} (h : WQ sts cr) (g a b d : Int) : WQ (Fk.leaveS g sts) (Cr.chL cr g a b d) := fun x hx => by
  obtain ⟨h1, h2⟩ := wm_leave hx
  obtain ⟨z, hz, hz1⟩ := h x h1
  exact ⟨z, by rw [gt_ch_other h2]; exact hz, hz1⟩
theorem wm_set {sts : List (Option St)} {i : Nat} {st : St} {x : Wt} (h : Wm (sts.set i (some st)) x) : Wm sts x ∨ x ∈ st.snd ∨ x ∈ st.rcv := by
  obtain ⟨j, z, hz, hx⟩ := h
  rw [List.getElem?_set] at hz
  split at hz
  · split at hz
    · simp at hz
      subst hz
      exact .inr hx
    · cases hz
  · exact .inl ⟨j, z, hz, hx⟩
/-- they wait, or are g -/
def WG (g : Int) (sts : List (Option St)) (cr : List Mb) : Prop := ∀ x, Wm sts x → x.g = g ∨ ∃ y, Cr.gt cr x.g = some y ∧ y.s = 1
theorem WG.park {g : Int} {sts : List (Option St)} {cr : List Mb} (h : WG g sts cr) {y : Mb} (hg : Cr.gt cr g = some y) (hy : y.s = 0) (d : Int) : WQ sts (Cr.chL cr g 0 1 d) := fun x hx => by
  by_cases e : x.g = g
  · rw [e]
    exact ⟨_, gt_ch_same hg hy, rfl⟩
  · rcases h x hx with q | ⟨z, hz, hz1⟩
    · exact absurd q e
    · exact ⟨z, by rw [gt_ch_other e]; exact hz, hz1⟩
theorem al_mem {l : List Wt} {x z : Wt} (h : z ∈ Pe.al l x) : z ∈ l ∨ z = x := by
  unfold Pe.al at h
  split at h
  · split at h
    · exact .inl h
    · simp at h
      rcases h with h | h
      · exact .inl h
      · exact .inr h
  · exact .inl h
theorem wait_mem {st : St} {b : Bool} {x z : Wt} (h : z ∈ (_root_.Go.Proofs.YtkkgbeaaekmhfaaGreat.Pi.waitS st b x).snd ∨ z ∈ (_root_.Go.Proofs.YtkkgbeaaekmhfaaGreat.Pi.waitS st b x).rcv) : (z ∈ st.snd ∨ z ∈ st.rcv) ∨ z = x := by
  unfold _root_.Go.Proofs.YtkkgbeaaekmhfaaGreat.Pi.waitS at h
  split at h
  · exact .inl h
  · split at h
    · rcases h with h | h
      · rcases al_mem h with q | q
        · exact .inl (.inl q)
        · exact .inr q
      · exact .inl (.inr h)
    · rcases h with h | h
      · exact .inl (.inl h)
      · rcases al_mem h with q | q
        · exact .inl (.inr q)
        · exact .inr q
theorem WG.pk {g : Int} {sts : List (Option St)} {cr : List Mb} (h : WG g sts cr) {c : Int} {st : St} (hc : Fk.nmB sts c = some st) (b : Bool) (p v : Int) : WG g (sts.set c.toNat (some (_root_.Go.Proofs.YtkkgbeaaekmhfaaGreat.Pi.waitS st b ⟨g, p, v⟩))) cr := fun x hx => by
  rcases wm_set hx with q | q
  · exact h x q
  · rcases wait_mem q with q | q
    · exact h x ⟨_, st, Fk.nmB_at hc, q⟩
    · exact .inl (by rw [q])
theorem WG.wait {g : Int} {sts : List (Option St)} {cr : List Mb} (h : WG g sts cr) (c : Ca) : WG g (waitN sts c g) cr := by
  unfold waitN
  split
  · exact h
  · rename_i st e
    exact h.pk e _ _ _
theorem WG.pkS {g : Int} {sts : List (Option St)} {cr : List Mb} (h : WG g sts cr) (l : List Ca) : ∀ k, WG g (Fk.pkS g l sts k) cr
  | 0 => h
  | k + 1 => by
    unfold Fk.pkS
    split
    · exact h.pkS l k
    · unfold Fk.pk1
      split
      · exact h.pkS l k
      · rename_i st e
        exact (h.pkS l k).pk e _ _ _
theorem WG.pkA {g : Int} {sts : List (Option St)} {cr : List Mb} (h : WG g sts cr) (l : List Ca) : WG g (Fk.pkA g l sts) cr := by
  unfold Fk.pkA
  split
  · exact h
  · split
    · exact h
    · exact h.pkS l _
/-! ### each channel by itself -/
structure Fine (st : St) : Prop where
  cl : st.closed = true → st.snd = [] ∧ st.rcv = []
  bf : st.buf.length ≤ st.size
def CQ (sts : List (Option St)) : Prop := ∀ (i : Nat) (st : St), sts[i]? = some (some st) → Fine st
theorem CQ.set {sts : List (Option St)} (h : CQ sts) {st : St} (hs : Fine st) (i : Nat) : CQ (sts.set i (some st)) := fun j z hz => by
  rw [List.getElem?_set] at hz
  split at hz
  · split at hz
    · simp at hz
      subst hz
      exact hs
    · cases hz
  · exact h j z hz
theorem dr_nil (g : Int) : Pe.dr g [] = [] := rfl
theorem CQ.leave {sts : List (Option St)} (h : CQ sts) (g : Int) : CQ (Fk.leaveS g sts) := fun i z hz => by
  obtain ⟨y, hy, rfl⟩ := leave_at hz
  have f := h i y hy
  refine ⟨fun q => ?_, f.bf⟩
  obtain ⟨a, b⟩ := f.cl q
  unfold _root_.Go.Proofs.YtkkgbeaaekmhfaaGreat.Pi.dropS
  simp only [a, b]
  exact ⟨rfl, rfl⟩
theorem Fine.wait {st : St} (h : Fine st) (b : Bool) (x : Wt) : Fine (_root_.Go.Proofs.YtkkgbeaaekmhfaaGreat.Pi.waitS st b x) := by
  unfold _root_.Go.Proofs.YtkkgbeaaekmhfaaGreat.Pi.waitS
  split
  · exact h
  · rename_i hr
    have hc : st.closed = false := by
      unfold _root_.Go.Proofs.YtkkgbeaaekmhfaaGreat.Pi.rdyBut at hr
      simp at hr
      exact hr.1.1
    split
    · exact ⟨(fun q => by rw [hc] at q; cases q), h.bf⟩
    · exact ⟨(fun q => by rw [hc] at q; cases q), h.bf⟩
theorem CQ.wait {sts : List (Option St)} (h : CQ sts) (c : Ca) (g : Int) : CQ (waitN sts c g) := by
  unfold waitN
  split
  · exact h
  · rename_i st e
    exact h.set ((h _ _ (Fk.nmB_at e)).wait _ _) _
theorem CQ.pkS {sts : List (Option St)} (h : CQ sts) (g : Int) (l : List Ca) : ∀ k, CQ (Fk.pkS g l sts k)
  | 0 => h
  | k + 1 => by
    unfold Fk.pkS
    split
    · exact h.pkS g l k
    · unfold Fk.pk1
      split
      · exact h.pkS g l k
      · rename_i st e
        exact (h.pkS g l k).set ((h.pkS g l k _ _ (Fk.nmB_at e)).wait _ _) _
theorem CQ.pkA {sts : List (Option St)} (h : CQ sts) (g : Int) (l : List Ca) : CQ (Fk.pkA g l sts) := by
  unfold Fk.pkA
  split
  · exact h
  · split
    · exact h
    · exact h.pkS g l _
/-! ### the reader's channels -/
def vw (st : St) : Gu.Chn := ⟨st.size, st.buf, st.closed⟩
/-- the channels look the same to the reader -/
def Sv (a b : List (Option St)) : Prop := ∀ (i : Nat) (y : St), b[i]? = some (some y) → ∃ x, a[i]? = some (some x) ∧ vw y = vw x
theorem Sv.refl (a : List (Option St)) : Sv a a := fun _ y h => ⟨y, h, rfl⟩
theorem Sv.trans {a b c : List (Option St)} (h : Sv a b) (k : Sv b c) : Sv a c := fun i z hz => by
  obtain ⟨y, hy, e⟩ := k i z hz
  obtain ⟨x, hx, e2⟩ := h i y hy
  exact ⟨x, hx, e.trans e2⟩
theorem Sv.set {a : List (Option St)} {c : Int} {x y : St} (h : Fk.nmB a c = some x) (e : vw y = vw x) : Sv a (a.set c.toNat (some y)) := fun i z hz => by
  rw [List.getElem?_set] at hz
  split at hz
  · rename_i e1
    subst e1
    split at hz
    · simp at hz
      subst hz
      exact ⟨x, Fk.nmB_at h, e⟩
    · cases hz
  · exact ⟨z, hz, rfl⟩
theorem Sv.leave (g : Int) (a : List (Option St)) : Sv a (Fk.leaveS g a) := fun i z hz => by
  obtain ⟨y, hy, rfl⟩ := leave_at hz
  exact ⟨y, hy, rfl⟩
theorem vw_wait (st : St) (b : Bool) (x : Wt) : vw (_root_.Go.Proofs.YtkkgbeaaekmhfaaGreat.Pi.waitS st b x) = vw st := by
  unfold _root_.Go.Proofs.YtkkgbeaaekmhfaaGreat.Pi.waitS
  split
  · rfl
  · split <;> rfl
theorem Sv.wait (a : List (Option St)) (c : Ca) (g : Int) : Sv a (waitN a c g) := by
  unfold waitN
  split
  · exact Sv.refl a
  · rename_i st e
    exact Sv.set e (vw_wait _ _ _)
theorem Sv.pkS (g : Int) (l : List Ca) (a : List (Option St)) : ∀ k, Sv a (Fk.pkS g l a k)
  | 0 => Sv.refl a
  | k + 1 => by
    unfold Fk.pkS
    split
    · exact Sv.pkS g l a k
    · unfold Fk.pk1
      split
      · exact Sv.pkS g l a k
      · rename_i st e
        exact (Sv.pkS g l a k).trans (Sv.set e (vw_wait _ _ _))
theorem Sv.pkA (g : Int) (l : List Ca) (a : List (Option St)) : Sv a (Fk.pkA g l a) := by
  unfold Fk.pkA
  split
  · exact Sv.refl a
  · split
    · exact Sv.refl a
    · exact Sv.pkS g l a _
end Lo
end Go.Proofs.YtkkgbeaaekmhfaaGreat
