/- What is received was sent: of each channel what came out is a beginning of what went in. -/
import Derived.Test.YtkkgbeaaekmhfaaGreatZjGl12
namespace Go.Proofs.YtkkgbeaaekmhfaaGreat
namespace Lo
open Ba

def inB (c : Int) (e : Ev) : Bool := e.c == c && (e.k == 3 || (e.k == 7 && e.s))
def outB (c : Int) (e : Ev) : Bool := e.c == c && ((e.k == 4 && e.o) || (e.k == 7 && (!e.s && e.o)))
def ins (c : Int) (l : List Ev) : List Int := (l.filter (inB c)).map (·.v)
def outs (c : Int) (l : List Ev) : List Int := (l.filter (outB c)).map (·.v)
theorem ins_app (c : Int) (a b : List Ev) : ins c (a ++ b) = ins c a ++ ins c b := by simp [ins]
theorem outs_app (c : Int) (a b : List Ev) : outs c (a ++ b) = outs c a ++ outs c b := by simp [outs]
theorem ins_none {c : Int} {l : List Ev} (h : ∀ e ∈ l, inB c e = false) : ins c l = [] := by
  unfold ins
  rw [List.filter_eq_nil_iff.2 (fun e he => by rw [h e he]; simp)]
  rfl
theorem outs_none {c : Int} {l : List Ev} (h : ∀ e ∈ l, outB c e = false) : outs c l = [] := by
  unfold outs
  rw [List.filter_eq_nil_iff.2 (fun e he => by rw [h e he]; simp)]
  rfl
theorem in_off {c : Int} {e : Ev} (h : e.c ≠ c) : inB c e = false ∧ outB c e = false := by simp [inB, outB, h]
/-- an event that is neither a value's going in nor its coming out -/
def quietE (e : Ev) : Bool := !(e.k == 3) && !(e.k == 4 && e.o) && !(e.k == 7 && (e.s || e.o))
theorem quiet_off {e : Ev} (h : quietE e = true) (c : Int) : inB c e = false ∧ outB c e = false := by
  unfold quietE at h
  unfold inB outB
  cases h3 : (e.k == 3) <;> cases h4 : (e.k == 4) <;> cases h7 : (e.k == 7) <;> cases ho : e.o <;> cases hs : e.s <;> simp [h3, h4, h7, ho, hs] at h ⊢
/-- receivers wait only where no value is -/
def J (st : St) : Prop := st.rcv ≠ [] → st.buf = []
/-- the channels have the same values, and no receiver more where there are some -/
structure Qt (a b : List (Option St)) : Prop where
  len : b.length = a.length
  at_ : ∀ (i : Nat) (y : St), b[i]? = some (some y) → ∃ x, a[i]? = some (some x) ∧ y.buf = x.buf ∧ (J x → J y)
theorem Qt.refl (a : List (Option St)) : Qt a a := ⟨rfl, fun _ y h => ⟨y, h, rfl, id⟩⟩
theorem Qt.trans {a b c : List (Option St)} (h : Qt a b) (k : Qt b c) : Qt a c :=
  ⟨k.len.trans h.len, fun i z hz => by
    obtain ⟨y, hy, e, j⟩ := k.at_ i z hz
    obtain ⟨x, hx, e2, j2⟩ := h.at_ i y hy
    exact ⟨x, hx, e.trans e2, fun q => j (j2 q)⟩⟩
theorem Qt.set {a : List (Option St)} {c : Int} {x y : St} (h : Fk.nmB a c = some x) (e : y.buf = x.buf) (j : J x → J y) : Qt a (a.set c.toNat (some y)) :=
  ⟨by simp, fun i z hz => by
    rw [List.getElem?_set] at hz
    split at hz
    · rename_i e1
      subst e1
      split at hz
      · simp at hz
        subst hz
        exact ⟨x, Fk.nmB_at h, e, j⟩
      · cases hz
    · exact ⟨z, hz, rfl, id⟩⟩
theorem dr_nonnil {g : Int} {l : List Wt} (h : Pe.dr g l ≠ []) : l ≠ [] := fun e => h (by rw [e]; rfl)
theorem Qt.leave (g : Int) (a : List (Option St)) : Qt a (Fk.leaveS g a) :=
  ⟨by simp [Fk.leaveS], fun i z hz => by
    unfold Fk.leaveS at hz
    rw [List.getElem?_map] at hz
    cases hx : a[i]? with
    | none => rw [hx] at hz; cases hz
    | some o =>
      rw [hx] at hz
      cases o with
      | none => simp [Fk.dropO] at hz
      | some x =>
        simp [Fk.dropO] at hz
        subst hz
        exact ⟨x, rfl, rfl, fun q r => q (dr_nonnil r)⟩⟩
theorem j_wait {st : St} (h : J st) (b : Bool) (x : Wt) : J (_root_.Go.Proofs.YtkkgbeaaekmhfaaGreat.Pi.waitS st b x) := by
  unfold _root_.Go.Proofs.YtkkgbeaaekmhfaaGreat.Pi.waitS
  split
  · exact h
  · rename_i hr
    split
    · exact h
    · rename_i hb
      intro _
      have hb' : b = false := by simpa using hb
      subst hb'
      unfold _root_.Go.Proofs.YtkkgbeaaekmhfaaGreat.Pi.rdyBut _root_.Go.Proofs.YtkkgbeaaekmhfaaGreat.Pi.room at hr
      simp at hr
      exact hr.1.2
theorem buf_wait (st : St) (b : Bool) (x : Wt) : (_root_.Go.Proofs.YtkkgbeaaekmhfaaGreat.Pi.waitS st b x).buf = st.buf := by
  unfold _root_.Go.Proofs.YtkkgbeaaekmhfaaGreat.Pi.waitS
  split
  · rfl
  · split <;> rfl
theorem Qt.wait (a : List (Option St)) (c : Ca) (g : Int) : Qt a (waitN a c g) := by
  unfold waitN
  split
  · exact Qt.refl a
  · rename_i st e
    exact Qt.set e (buf_wait _ _ _) (fun q => j_wait q _ _)
theorem Qt.pk1 (g : Int) (p : Nat) (c : Ca) (a : List (Option St)) : Qt a (Fk.pk1 g p c a) := by
  unfold Fk.pk1
  split
  · exact Qt.refl a
  · rename_i st e
    exact Qt.set e (buf_wait _ _ _) (fun q => j_wait q _ _)
theorem Qt.pkS (g : Int) (l : List Ca) (a : List (Option St)) : ∀ k, Qt a (Fk.pkS g l a k)
  | 0 => Qt.refl a
  | k + 1 => by
    unfold Fk.pkS
    split
    · exact Qt.pkS g l a k
    · exact (Qt.pkS g l a k).trans (Qt.pk1 _ _ _ _)
theorem Qt.pkA (g : Int) (l : List Ca) (a : List (Option St)) : Qt a (Fk.pkA g l a) := by
  unfold Fk.pkA
  split
  · exact Qt.refl a
  · split
    · exact Qt.refl a
    · exact Qt.pkS g l a _
theorem Qt.close {a : List (Option St)} {c : Int} {st : St} (h : Fk.nmB a c = some st) : Qt a (a.set c.toNat (some (_root_.Go.Proofs.YtkkgbeaaekmhfaaGreat.Pi.closeS st))) := by
  unfold _root_.Go.Proofs.YtkkgbeaaekmhfaaGreat.Pi.closeS
  split
  · exact Qt.set h rfl id
  · exact Qt.set h rfl (fun _ r => absurd rfl r)
structure VI (s : Lm) : Prop where
  l1 : s.sts.length = 8
  l2 : s.nm.length = 8
  md0 : 0 ≤ s.md
  lt : ∀ e ∈ s.tr, e.c < s.md
  nlt : ∀ i, i < 8 → nth s.nm i < s.md
  inj : ∀ i j, i < 8 → j < 8 → nth s.nm i = nth s.nm j → 0 ≤ nth s.nm i → i = j
  ch : ∀ (i : Nat) (st : St), s.sts[i]? = some (some st) → 0 ≤ nth s.nm i ∧ ins (nth s.nm i) s.tr = outs (nth s.nm i) s.tr ++ st.buf ∧ J st
  pre : ∀ c, ∃ l, ins c s.tr = outs c s.tr ++ l
theorem VI.quiet {s s' : Lm} (h : VI s) (hn : s'.nm = s.nm) (hm : s'.md = s.md) (hq : Qt s.sts s'.sts) (es : List Ev) (ht : s'.tr = s.tr ++ es) (hes : ∀ e ∈ es, e.c < s.md ∧ quietE e = true) : VI s' := by
  have i0 : ∀ c, ins c es = [] := fun c => ins_none fun e he => (quiet_off (hes e he).2 c).1
  have o0 : ∀ c, outs c es = [] := fun c => outs_none fun e he => (quiet_off (hes e he).2 c).2
  have i1 : ∀ c, ins c s'.tr = ins c s.tr := fun c => by rw [ht, ins_app, i0, List.append_nil]
  have o1 : ∀ c, outs c s'.tr = outs c s.tr := fun c => by rw [ht, outs_app, o0, List.append_nil]
  refine ⟨hq.len.trans h.l1, by rw [hn]; exact h.l2, by rw [hm]; exact h.md0, fun e he => ?_, fun i hi => by rw [hn, hm]; exact h.nlt i hi, fun i j hi hj => by rw [hn]; exact h.inj i j hi hj, fun i st hst => ?_, fun c => by rw [i1, o1]; exact h.pre c⟩
  · rw [ht, List.mem_append] at he
    rw [hm]
    rcases he with q | q
    · exact h.lt e q
    · exact (hes e q).1
  · obtain ⟨x, hx, e, j⟩ := hq.at_ i st hst
    obtain ⟨h0, h1, h2⟩ := h.ch i x hx
    rw [hn, i1, o1, e]
    exact ⟨h0, h1, j h2⟩
theorem VI.tell {s s' : Lm} (h : VI s) (e : Ev) (hn : s'.nm = s.nm) (hm : s'.md = s.md) (hq : Qt s.sts s'.sts) (ht : s'.tr = s.tr) (hc : e.c < s.md) (hqe : quietE e = true) : VI (tellS s' e) :=
  h.quiet (s' := tellS s' e) hn hm hq [e] (by show s'.tr ++ [e] = _; rw [ht]) (fun x hx => by simp at hx; subst hx; exact ⟨hc, hqe⟩)
theorem VI.nmd {s : Lm} (h : VI s) {c : Int} {st : St} (hc : Fk.nmB s.sts c = some st) : c.toNat < 8 ∧ 0 ≤ num s c ∧ num s c < s.md ∧ ins (num s c) s.tr = outs (num s c) s.tr ++ st.buf ∧ J st := by
  have h1 := Fk.nmB_at hc
  have h2 : c.toNat < 8 := by have := (List.getElem?_eq_some_iff.1 h1).1; rw [h.l1] at this; exact this
  obtain ⟨a, b, d⟩ := h.ch _ _ h1
  exact ⟨h2, a, h.nlt _ h2, b, d⟩
theorem VI.act {s s' : Lm} (h : VI s) {c : Int} {st st' : St} (hc : Fk.nmB s.sts c = some st) (hn : s'.nm = s.nm) (hm : s'.md = s.md) (hq : Qt (s.sts.set c.toNat (some st')) s'.sts) (es : List Ev) (ht : s'.tr = s.tr ++ es) (hes : ∀ e ∈ es, e.c = num s c) (hb : J st → J st' ∧ st.buf ++ ins (num s c) es = outs (num s c) es ++ st'.buf) : VI s' := by
  obtain ⟨c8, n0, nl, hio, hJ⟩ := h.nmd hc
  obtain ⟨hJ', hbuf⟩ := hb hJ
  have key : ins (num s c) s'.tr = outs (num s c) s'.tr ++ st'.buf := by
    rw [ht, ins_app, outs_app, hio, List.append_assoc, hbuf, List.append_assoc]
  have i1 : ∀ k, k ≠ num s c → ins k s'.tr = ins k s.tr := fun k hk => by rw [ht, ins_app, ins_none (l := es) (fun e he => (in_off (by rw [hes e he]; exact Ne.symm hk)).1), List.append_nil]
  have o1 : ∀ k, k ≠ num s c → outs k s'.tr = outs k s.tr := fun k hk => by rw [ht, outs_app, outs_none (l := es) (fun e he => (in_off (by rw [hes e he]; exact Ne.symm hk)).2), List.append_nil]
  refine ⟨by rw [hq.len, List.length_set]; exact h.l1, by rw [hn]; exact h.l2, by rw [hm]; exact h.md0, fun e he => ?_, fun i hi => by rw [hn, hm]; exact h.nlt i hi, fun i j hi hj => by rw [hn]; exact h.inj i j hi hj, fun i y hy => ?_, fun k => ?_⟩
  · rw [ht, List.mem_append] at he
    rw [hm]
    rcases he with q | q
    · exact h.lt e q
    · rw [hes e q]; exact nl
  · obtain ⟨x, hx, e, j⟩ := hq.at_ i y hy
    rw [hn, e]
    by_cases hi : i = c.toNat
    · subst hi
      rw [List.getElem?_set] at hx
      simp [h.l1, c8] at hx
      subst hx
      exact ⟨n0, key, j hJ'⟩
    · rw [List.getElem?_set_ne (Ne.symm hi)] at hx
      have i8 : i < 8 := by have := (List.getElem?_eq_some_iff.1 hx).1; rw [h.l1] at this; exact this
      obtain ⟨a, b, d⟩ := h.ch i x hx
      have hne : nth s.nm i ≠ num s c := fun z => hi (h.inj i c.toNat i8 c8 z a)
      rw [i1 _ hne, o1 _ hne]
      exact ⟨a, b, j d⟩
  · by_cases hk : k = num s c
    · subst hk
      exact ⟨_, key⟩
    · rw [i1 k hk, o1 k hk]
      exact h.pre k
end Lo
end Go.Proofs.YtkkgbeaaekmhfaaGreat
