/- Each event that a loom tells is right. -/
import Derived.Test.YtkkgbeaaekmhfaaGreatZjGl12
import Derived.Test.YtkkgbeaaekmhfaaGreatQk
import Derived.Test.YtkkgbeaaekmhfaaGreatQi
namespace Go.Proofs.YtkkgbeaaekmhfaaGreat
namespace Lo
open Ba

/-- all that was told is right, and all that waits -/
structure EI (s : Lm) : Prop where
  sts : OkC s.sts
  tr : ∀ e ∈ s.tr, En.chk e = 0
theorem EI.tell {s s' : Lm} (h : EI s) (e : Ev) (hs : OkC s'.sts) (ht : s'.tr = s.tr) (he : En.chk e = 0) : EI (tellS s' e) :=
  ⟨hs, fun x hx => by
    have hx' : x ∈ s'.tr ++ [e] := hx
    rw [ht, List.mem_append] at hx'
    rcases hx' with q | q
    · exact h.tr x q
    · simp at q
      rw [q]
      exact he⟩
theorem EI.two {s s' : Lm} (h : EI s) (e f : Ev) (hs : OkC s'.sts) (ht : s'.tr = s.tr ++ [e] ++ [f]) (he : En.chk e = 0) (hf : En.chk f = 0) : EI s' :=
  ⟨hs, fun x hx => by
    rw [ht, List.mem_append, List.mem_append] at hx
    rcases hx with (q | q) | q
    · exact h.tr x q
    · simp at q
      rw [q]
      exact he
    · simp at q
      rw [q]
      exact hf⟩
theorem EI.sm {s s' : Lm} (h : EI s) (hs : OkC s'.sts) (ht : s'.tr = s.tr) : EI s' := ⟨hs, fun x hx => h.tr x (by rw [← ht]; exact hx)⟩
set_option maxHeartbeats 1600000 in
theorem EI.try {s : Lm} (h : EI s) (g at_ : Int) (c : Ca) (hg : gB g) (ha : aB at_) (hv : vB c.v) (hu : ∀ st, Fk.nmB s.sts c.ch = some st → gB (num s c.ch)) : EI (tryF s g at_ c).s := by
  cases hn : Fk.nmB s.sts c.ch with
  | none =>
    have e1 : Fk.tryG s.sts c = _root_.Go.Proofs.YtkkgbeaaekmhfaaGreat.Pi.gz := by unfold Fk.tryG; rw [hn]
    have e2 : Fk.tryS s.sts c = s.sts := by unfold Fk.tryS; rw [hn]
    unfold tryF
    rw [e1, e2, if_pos (by exact Or.inr rfl)]
    exact h.sm h.sts rfl
  | some st =>
    have hc := hu st hn
    have os := h.sts.nm hn
    have m0 : (-1 : Int) ≤ -1 ∧ (-1 : Int) ≤ 511 := by decide
    have lift : ∀ {x : Int}, gB x → -1 ≤ x ∧ x ≤ 511 := fun {x} q => ⟨by have := q.1; omega, q.2⟩
    have eE : Fk.tryE s.sts c = if c.sd then _root_.Go.Proofs.YtkkgbeaaekmhfaaGreat.Pi.sendE st else 0 := by unfold Fk.tryE; rw [hn]
    have eG : Fk.tryG s.sts c = if c.sd then _root_.Go.Proofs.YtkkgbeaaekmhfaaGreat.Pi.sendG st else _root_.Go.Proofs.YtkkgbeaaekmhfaaGreat.Pi.recvG st := by unfold Fk.tryG; rw [hn]
    have eS : Fk.tryS s.sts c = s.sts.set c.ch.toNat (some (if c.sd then _root_.Go.Proofs.YtkkgbeaaekmhfaaGreat.Pi.sendS st c.v else _root_.Go.Proofs.YtkkgbeaaekmhfaaGreat.Pi.recvS st)) := by unfold Fk.tryS; rw [hn]
    have o1 := os.snd
    have o2 := os.rcv
    have o3 := os.buf
    unfold tryF tryV servV
    rw [eE, eG, eS]
    cases hs : c.sd with
    | true =>
      simp only [if_true]
      unfold _root_.Go.Proofs.YtkkgbeaaekmhfaaGreat.Pi.sendE _root_.Go.Proofs.YtkkgbeaaekmhfaaGreat.Pi.sendG _root_.Go.Proofs.YtkkgbeaaekmhfaaGreat.Pi.sendS
      cases hcl : st.closed with
      | true =>
        rw [if_pos (by simp)]
        exact h.sm (h.sts.set os) rfl
      | false =>
        cases hr : st.rcv with
        | cons y t =>
          rw [hr] at o2
          have oy := o2 y (by simp)
          simp only [Bool.false_eq_true, if_false]
          rw [if_neg (by simp), if_pos (by simp)]
          refine h.two _ _ ((h.sts.set ?_).leave _) rfl (ev_send hg hc ha hv (lift oy.1)) (ev_wake false oy.1 hc oy.2.1 hv hg)
          exact ⟨o1, fun x hx => o2 x (List.mem_cons_of_mem _ hx), o3⟩
        | nil =>
          simp only [Bool.false_eq_true, if_false]
          by_cases hl : st.buf.length < st.size
          · simp only [if_pos hl]
            rw [if_neg (by simp), if_neg (by simp)]
            refine h.tell (s' := { s with sts := _, cr := _ }) _ (h.sts.set ?_) rfl (ev_send hg hc ha hv m0)
            refine ⟨o1, fun x hx => (by cases hx), fun x hx => ?_⟩
            simp at hx
            rcases hx with q | q
            · exact o3 x q
            · rw [q]; exact hv
          · simp only [if_neg hl]
            rw [if_pos (by exact Or.inr rfl)]
            exact h.sm (h.sts.set os) rfl
    | false =>
      simp only [Bool.false_eq_true, if_false]
      unfold _root_.Go.Proofs.YtkkgbeaaekmhfaaGreat.Pi.recvG _root_.Go.Proofs.YtkkgbeaaekmhfaaGreat.Pi.recvS
      cases hb : st.buf with
      | nil =>
        cases hq : st.snd with
        | nil =>
          simp only
          cases hcl : st.closed with
          | false =>
            rw [if_pos (by exact Or.inr rfl)]
            exact h.sm (h.sts.set os) rfl
          | true =>
            rw [if_neg (by simp), if_neg (by simp)]
            exact h.tell (s' := { s with sts := _, cr := _ }) _ (h.sts.set os) rfl (ev_recv0 hg hc ha)
        | cons y t =>
          rw [hq] at o1
          have oy := o1 y (by simp)
          simp only
          rw [if_neg (by simp), if_pos (by simp)]
          refine h.two _ _ ((h.sts.set ?_).leave _) rfl (ev_recv hg hc ha oy.2.2 (lift oy.1)) (ev_wake true oy.1 hc oy.2.1 oy.2.2 hg)
          exact ⟨fun x hx => o1 x (List.mem_cons_of_mem _ hx), o2, fun x hx => by cases hx⟩
      | cons x b =>
        rw [hb] at o3
        have ox := o3 x (by simp)
        cases hq : st.snd with
        | nil =>
          simp only
          rw [if_neg (by simp), if_neg (by simp)]
          refine h.tell (s' := { s with sts := _, cr := _ }) _ (h.sts.set ?_) rfl (ev_recv hg hc ha ox m0)
          exact ⟨fun z hz => (by cases hz), o2, fun z hz => o3 z (List.mem_cons_of_mem _ hz)⟩
        | cons y t =>
          rw [hq] at o1
          have oy := o1 y (by simp)
          simp only
          rw [if_neg (by simp), if_pos (by simp)]
          refine h.two _ _ ((h.sts.set ?_).leave _) rfl (ev_recv hg hc ha ox (lift oy.1)) (ev_wake true oy.1 hc oy.2.1 oy.2.2 hg)
          refine ⟨fun z hz => o1 z (List.mem_cons_of_mem _ hz), o2, fun z hz => ?_⟩
          simp at hz
          rcases hz with q | q
          · exact o3 z (by simp [q])
          · rw [q]; exact oy.2.2
end Lo
end Go.Proofs.YtkkgbeaaekmhfaaGreat
