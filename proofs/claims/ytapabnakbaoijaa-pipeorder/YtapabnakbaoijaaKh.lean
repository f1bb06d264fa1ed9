/- What holds of a channel whatever is done to it. -/
import Derived.Test.YtapabnakbaoijaaKg
namespace Go.Proofs.Ytapabnakbaoijaa
open Go.ChangeShapes Go.WideShapes Go.ChangeAt Go.RowKit
namespace Rp
open Ba Pe _root_.Go.Proofs.Ytapabnakbaoijaa.Pi

/-- who waits, must -/
structure Inv (st : St) : Prop where
  r : st.rcv ≠ [] → st.buf = []
  s : st.snd ≠ [] → st.buf.length = st.size
  g : ∀ x ∈ st.snd, ∀ y ∈ st.rcv, x.g = y.g
  c : st.closed = true → st.snd = [] ∧ st.rcv = []
  l : st.buf.length ≤ st.size
theorem Inv.zero (n : Nat) : Inv (st0 n) := ⟨fun h => absurd rfl h, fun h => absurd rfl h, fun _ h => by simp [st0] at h, fun h => by simp [st0] at h, Nat.zero_le _⟩
theorem Inv.send {st : St} (h : Inv st) (v : Int) : Inv (sendS st v) := by
  unfold sendS
  split
  · exact h
  · rename_i hc
    split
    · rename_i y t hr
      have hb := h.r (by rw [hr]; simp)
      exact ⟨fun _ => hb, h.s, fun a ha b hb => h.g a ha b (by rw [hr]; exact List.mem_cons_of_mem _ hb), fun e => absurd e hc, h.l⟩
    · rename_i hr
      split
      · rename_i hl
        have hs : st.snd = [] := by
          apply Classical.byContradiction
          intro e
          have := h.s e
          omega
        refine ⟨fun e => absurd hr e, fun e => absurd hs e, fun a ha => ?_, fun e => absurd e hc, ?_⟩
        · simp only [hs] at ha
          simp at ha
        · simp
          omega
      · exact h
theorem Inv.recv {st : St} (h : Inv st) : Inv (recvS st) := by
  have hr0 : ∀ x b, st.buf = x :: b → st.rcv = [] := by
    intro x b hb
    apply Classical.byContradiction
    intro e
    rw [h.r e] at hb
    cases hb
  have hl := h.l
  unfold recvS
  split
  · exact h
  · rename_i y t hb hs
    have h1 := h.s (by rw [hs]; simp)
    refine ⟨h.r, fun _ => h1, fun a ha b hb => h.g a (by rw [hs]; exact List.mem_cons_of_mem _ ha) b hb, fun e => ?_, h.l⟩
    have := (h.c e).1
    rw [hs] at this
    cases this
  · rename_i x b hb hs
    refine ⟨fun e => absurd (hr0 x b hb) e, fun e => absurd hs e, fun a ha => ?_, fun e => ⟨hs, hr0 x b hb⟩, ?_⟩
    · simp only [hs] at ha
      simp at ha
    · rw [hb] at hl
      simp at hl ⊢
      omega
  · rename_i x b y t hb hs
    have h1 := h.s (by rw [hs]; simp)
    have h2 := hr0 x b hb
    refine ⟨fun e => absurd h2 e, fun _ => ?_, fun a _ b hb => ?_, fun e => ?_, ?_⟩
    · rw [hb] at h1
      simp at h1 ⊢
      omega
    · simp only [h2] at hb
      simp at hb
    · have := (h.c e).1
      rw [hs] at this
      cases this
    · rw [hb] at hl
      simp at hl ⊢
      omega
theorem dr_none {g : Int} {l : List Wt} (h : (dr g l).length = 0) : ∀ y ∈ l, y.g = g := by
  intro y hy
  apply Classical.byContradiction
  intro e
  have : y ∈ dr g l := by
    unfold dr
    rw [List.mem_filter]
    exact ⟨hy, by simpa using e⟩
  rw [List.eq_nil_of_length_eq_zero h] at this
  cases this
theorem al_mem {l : List Wt} {x y : Wt} (h : y ∈ al l x) : y ∈ l ∨ y = x := by
  unfold al at h
  split at h
  · split at h
    · exact .inl h
    · rcases List.mem_append.1 h with q | q
      · exact .inl q
      · simp at q
        exact .inr q
  · exact .inl h
theorem Inv.wait {st : St} (h : Inv st) (b : Bool) (x : Wt) : Inv (waitS st b x) := by
  unfold waitS
  split
  · exact h
  · rename_i hq
    cases b
    · simp only [Bool.false_eq_true, if_false]
      have q1 : st.closed = false := by
        cases e : st.closed
        · rfl
        · exact absurd (by simp [rdyBut, e]) hq
      have q2 : ¬ 0 < st.buf.length := fun e => hq (by simp [rdyBut, room, e])
      have q3 : (dr x.g st.snd).length = 0 := by
        apply Classical.byContradiction
        intro e
        exact hq (by unfold rdyBut own; simp only [Bool.not_false, if_true, Bool.or_eq_true, decide_eq_true_eq]; exact .inr (by omega))
      have q4 := dr_none q3
      refine ⟨fun _ => List.eq_nil_of_length_eq_zero (by show st.buf.length = 0; omega), h.s, fun a ha c hc => ?_, fun e => (by have e' : st.closed = true := e; rw [q1] at e'; cases e'), h.l⟩
      rcases al_mem hc with q | q
      · exact h.g a ha c q
      · rw [q]
        exact q4 a ha
    · simp only [if_true]
      have q1 : st.closed = false := by
        cases e : st.closed
        · rfl
        · exact absurd (by simp [rdyBut, e]) hq
      have q2 : ¬ st.buf.length < st.size := fun e => hq (by simp [rdyBut, room, e])
      have q3 : (dr x.g st.rcv).length = 0 := by
        apply Classical.byContradiction
        intro e
        exact hq (by unfold rdyBut own; simp only [Bool.not_true, Bool.false_eq_true, if_false, Bool.or_eq_true, decide_eq_true_eq]; exact .inr (by omega))
      have q4 := dr_none q3
      have hl := h.l
      refine ⟨h.r, fun _ => by show st.buf.length = st.size; omega, fun a ha c hc => ?_, fun e => (by have e' : st.closed = true := e; rw [q1] at e'; cases e'), h.l⟩
      rcases al_mem ha with q | q
      · exact h.g a q c hc
      · rw [q]
        exact (q4 c hc).symm
theorem Inv.close {st : St} (h : Inv st) : Inv (closeS st) := by
  unfold closeS
  split
  · exact h
  · exact ⟨fun e => absurd rfl e, fun e => absurd rfl e, fun a ha => by simp at ha, fun _ => ⟨rfl, rfl⟩, h.l⟩
theorem Inv.drop {st : St} (h : Inv st) (g : Int) : Inv (dropS st g) := by
  unfold dropS
  have e1 : st.rcv = [] → dr g st.rcv = [] := fun e => by rw [e]; rfl
  have e2 : st.snd = [] → dr g st.snd = [] := fun e => by rw [e]; rfl
  refine ⟨fun e => h.r fun e3 => e (e1 e3), fun e => h.s fun e3 => e (e2 e3), fun a ha b hb => h.g a (List.mem_filter.1 ha).1 b (List.mem_filter.1 hb).1, fun e => ⟨e2 (h.c e).1, e1 (h.c e).2⟩, h.l⟩
theorem Inv.step {st : St} (h : Inv st) (what : Int) (x : Wt) : Inv (stepS st what x) := by
  unfold stepS
  split
  · exact h.send _
  split
  · exact h.recv
  split
  · exact h.wait _ _
  split
  · exact h.wait _ _
  split
  · exact h.close
  split
  · exact h.drop _
  · exact h
/-- what is not ready does nothing -/
theorem notReady_send {st : St} (h : rdy st true = false) (v : Int) : sendG st = gz ∧ sendE st = 0 ∧ sendS st v = st := by
  unfold rdy room own at h
  simp only [if_true, Bool.not_true, Bool.false_eq_true, if_false, Bool.or_eq_false_iff, decide_eq_false_iff_not] at h
  obtain ⟨⟨h1, h2⟩, h3⟩ := h
  have h4 : st.rcv = [] := List.eq_nil_of_length_eq_zero (by omega)
  exact ⟨by simp [sendG, h1, h2, h4], by simp [sendE, h1], by simp [sendS, h1, h2, h4]⟩
theorem notReady_recv {st : St} (h : rdy st false = false) : recvG st = gz ∧ recvS st = st := by
  unfold rdy room own at h
  simp only [Bool.false_eq_true, if_false, Bool.not_false, if_true, Bool.or_eq_false_iff, decide_eq_false_iff_not] at h
  obtain ⟨⟨h1, h2⟩, h3⟩ := h
  have h4 : st.snd = [] := List.eq_nil_of_length_eq_zero (by omega)
  have h5 : st.buf = [] := List.eq_nil_of_length_eq_zero (by omega)
  exact ⟨by simp [recvG, h1, h4, h5, gz], by simp [recvS, h4, h5]⟩
theorem Tp.prog {w0 a c : World} {B G : Nat} {F R F' : Nat → Prop} {n : Nat} {st : St} (h : Tp w0 a B G F R n st) (k : KF F a c) (i : Nw F' F a) (p : Pp c B F' st) : Tp w0 c B G F' R n st :=
  ⟨p, h.r.kf k (fun x hx hf => h.ap x hf hx), fun x hx hr => i.apart h.r.bd (fun y hy hf => h.ap y hf hy) x hr hx, k.below h.b h.lf, fun x hx => by
    rcases i x hx with q | q
    · exact h.lf x q
    · exact Nat.le_trans h.b.size q, h.lr, h.hs, h.hg⟩
/-- a step, with what holds of a channel -/
theorem Tp.doesI {w0 wr : World} {B G : Nat} {F R : Nat → Prop} {n : Nat} {st : St} (h : Tp w0 wr B G F R n st) (hi : Inv st) (hn : n < 1000000000) (what : Int) (x : Wt) :
    Calls Try.prog 11 #[.pointer (some ⟨B, 0, none⟩), .pointer (some ⟨G, 0, none⟩), .agg #[.int .i64 what, .int .i64 x.g, .int .i64 x.c, .int .i64 x.v]] wr fun r w' => r = .returned (.bool true) ∧ ∃ F' R' st', st'.size = st.size ∧ Inv st' ∧ Tp w0 w' B G F' R' (n + 1) st' := by
  refine (h.does hn what x).mono ?_
  rintro r w1 ⟨rfl, F', R', st', e, h1, h2⟩
  exact ⟨rfl, F', R', st', h1, by rw [e]; exact hi.step what x, h2⟩
end Rp
end Go.Proofs.Ytapabnakbaoijaa
