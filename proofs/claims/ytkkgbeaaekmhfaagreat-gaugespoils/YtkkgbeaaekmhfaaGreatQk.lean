/- Events of a loom are right: what its channels hold, and each kind of event. -/
import Derived.Test.YtkkgbeaaekmhfaaGreatZjGl12
namespace Go.Proofs.YtkkgbeaaekmhfaaGreat
namespace Lo
open Ba

theorem okA_of {e : Ev} {a0 b0 a1 b1 a2 b2 a3 b3 a4 b4 : Int} (hs : En.spn e = [a0, b0, a1, b1, a2, b2, a3, b3, a4, b4]) (h0 : a0 ≤ e.g ∧ e.g ≤ b0) (h1 : a1 ≤ e.c ∧ e.c ≤ b1) (h2 : a2 ≤ e.a ∧ e.a ≤ b2) (h3 : a3 ≤ e.v ∧ e.v ≤ b3) (h4 : a4 ≤ e.m ∧ e.m ≤ b4) : ∀ j, j < 5 → En.okA e j = true := by
  intro j hj
  unfold En.okA En.inS
  rw [hs]
  rcases (show j = 0 ∨ j = 1 ∨ j = 2 ∨ j = 3 ∨ j = 4 by omega) with rfl | rfl | rfl | rfl | rfl
  · simp [nth, En.fl, h0]
  · simp [nth, En.fl, h1]
  · simp [nth, En.fl, h2]
  · simp [nth, En.fl, h3]
  · simp [nth, En.fl, h4]
theorem chk5 {e : Ev} {a0 b0 a1 b1 a2 b2 a3 b3 a4 b4 : Int} (hk : 1 ≤ e.k ∧ e.k ≤ 13) (hf : En.ff e = true) (hs : En.spn e = [a0, b0, a1, b1, a2, b2, a3, b3, a4, b4]) (h0 : a0 ≤ e.g ∧ e.g ≤ b0) (h1 : a1 ≤ e.c ∧ e.c ≤ b1) (h2 : a2 ≤ e.a ∧ e.a ≤ b2) (h3 : a3 ≤ e.v ∧ e.v ≤ b3) (h4 : a4 ≤ e.m ∧ e.m ≤ b4) : En.chk e = 0 := by
  unfold En.chk
  rw [if_neg (by omega), hf, En.okF_yes (okA_of hs h0 h1 h2 h3 h4)]
  rfl
/-- a goroutine, a channel, a place, a value -/
def gB (g : Int) : Prop := 0 ≤ g ∧ g ≤ 511
def aB (a : Int) : Prop := -1 ≤ a ∧ a ≤ 3
def vB (v : Int) : Prop := 0 ≤ v ∧ v ≤ 99
theorem m1 : (-1 : Int) ≤ -1 ∧ (-1 : Int) ≤ -1 := by decide
theorem m14 : (-1 : Int) ≤ -1 ∧ (-1 : Int) ≤ 4 := by decide
theorem z0 : (0 : Int) ≤ 0 ∧ (0 : Int) ≤ 0 := by decide
theorem ev_send {g c a v m : Int} (hg : gB g) (hc : gB c) (ha : aB a) (hv : vB v) (hm : -1 ≤ m ∧ m ≤ 511) : En.chk ⟨3, g, c, a, v, m, true, false⟩ = 0 :=
  chk5 (show (1 : Int) ≤ 3 ∧ (3 : Int) ≤ 13 by decide) rfl rfl hg hc ha hv hm
theorem ev_recv {g c a v m : Int} (hg : gB g) (hc : gB c) (ha : aB a) (hv : vB v) (hm : -1 ≤ m ∧ m ≤ 511) : En.chk ⟨4, g, c, a, v, m, false, true⟩ = 0 :=
  chk5 (show (1 : Int) ≤ 4 ∧ (4 : Int) ≤ 13 by decide) rfl rfl hg hc ha hv hm
theorem ev_recv0 {g c a : Int} (hg : gB g) (hc : gB c) (ha : aB a) : En.chk ⟨4, g, c, a, 0, -1, false, false⟩ = 0 :=
  chk5 (show (1 : Int) ≤ 4 ∧ (4 : Int) ≤ 13 by decide) rfl rfl hg hc ha z0 m1
theorem ev_wake {g c a v m : Int} (s : Bool) (hg : gB g) (hc : gB c) (ha : aB a) (hv : vB v) (hm : gB m) : En.chk ⟨7, g, c, a, v, m, s, true⟩ = 0 := by
  cases s <;> exact chk5 (show (1 : Int) ≤ 7 ∧ (7 : Int) ≤ 13 by decide) rfl rfl hg hc ha hv hm
theorem ev_wake0 {g c a m : Int} (hg : gB g) (hc : gB c) (ha : aB a) (hm : gB m) : En.chk ⟨7, g, c, a, 0, m, false, false⟩ = 0 :=
  chk5 (show (1 : Int) ≤ 7 ∧ (7 : Int) ≤ 13 by decide) rfl rfl hg hc ha z0 hm
theorem ev_wait {g c v : Int} (s : Bool) (hg : gB g) (hc : -1 ≤ c ∧ c ≤ 511) (hv : vB v) (h0 : s = false → v = 0) : En.chk ⟨6, g, c, -1, v, -1, s, false⟩ = 0 := by
  cases s
  · obtain rfl := h0 rfl
    exact chk5 (show (1 : Int) ≤ 6 ∧ (6 : Int) ≤ 13 by decide) rfl rfl hg hc m14 z0 m1
  · exact chk5 (show (1 : Int) ≤ 6 ∧ (6 : Int) ≤ 13 by decide) rfl rfl hg hc m14 hv m1
theorem ev_waits {g a : Int} (hg : gB g) (ha : 0 ≤ a ∧ a ≤ 4) : En.chk ⟨6, g, -1, a, 0, -1, false, false⟩ = 0 := by
  have h1 : (a != -1) = true := by
    have : ¬ a = -1 := by omega
    simp [this]
  have hs : En.spn ⟨6, g, -1, a, 0, -1, false, false⟩ = [0, 511, -1, -1, -1, 4, 0, 0, -1, -1] := by
    show (if (a != -1) = true then ([0, 511, -1, -1, -1, 4, 0, 0, -1, -1] : List Int) else [0, 511, -1, 511, -1, 4, 0, 0, -1, -1]) = _
    rw [if_pos h1]
  exact chk5 (show (1 : Int) ≤ 6 ∧ (6 : Int) ≤ 13 by decide) rfl hs hg m1 ⟨by show (-1 : Int) ≤ a; omega, ha.2⟩ z0 m1
theorem ev_spawn {g v m : Int} (hg : gB g) (hv : 0 ≤ v ∧ v ≤ 7) (hm : gB m) : En.chk ⟨1, g, -1, -1, v, m, false, false⟩ = 0 :=
  chk5 (show (1 : Int) ≤ 1 ∧ (1 : Int) ≤ 13 by decide) rfl rfl hg m1 m1 hv hm
theorem ev_make {g c v : Int} (hg : gB g) (hc : gB c) (hv : 0 ≤ v ∧ v ≤ 4) : En.chk ⟨2, g, c, -1, v, -1, false, false⟩ = 0 :=
  chk5 (show (1 : Int) ≤ 2 ∧ (2 : Int) ≤ 13 by decide) rfl rfl hg hc m1 hv m1
theorem ev_close {g c : Int} (hg : gB g) (hc : gB c) : En.chk ⟨5, g, c, -1, -1, -1, false, false⟩ = 0 :=
  chk5 (show (1 : Int) ≤ 5 ∧ (5 : Int) ≤ 13 by decide) rfl rfl hg hc m1 m1 m1
theorem ev_cell {k g v : Int} (hk : k = 9 ∨ k = 10) (hg : gB g) (hv : 0 ≤ v ∧ v ≤ 7) : En.chk ⟨k, g, -1, -1, v, -1, false, false⟩ = 0 := by
  rcases hk with rfl | rfl
  · exact chk5 (show (1 : Int) ≤ 9 ∧ (9 : Int) ≤ 13 by decide) rfl rfl hg m1 m1 hv m1
  · exact chk5 (show (1 : Int) ≤ 10 ∧ (10 : Int) ≤ 13 by decide) rfl rfl hg m1 m1 hv m1
theorem ev_bare {k g : Int} (hk : k = 8 ∨ k = 11 ∨ k = 12) (hg : gB g) : En.chk (bareE k g) = 0 := by
  rcases hk with rfl | rfl | rfl
  · exact chk5 (show (1 : Int) ≤ 8 ∧ (8 : Int) ≤ 13 by decide) rfl rfl hg m1 m1 m1 m1
  · exact chk5 (show (1 : Int) ≤ 11 ∧ (11 : Int) ≤ 13 by decide) rfl rfl hg m1 m1 m1 m1
  · exact chk5 (show (1 : Int) ≤ 12 ∧ (12 : Int) ≤ 13 by decide) rfl rfl hg m1 m1 m1 m1
theorem ev_comp : En.chk (bareE 13 (-1)) = 0 := chk5 (show (1 : Int) ≤ 13 ∧ (13 : Int) ≤ 13 by decide) rfl rfl m1 m1 m1 m1 m1
/-- who waits -/
def okW (x : Wt) : Prop := gB x.g ∧ aB x.c ∧ vB x.v
structure OkS (st : St) : Prop where
  snd : ∀ x ∈ st.snd, okW x
  rcv : ∀ x ∈ st.rcv, okW x
  buf : ∀ v ∈ st.buf, vB v
def OkC (sts : List (Option St)) : Prop := ∀ (i : Nat) (st : St), sts[i]? = some (some st) → OkS st
theorem OkC.set {sts : List (Option St)} {k : Nat} {v : St} (h : OkC sts) (hv : OkS v) : OkC (sts.set k (some v)) := by
  intro i st e
  rw [List.getElem?_set] at e
  split at e
  · split at e
    · simp at e
      subst e
      exact hv
    · cases e
  · exact h i st e
theorem OkC.nm {sts : List (Option St)} (h : OkC sts) {c : Int} {st : St} (e : Fk.nmB sts c = some st) : OkS st := h _ st (Fk.nmB_at e)
theorem dr_mem {g : Int} {l : List Wt} {x : Wt} (h : x ∈ Pe.dr g l) : x ∈ l := by
  unfold Pe.dr at h
  exact (List.mem_filter.1 h).1
theorem al_mem2 {l : List Wt} {x y : Wt} (h : y ∈ Pe.al l x) : y ∈ l ∨ y = x := by
  unfold Pe.al at h
  split at h
  · split at h
    · exact .inl h
    · simp at h
      rcases h with q | q
      · exact .inl q
      · exact .inr q
  · exact .inl h
theorem OkC.leave {sts : List (Option St)} (h : OkC sts) (g : Int) : OkC (Fk.leaveS g sts) := by
  intro i z hz
  unfold Fk.leaveS at hz
  rw [List.getElem?_map] at hz
  cases hx : sts[i]? with
  | none => rw [hx] at hz; cases hz
  | some o =>
    rw [hx] at hz
    cases o with
    | none => simp [Fk.dropO] at hz
    | some x =>
      simp [Fk.dropO] at hz
      subst hz
      have q := h i x hx
      exact ⟨fun y hy => q.snd y (dr_mem hy), fun y hy => q.rcv y (dr_mem hy), q.buf⟩
theorem OkS.wait {st : St} (h : OkS st) (b : Bool) {x : Wt} (hx : okW x) : OkS (_root_.Go.Proofs.YtkkgbeaaekmhfaaGreat.Pi.waitS st b x) := by
  unfold _root_.Go.Proofs.YtkkgbeaaekmhfaaGreat.Pi.waitS
  split
  · exact h
  · split
    · exact ⟨fun y hy => by rcases al_mem2 hy with q | q; exact h.snd y q; rw [q]; exact hx, h.rcv, h.buf⟩
    · exact ⟨h.snd, fun y hy => by rcases al_mem2 hy with q | q; exact h.rcv y q; rw [q]; exact hx, h.buf⟩
theorem OkC.wait {sts : List (Option St)} (h : OkC sts) (c : Ca) (g : Int) (hg : gB g) (hv : vB c.v) : OkC (waitN sts c g) := by
  unfold waitN
  split
  · exact h
  · rename_i st e
    exact h.set ((h.nm e).wait _ ⟨hg, by show aB (-1); unfold aB; omega, hv⟩)
theorem OkC.pk1 {sts : List (Option St)} (h : OkC sts) (g : Int) (p : Nat) (c : Ca) (hg : gB g) (hp : p ≤ 3) (hv : vB c.v) : OkC (Fk.pk1 g p c sts) := by
  unfold Fk.pk1
  split
  · exact h
  · rename_i st e
    exact h.set ((h.nm e).wait _ ⟨hg, by show aB (p : Int); unfold aB; omega, hv⟩)
theorem OkC.pkS {sts : List (Option St)} (h : OkC sts) (g : Int) (l : List Ca) (hg : gB g) (hl : l.length ≤ 4) (hv : ∀ c ∈ l, vB c.v) : ∀ k, OkC (Fk.pkS g l sts k)
  | 0 => h
  | k + 1 => by
    unfold Fk.pkS
    split
    · exact OkC.pkS h g l hg hl hv k
    · rename_i c e
      exact (OkC.pkS h g l hg hl hv k).pk1 _ _ _ hg (by have := (List.getElem?_eq_some_iff.1 e).1; omega) (hv c (List.mem_of_getElem? e))
theorem OkC.pkA {sts : List (Option St)} (h : OkC sts) (g : Int) (l : List Ca) (hg : gB g) (hl : l.length ≤ 4) (hv : ∀ c ∈ l, vB c.v) : OkC (Fk.pkA g l sts) := by
  unfold Fk.pkA
  split
  · exact h
  · split
    · exact h
    · exact h.pkS g l hg hl hv _
theorem OkS.close {st : St} (h : OkS st) : OkS (_root_.Go.Proofs.YtkkgbeaaekmhfaaGreat.Pi.closeS st) := by
  unfold _root_.Go.Proofs.YtkkgbeaaekmhfaaGreat.Pi.closeS
  split
  · exact h
  · exact ⟨fun x hx => by simp at hx, fun x hx => by simp at hx, h.buf⟩
theorem OkS.new (n : Nat) : OkS (_root_.Go.Proofs.YtkkgbeaaekmhfaaGreat.Pi.st0 n) := ⟨fun x hx => by simp [_root_.Go.Proofs.YtkkgbeaaekmhfaaGreat.Pi.st0] at hx, fun x hx => by simp [_root_.Go.Proofs.YtkkgbeaaekmhfaaGreat.Pi.st0] at hx, fun x hx => by simp [_root_.Go.Proofs.YtkkgbeaaekmhfaaGreat.Pi.st0] at hx⟩
end Lo
end Go.Proofs.YtkkgbeaaekmhfaaGreat
