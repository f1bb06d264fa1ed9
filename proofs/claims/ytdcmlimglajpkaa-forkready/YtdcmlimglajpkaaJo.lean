/- The channels of both, side by side. -/
import Derived.Test.YtdcmlimglajpkaaJn
namespace Go.Proofs.Ytdcmlimglajpkaa
open Go.ChangeShapes Go.WideShapes Go.ChangeAt Go.RowKit
namespace Fk
open Ba Pe _root_.Go.Proofs.Ytdcmlimglajpkaa.Pi Rp

/-- the program's channels, and the reference's, all newer than w, each other's blocks apart -/
structure Tw (w u : World) (oa : Option Addr) (bs : List (Option Nat)) (Fs : Nat → Nat → Prop) (ob : Option Addr) (gs : List (Option Nat)) (Gs : Nat → Nat → Prop) (sp sr : List (Option St)) : Prop where
  p : Qs Pp u oa bs Fs sp
  r : Qs Rr u ob gs Gs sr
  ap : ∀ x, All Fs x → ¬ All Gs x
  np : ∀ a, oa = some a → a.block < u.heap.size ∧ ¬ All Gs a.block
  nr : ∀ a, ob = some a → a.block < u.heap.size ∧ ¬ All Fs a.block
  b : Below w.heap.size w u
  lf : ∀ x, All Fs x → w.heap.size ≤ x
  lg : ∀ x, All Gs x → w.heap.size ≤ x
theorem Tw.below {w u v : World} {oa : Option Addr} {bs : List (Option Nat)} {Fs : Nat → Nat → Prop} {ob : Option Addr} {gs : List (Option Nat)} {Gs : Nat → Nat → Prop} {sp sr : List (Option St)} (h : Tw w u oa bs Fs ob gs Gs sp sr) (hb : Below u.heap.size u v) : Tw w v oa bs Fs ob gs Gs sp sr :=
  ⟨h.p.below frP hb, h.r.below frR hb, h.ap, fun a e => ⟨Nat.lt_of_lt_of_le (h.np a e).1 hb.size, (h.np a e).2⟩, fun a e => ⟨Nat.lt_of_lt_of_le (h.nr a e).1 hb.size, (h.nr a e).2⟩, btr h.b hb, h.lf, h.lg⟩
theorem all_bd {Q : World → Nat → (Nat → Prop) → St → Prop} {w : World} {oa : Option Addr} {bs : List (Option Nat)} {Fs : Nat → Nat → Prop} {sts : List (Option St)} (h : Qs Q w oa bs Fs sts) {x : Nat} (hx : All Fs x) : x < w.heap.size := by
  obtain ⟨i, hi⟩ := hx
  exact h.bd i x hi
/-- what is neither's stays -/
def Rest (u v : World) (Fs Gs Fs' Gs' : Nat → Nat → Prop) : Prop := u.heap.size ≤ v.heap.size ∧ ∀ x, x < u.heap.size → ¬ All Fs x → ¬ All Gs x → v.heap[x]? = u.heap[x]? ∧ ¬ All Fs' x ∧ ¬ All Gs' x
theorem Rest.heap {u v : World} {Fs Gs Fs' Gs' : Nat → Nat → Prop} (h : Rest u v Fs Gs Fs' Gs') {x : Nat} {o : Obj} (hx : u.heap[x]? = some o) (h1 : ¬ All Fs x) (h2 : ¬ All Gs x) : v.heap[x]? = some o := ((h.2 x (heap_lt hx) h1 h2).1).trans hx
theorem Rest.trans {u v z : World} {Fs Gs F1 G1 F2 G2 : Nat → Nat → Prop} (h : Rest u v Fs Gs F1 G1) (k : Rest v z F1 G1 F2 G2) : Rest u z Fs Gs F2 G2 :=
  ⟨Nat.le_trans h.1 k.1, fun x hx h1 h2 => by
    obtain ⟨e1, a1, a2⟩ := h.2 x hx h1 h2
    obtain ⟨e2, c1, c2⟩ := k.2 x (Nat.lt_of_lt_of_le hx h.1) a1 a2
    exact ⟨e2.trans e1, c1, c2⟩⟩
theorem Rest.below {u v : World} {Fs Gs : Nat → Nat → Prop} (hb : Below u.heap.size u v) : Rest u v Fs Gs Fs Gs := ⟨hb.size, fun x hx h1 h2 => ⟨hb.block x hx, h1, h2⟩⟩
theorem Tw.stepP {w u v : World} {oa : Option Addr} {bs : List (Option Nat)} {Fs : Nat → Nat → Prop} {ob : Option Addr} {gs : List (Option Nat)} {Gs : Nat → Nat → Prop} {sp sr sp' : List (Option St)} (h : Tw w u oa bs Fs ob gs Gs sp sr) (r : Rz Pp u v oa bs Fs sp') : ∃ Fs', Tw w v oa bs Fs' ob gs Gs sp' sr ∧ Rest u v Fs Gs Fs' Gs := by
  obtain ⟨Fs', n, q, k⟩ := r
  have nn : ∀ x, All Fs' x → All Fs x ∨ u.heap.size ≤ x := fun x ⟨i, hi⟩ => n i x hi
  refine ⟨Fs', ⟨q, h.r.kf frR k (fun i x hx hf => h.ap x hf ⟨i, hx⟩) (fun a e => (h.nr a e).2), ?_, ?_, ?_, k.below h.b h.lf, ?_, h.lg⟩, k.size, ?_⟩
  · intro x hx hg
    rcases nn x hx with z | z
    · exact h.ap x z hg
    · have := all_bd h.r hg
      omega
  · exact fun a e => ⟨Nat.lt_of_lt_of_le (h.np a e).1 k.size, (h.np a e).2⟩
  · intro a e
    refine ⟨Nat.lt_of_lt_of_le (h.nr a e).1 k.size, fun hf => ?_⟩
    rcases nn _ hf with z | z
    · exact (h.nr a e).2 z
    · have := (h.nr a e).1
      omega
  · intro x hx
    rcases nn x hx with z | z
    · exact h.lf x z
    · exact Nat.le_trans h.b.size z
  · intro x hx h1 h2
    refine ⟨k.block x hx h1, fun hf => ?_, h2⟩
    rcases nn x hf with z | z
    · exact h1 z
    · omega
theorem Tw.stepR {w u v : World} {oa : Option Addr} {bs : List (Option Nat)} {Fs : Nat → Nat → Prop} {ob : Option Addr} {gs : List (Option Nat)} {Gs : Nat → Nat → Prop} {sp sr sr' : List (Option St)} (h : Tw w u oa bs Fs ob gs Gs sp sr) (r : Rz Rr u v ob gs Gs sr') : ∃ Gs', Tw w v oa bs Fs ob gs Gs' sp sr' ∧ Rest u v Fs Gs Fs Gs' := by
  obtain ⟨Gs', n, q, k⟩ := r
  have nn : ∀ x, All Gs' x → All Gs x ∨ u.heap.size ≤ x := fun x ⟨i, hi⟩ => n i x hi
  refine ⟨Gs', ⟨h.p.kf frP k (fun i x hx hf => h.ap x ⟨i, hx⟩ hf) (fun a e => (h.np a e).2), q, ?_, ?_, ?_, k.below h.b h.lg, h.lf, ?_⟩, k.size, ?_⟩
  · intro x hx hg
    rcases nn x hg with z | z
    · exact h.ap x hx z
    · have := all_bd h.p hx
      omega
  · intro a e
    refine ⟨Nat.lt_of_lt_of_le (h.np a e).1 k.size, fun hf => ?_⟩
    rcases nn _ hf with z | z
    · exact (h.np a e).2 z
    · have := (h.np a e).1
      omega
  · exact fun a e => ⟨Nat.lt_of_lt_of_le (h.nr a e).1 k.size, (h.nr a e).2⟩
  · intro x hx
    rcases nn x hx with z | z
    · exact h.lg x z
    · exact Nat.le_trans h.b.size z
  · intro x hx h1 h2
    refine ⟨k.block x hx h2, h1, fun hf => ?_⟩
    rcases nn x hf with z | z
    · exact h2 z
    · omega
/-- counts and waiters are few behind m acts -/
def Cn (m : Nat) (s : List (Option St)) : Prop := ∀ (i : Nat) (st : St), s[i]? = some (some st) → st.sent ≤ m ∧ st.got ≤ m ∧ st.snd.length ≤ 4 * m ∧ st.rcv.length ≤ 4 * m
theorem Cn.sml {m : Nat} {s : List (Option St)} (h : Cn m s) (hm : m ≤ 1000) : Sml s := fun i st hi => by
  obtain ⟨h1, h2, _, _⟩ := h i st hi
  omega
theorem Cn.le {m : Nat} {s : List (Option St)} (h : Cn m s) (hm : m ≤ 250) : ∀ (i : Nat) (st : St), s[i]? = some (some st) → ∀ b, (own st b).length ≤ 1000 := fun i st hi b => by
  obtain ⟨_, _, h3, h4⟩ := h i st hi
  unfold own
  cases b <;> simp <;> omega
theorem Cn.mono {m k : Nat} {s : List (Option St)} (h : Cn m s) (hk : m ≤ k) : Cn k s := fun i st hi => by
  obtain ⟨h1, h2, h3, h4⟩ := h i st hi
  omega
theorem Cn.set {m : Nat} {s : List (Option St)} (h : Cn m s) (j : Nat) (st' : St) (hs : st'.sent ≤ m ∧ st'.got ≤ m ∧ st'.snd.length ≤ 4 * m ∧ st'.rcv.length ≤ 4 * m) : Cn m (s.set j (some st')) := by
  intro i st hi
  by_cases e : j = i
  · subst e
    have hl : j < s.length := by
      have := (List.getElem?_eq_some_iff.1 hi).1
      simpa using this
    rw [List.getElem?_set_self hl] at hi
    cases hi
    exact hs
  · rw [List.getElem?_set_ne e] at hi
    exact h i st hi
theorem al_le (l : List Wt) (x : Wt) {n : Nat} (h : l.length ≤ n) : (al l x).length ≤ n + 1 := Nat.le_trans (al_len l x) (by omega)
theorem wait_few {m : Nat} {st : St} {b : Bool} {x : Wt} (h : st.sent ≤ m ∧ st.got ≤ m ∧ st.snd.length ≤ 4 * m ∧ st.rcv.length ≤ 4 * m) : (waitS st b x).sent ≤ m + 1 ∧ (waitS st b x).got ≤ m + 1 ∧ (waitS st b x).snd.length ≤ 4 * (m + 1) ∧ (waitS st b x).rcv.length ≤ 4 * (m + 1) := by
  obtain ⟨h1, h2, h3, h4⟩ := h
  have a1 := al_le st.snd x h3
  have a2 := al_le st.rcv x h4
  unfold waitS
  split
  · omega
  · split
    · simp only; omega
    · simp only; omega
theorem drop_few {m : Nat} {st : St} {g : Int} (h : st.sent ≤ m ∧ st.got ≤ m ∧ st.snd.length ≤ 4 * m ∧ st.rcv.length ≤ 4 * m) : (dropS st g).sent ≤ m ∧ (dropS st g).got ≤ m ∧ (dropS st g).snd.length ≤ 4 * m ∧ (dropS st g).rcv.length ≤ 4 * m := by
  obtain ⟨h1, h2, h3, h4⟩ := h
  have a1 := dr_len g st.snd
  have a2 := dr_len g st.rcv
  unfold dropS
  simp only
  omega
theorem send_few {m : Nat} {st : St} {x : Int} (h : st.sent ≤ m ∧ st.got ≤ m ∧ st.snd.length ≤ 4 * m ∧ st.rcv.length ≤ 4 * m) : (sendS st x).sent ≤ m + 1 ∧ (sendS st x).got ≤ m + 1 ∧ (sendS st x).snd.length ≤ 4 * (m + 1) ∧ (sendS st x).rcv.length ≤ 4 * (m + 1) := by
  obtain ⟨h1, h2, h3, h4⟩ := h
  unfold sendS
  split
  · omega
  · split
    · rename_i t e
      rw [e] at h4
      simp at h4
      simp only
      omega
    · split
      · simp only; omega
      · omega
theorem recv_few {m : Nat} {st : St} (h : st.sent ≤ m ∧ st.got ≤ m ∧ st.snd.length ≤ 4 * m ∧ st.rcv.length ≤ 4 * m) : (recvS st).sent ≤ m + 1 ∧ (recvS st).got ≤ m + 1 ∧ (recvS st).snd.length ≤ 4 * (m + 1) ∧ (recvS st).rcv.length ≤ 4 * (m + 1) := by
  obtain ⟨h1, h2, h3, h4⟩ := h
  unfold recvS
  split
  · omega
  · rename_i e
    rw [e] at h3
    simp at h3
    simp only
    omega
  · simp only; omega
  · rename_i e
    rw [e] at h3
    simp at h3
    simp only
    omega
theorem close_few {m : Nat} {st : St} (h : st.sent ≤ m ∧ st.got ≤ m ∧ st.snd.length ≤ 4 * m ∧ st.rcv.length ≤ 4 * m) : (closeS st).sent ≤ m ∧ (closeS st).got ≤ m ∧ (closeS st).snd.length ≤ 4 * m ∧ (closeS st).rcv.length ≤ 4 * m := by
  obtain ⟨h1, h2, h3, h4⟩ := h
  unfold closeS
  split
  · omega
  · simp; omega
end Fk
end Go.Proofs.Ytdcmlimglajpkaa
