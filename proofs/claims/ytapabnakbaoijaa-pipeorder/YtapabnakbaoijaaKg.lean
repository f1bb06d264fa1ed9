/- Both channels inside a law's frame. -/
import Derived.Test.YtapabnakbaoijaaKf
namespace Go.Proofs.Ytapabnakbaoijaa
open Go.ChangeShapes Go.WideShapes Go.ChangeAt Go.RowKit
namespace Rp
open Ba Pe _root_.Go.Proofs.Ytapabnakbaoijaa.Pi

/-- both channels, newer than w0, behind n steps -/
structure Tp (w0 wr : World) (B G : Nat) (F R : Nat → Prop) (n : Nat) (st : St) : Prop where
  p : Pp wr B F st
  r : Rr wr G R st
  ap : ∀ x, F x → ¬ R x
  b : Below w0.heap.size w0 wr
  lf : ∀ x, F x → w0.heap.size ≤ x
  lr : ∀ x, R x → w0.heap.size ≤ x
  hs : st.sent ≤ n
  hg : st.got ≤ n
theorem Tp.below {w0 a c : World} {B G : Nat} {F R : Nat → Prop} {n : Nat} {st : St} (h : Tp w0 a B G F R n st) (hb : Below a.heap.size a c) : Tp w0 c B G F R n st := ⟨h.p.below hb, h.r.below hb, h.ap, btr h.b hb, h.lf, h.lr, h.hs, h.hg⟩
theorem Tp.two {w0 a c : World} {B G : Nat} {F R : Nat → Prop} {n m : Nat} {st st' : St} (h : Tp w0 a B G F R n st) (t : Two a c B G F R st') (hs : st'.sent ≤ m) (hg : st'.got ≤ m) : ∃ F' R', Tp w0 c B G F' R' m st' := by
  obtain ⟨F', R', n1, n2, p, r, ap, k⟩ := t
  refine ⟨F', R', p, r, ap, k.below h.b (fun x hx => hx.elim (h.lf x) (h.lr x)), fun x hx => ?_, fun x hx => ?_, hs, hg⟩
  · rcases n1 x hx with q | q
    · exact h.lf x q
    · exact Nat.le_trans h.b.size q
  · rcases n2 x hx with q | q
    · exact h.lr x q
    · exact Nat.le_trans h.b.size q
theorem sendS_le (st : St) (x : Int) : (sendS st x).sent ≤ st.sent + 1 ∧ (sendS st x).got ≤ st.got + 1 ∧ (sendS st x).size = st.size := by
  unfold sendS
  split
  · exact ⟨by omega, by omega, rfl⟩
  · split
    · exact ⟨Nat.le_refl _, Nat.le_refl _, rfl⟩
    · split
      · exact ⟨Nat.le_refl _, Nat.le_succ _, rfl⟩
      · exact ⟨Nat.le_succ _, Nat.le_succ _, rfl⟩
theorem recvS_le (st : St) : (recvS st).sent ≤ st.sent + 1 ∧ (recvS st).got ≤ st.got + 1 ∧ (recvS st).size = st.size := by
  unfold recvS
  split
  · exact ⟨by omega, by omega, rfl⟩
  · exact ⟨Nat.le_refl _, Nat.le_refl _, rfl⟩
  · exact ⟨Nat.le_succ _, Nat.le_refl _, rfl⟩
  · exact ⟨Nat.le_refl _, Nat.le_refl _, rfl⟩
theorem waitS_le (st : St) (b : Bool) (x : Wt) : (waitS st b x).sent = st.sent ∧ (waitS st b x).got = st.got ∧ (waitS st b x).size = st.size := by
  unfold waitS
  split
  · exact ⟨rfl, rfl, rfl⟩
  · split
    · exact ⟨rfl, rfl, rfl⟩
    · exact ⟨rfl, rfl, rfl⟩
theorem closeS_le (st : St) : (closeS st).sent = st.sent ∧ (closeS st).got = st.got ∧ (closeS st).size = st.size := by
  unfold closeS
  split
  · exact ⟨rfl, rfl, rfl⟩
  · exact ⟨rfl, rfl, rfl⟩
theorem stepS_le (st : St) (what : Int) (x : Wt) : (stepS st what x).sent ≤ st.sent + 1 ∧ (stepS st what x).got ≤ st.got + 1 ∧ (stepS st what x).size = st.size := by
  unfold stepS
  split
  · exact sendS_le st x.v
  split
  · exact recvS_le st
  split
  · have h := waitS_le st true x
    exact ⟨by omega, by omega, h.2.2⟩
  split
  · have h := waitS_le st false x
    exact ⟨by omega, by omega, h.2.2⟩
  split
  · have h := closeS_le st
    exact ⟨by omega, by omega, h.2.2⟩
  split
  · exact ⟨Nat.le_succ _, Nat.le_succ _, rfl⟩
  · exact ⟨Nat.le_succ _, Nat.le_succ _, rfl⟩
/-- a step of both channels -/
theorem Tp.does {w0 wr : World} {B G : Nat} {F R : Nat → Prop} {n : Nat} {st : St} (h : Tp w0 wr B G F R n st) (hn : n < 1000000000) (what : Int) (x : Wt) :
    Calls Try.prog 11 #[.pointer (some ⟨B, 0, none⟩), .pointer (some ⟨G, 0, none⟩), .agg #[.int .i64 what, .int .i64 x.g, .int .i64 x.c, .int .i64 x.v]] wr fun r w' => r = .returned (.bool true) ∧ ∃ F' R' st', st' = stepS st what x ∧ st'.size = st.size ∧ Tp w0 w' B G F' R' (n + 1) st' := by
  have h1 := h.hs
  have h2 := h.hg
  have hl := stepS_le st what x
  refine (does_any B G F R st what x wr h.p h.r h.ap (by omega) (by omega)).mono ?_
  rintro r w1 ⟨rfl, t⟩
  obtain ⟨F', R', t'⟩ := h.two (m := n + 1) t (by omega) (by omega)
  exact ⟨rfl, F', R', _, rfl, hl.2.2, t'⟩
/-- what a law reads of the reference's channel -/
theorem Tp.open {w0 wr : World} {B G : Nat} {F R : Nat → Prop} {n : Nat} {st : St} (h : Tp w0 wr B G F R n st) : ∃ ol cl os cs oq cq, RO wr G R (.slice ol st.buf.length cl) (.slice os st.snd.length cs) (.slice oq st.rcv.length cq) st := by
  obtain ⟨vL, vS, vQ, ro⟩ := h.r
  obtain ⟨ol, cl, os, cs, oq, cq, ⟨rfl, _, _⟩, ⟨rfl, _, _⟩, rfl, _, _⟩ := ro.read
  exact ⟨ol, cl, os, cs, oq, cq, ro⟩
theorem waiting_t (B : Nat) (F : Nat → Prop) (st : St) (w : World) (h : Pp w B F st) :
    Calls Try.prog 19 #[.pointer (some ⟨B, 0, none⟩), .bool true] w fun r w' => ∃ oa c, r = .returned (.slice oa st.snd.length c) ∧ WAt w' oa st.snd ∧ Below w.heap.size w w' := waiting_any B F st true w h
theorem waiting_f (B : Nat) (F : Nat → Prop) (st : St) (w : World) (h : Pp w B F st) :
    Calls Try.prog 19 #[.pointer (some ⟨B, 0, none⟩), .bool false] w fun r w' => ∃ oa c, r = .returned (.slice oa st.rcv.length c) ∧ WAt w' oa st.rcv ∧ Below w.heap.size w w' := waiting_any B F st false w h
theorem cap_is (B : Nat) (F : Nat → Prop) (st : St) (n : Nat) (w : World) (h : Pp w B F st) (hn : st.size = n) :
    Calls Try.prog 14 #[.pointer (some ⟨B, 0, none⟩)] w fun r w' => r = .returned (.int .i64 (n : Int)) ∧ w' = w := by
  subst hn
  exact Pi.cap_any B F st w h
end Rp
end Go.Proofs.Ytapabnakbaoijaa
