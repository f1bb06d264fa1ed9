/- The laws' own does(): a step of both channels, over this seat's program. -/
import Derived.Test.YtapabnakbaoijaaKb
namespace Go.Proofs.Ytapabnakbaoijaa
open Go.ChangeShapes Go.WideShapes Go.ChangeAt Go.RowKit
namespace Rp
open Ba Pe _root_.Go.Proofs.Ytapabnakbaoijaa.Pi

/-- both channels, from world to world, behind a step -/
def Two (w w' : World) (B G : Nat) (F R : Nat → Prop) (st : St) : Prop :=
  ∃ F' R', Nw F' F w ∧ Nw R' R w ∧ Pp w' B F' st ∧ Rr w' G R' st ∧ (∀ x, F' x → ¬ R' x) ∧ KF (fun x => F x ∨ R x) w w'
/-- the program's channel has done its step, the reference's has not -/
structure Half (w c : World) (B G : Nat) (F R F' : Nat → Prop) (st st' : St) : Prop where
  n : Nw F' F w
  p : Pp c B F' st'
  r : Rr c G R st
  ap : ∀ x, F' x → ¬ R x
  k : KF (fun x => F x ∨ R x) w c
theorem Half.mk' {w a b : World} {B G : Nat} {F R F' : Nat → Prop} {st st' : St} (hb : Below w.heap.size w a) (r : Rr w G R st) (ap : ∀ x, F x → ¬ R x) (k : KF F a b) (n : Nw F' F a) (p : Pp b B F' st') : Half w b B G F R F' st st' := by
  have ra := r.below hb
  refine ⟨(Nw.refl F w).trans n hb.size, p, ra.kf k (fun x hx hf => ap x hf hx), fun x hx hr => ?_, (KF.of (F := fun x => F x ∨ R x) hb).trans (k.mono fun _ h => .inl h) (Nw.refl _ _)⟩
  rcases n x hx with q | q
  · exact ap x q hr
  · have := ra.bd x hr
    omega
theorem Half.below {w c d : World} {B G : Nat} {F R F' : Nat → Prop} {st st' : St} (h : Half w c B G F R F' st st') (hb : Below c.heap.size c d) : Half w d B G F R F' st st' := ⟨h.n, h.p.below hb, h.r.below hb, h.ap, h.k.then hb⟩
theorem Half.both {w c d : World} {B G : Nat} {F R F' R' : Nat → Prop} {st st' : St} (h : Half w c B G F R F' st st') (k : KF R c d) (n : Nw R' R c) (r : Rr d G R' st') : Two w d B G F R st' := by
  refine ⟨F', R', h.n, (Nw.refl R w).trans n h.k.size, h.p.kf k h.ap, r, fun x hx hr => ?_, h.k.trans k (fun x hx => .inl (.inr hx))⟩
  rcases n x hr with q | q
  · exact h.ap x hx q
  · have := h.p.bd x hx
    omega
theorem Two.below {w c d : World} {B G : Nat} {F R : Nat → Prop} {st : St} (h : Two w c B G F R st) (hb : Below c.heap.size c d) : Two w d B G F R st := by
  obtain ⟨F', R', h1, h2, h3, h4, h5, h6⟩ := h
  exact ⟨F', R', h1, h2, h3.below hb, h4.below hb, h5, h6.then hb⟩
/-- what a step makes of a channel -/
def stepS (st : St) (what : Int) (x : Wt) : St :=
  if what = 0 ∨ what = 1 then sendS st x.v else if what = 2 ∨ what = 3 then recvS st else if what = 4 then waitS st true x else if what = 5 then waitS st false x else if what = 6 then closeS st else if what = 7 then dropS st x.g else st
set_option maxRecDepth 100000 in
set_option maxHeartbeats 6400000 in
theorem does_recv (B G : Nat) (F R : Nat → Prop) (st : St) (what : Int) (x : Wt) (w : World) (h : Pp w B F st) (r : Rr w G R st) (ap : ∀ x, F x → ¬ R x) (hs : st.sent < 1000000000) (hg : st.got < 1000000000) (hw : what = 2 ∨ what = 3) :
    Calls Try.prog 11 #[.pointer (some ⟨B, 0, none⟩), .pointer (some ⟨G, 0, none⟩), (.agg #[.int .i64 what, .int .i64 x.g, .int .i64 x.c, .int .i64 x.v])] w fun r w' => r = .returned (.bool true) ∧ Two w w' B G F R (recvS st) := by
  have BA := hide (below_alloc w (.cells #[.int .i64 what, .int .i64 x.g, .int .i64 x.c, .int .i64 x.v] 34))
  have P1 := hide (h.below BA.out)
  have HR := hide r
  have AP := hide ap
  have RV := hide (recv_any B F st _ P1.out hs hg)
  clear h r ap
  have h0 : (what == 0) = false := by rw [beq_eq_false_iff_ne]; omega
  have h1 : (what == 1) = false := by rw [beq_eq_false_iff_ne]; omega
  have fin : ∀ (c : World) (F' : Nat → Prop), Half w c B G F R F' st (recvS st) → Calls Try.prog 29 #[.pointer (some ⟨G, 0, none⟩)] c fun r w' => r = .returned (gv (recvG st)) ∧ Two w w' B G F R (recvS st) := by
    intro c F' hf
    refine (rrecv_any G R st c hf.r hs hg).mono ?_
    rintro r w1 ⟨rfl, k1, R1, n1, p1⟩
    exact ⟨rfl, hf.both k1 n1 p1⟩
  have FIN := hide fin
  have GT := hide fun u => got_any (recvG st) u
  clear fin
  generalize recvG st = g at RV FIN GT
  obtain ⟨rd, ok, wk, v, ⟨mg, mc, mv⟩⟩ := g
  unfold gv at RV FIN GT
  rcases hw with rfl | rfl
  · skip
    go_enter Try.func11, Try.ntmps11
    go_wp2_with fail
    refine RV.out.mono ?_
    rintro r w2 ⟨rfl, k2, F2, n2, p2⟩
    have H2 := hide (Half.mk' BA.out HR.out AP.out k2 n2 p2)
    clear k2 n2 p2
    go_wp2_with fail
    refine (GT.out _).mono ?_
    rintro r w3 ⟨rfl, b3⟩
    have H3 := hide (H2.out.below b3)
    clear b3
    go_wp2_with fail
    refine (FIN.out _ _ H3.out).mono ?_
    rintro r w4 ⟨rfl, t4⟩
    have T4 := hide t4
    clear t4
    go_wp2_with fail
    go_ret
    exact ⟨rfl, T4.out⟩
  · skip
    go_enter Try.func11, Try.ntmps11
    go_wp2_with fail
    refine RV.out.mono ?_
    rintro r w2 ⟨rfl, k2, F2, n2, p2⟩
    have H2 := hide (Half.mk' BA.out HR.out AP.out k2 n2 p2)
    clear k2 n2 p2
    go_wp2_with fail
    refine (GT.out _).mono ?_
    rintro r w3 ⟨rfl, b3⟩
    have H3 := hide (H2.out.below b3)
    clear b3
    go_wp2_with fail
    refine (FIN.out _ _ H3.out).mono ?_
    rintro r w4 ⟨rfl, t4⟩
    have T4 := hide t4
    clear t4
    go_wp2_with fail
    go_ret
    exact ⟨rfl, T4.out⟩
end Rp
end Go.Proofs.Ytapabnakbaoijaa
