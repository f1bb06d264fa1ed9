/- Layer 19's laws, over this seat's program: two reports side by side; whatever is put or retired. -/
import Derived.Test.YtekdcfdjohlfcaaZg
namespace Go.Proofs.Ytekdcfdjohlfcaa
open Go.ChangeShapes Go.WideShapes Go.ChangeAt Go.RowKit
namespace Rep
open Ck Ce
open Ba (hide KF)
open Ep (tidOf clkOf ownB)

open Classical in
/-- whatever is retired, or put -/
noncomputable def retA (S : Rst) (tid cut : Int) : Rst := if badR tid cut then S else ⟨rtC S tid cut 8, S.f⟩
open Classical in
noncomputable def putA (S : Rst) (a : Aq) (e : Int) (l : List Int) : Rst := if badA a ∨ ownB e = false then S else putS S a a.c.toNat e l
open Classical in
noncomputable def putO (S : Rst) (a : Aq) (e : Int) (l : List Int) : Bool := if badA a ∨ ownB e = false then false else putB S a a.c.toNat e l
open Classical in
noncomputable def putE (a : Aq) (e : Int) : Int := if badA a ∨ ownB e = false then 1 else 0
open Classical in
noncomputable def retE (tid cut : Int) : Int := if badR tid cut then 1 else 0
section
variable {Y : Nat → Prop} {X : Nat} {w : World} {S : Rst} {mb : Nat} {D : DataW Unit} {xs : Nat → Nat} {vs : Nat → Value}
theorem put_u (s : RX Y X w S mb D xs vs) (a : Aq) (e : Int) (a0 : 0 ≤ e) (a1 : e ≤ 18446744073709551615) (b : Nat) (l : List Int) (hc : CL Y w b l) :
    Calls Try.prog 51 #[.pointer (some ⟨X, 0, none⟩), .agg (aV a), .int .u64 e, .pointer (some ⟨b, 0, none⟩)] w fun r w' => r = .returned (.tuple #[.bool (putO S a e l), .int .i64 (putE a e)]) ∧ (∃ D' vs', RX Y X w' (putA S a e l) mb D' xs vs') ∧ KY Y w w' := by
  unfold putO putE putA
  by_cases hb : badA a
  · rw [if_pos (.inl hb), if_pos (.inl hb), if_pos (.inl hb)]
    refine (put_arg _ a _ _ hb w).mono ?_
    rintro r w' ⟨rfl, b1⟩
    exact ⟨rfl, ⟨_, _, s.below b1⟩, KY.of b1 s.yl⟩
  · cases ho : ownB e
    · rw [if_pos (.inr rfl), if_pos (.inr rfl), if_pos (.inr rfl)]
      refine (put_bad s a e a0 a1 _ hb ho).mono ?_
      rintro r w' ⟨rfl, b1⟩
      exact ⟨rfl, ⟨_, _, s.below b1⟩, KY.of b1 s.yl⟩
    · have hn : ¬ (badA a ∨ true = false) := fun q => q.elim hb (by decide)
      rw [if_neg hn, if_neg hn, if_neg hn]
      have hc0 : a.c = (a.c.toNat : Int) := by unfold badA at hb; omega
      exact put_ok s a a.c.toNat hc0 hb e ho b l hc
theorem ret_u (s : RX Y X w S mb D xs vs) (tid cut : Int) :
    Calls Try.prog 53 #[.pointer (some ⟨X, 0, none⟩), .int .i64 tid, .int .i64 cut] w fun r w' => r = .returned (.int .i64 (retE tid cut)) ∧ (∃ vs', RX Y X w' (retA S tid cut) mb D xs vs') ∧ KY Y w w' := by
  unfold retA retE
  by_cases hb : badR tid cut
  · rw [if_pos hb, if_pos hb]
    have hc := cell_at s 0 (by decide)
    refine (retire_arg' _ tid cut hb w ⟨_, hc⟩).mono ?_
    rintro r w' ⟨rfl, rfl⟩
    exact ⟨rfl, ⟨_, s⟩, KY.refl _ _⟩
  · rw [if_neg hb, if_neg hb]
    exact retire_ok' s tid cut hb
end
def Ua (Y B : Nat → Prop) : Nat → Prop := fun k => Y k ∨ B k
/-- two reports -/
def PW (Y : Nat → Prop) (X1 X2 : Nat) (w : World) (S1 S2 : Rst) : Prop := ∃ m1 D1 x1 v1 m2 D2 x2 v2, RX (Ua Y (Rb X2 m2 x2 v2)) X1 w S1 m1 D1 x1 v1 ∧ RX (Ua Y (Rb X1 m1 x1 v1)) X2 w S2 m2 D2 x2 v2
section
variable {Y Z : Nat → Prop} {X1 X2 : Nat} {w w' : World} {S1 S2 : Rst}
theorem PW.sym (h : PW Y X1 X2 w S1 S2) : PW Y X2 X1 w S2 S1 := by
  obtain ⟨m1, D1, x1, v1, m2, D2, x2, v2, s1, s2⟩ := h
  exact ⟨m2, D2, x2, v2, m1, D1, x1, v1, s2, s1⟩
theorem PW.yl (h : PW Y X1 X2 w S1 S2) : ∀ k, Y k → k < w.heap.size := by
  obtain ⟨m1, D1, x1, v1, m2, D2, x2, v2, s1, s2⟩ := h
  exact fun k q => s1.yl k (.inl q)
theorem PW.fk (h : PW Y X1 X2 w S1 S2) : ∀ g, (S1.f g).isSome = true → 0 ≤ g ∧ g < 8 := by
  obtain ⟨m1, D1, x1, v1, m2, D2, x2, v2, s1, s2⟩ := h
  exact s1.fk
theorem PW.more (h : PW Y X1 X2 w S1 S2) (b : Below w.heap.size w w') (hz : ∀ k, Z k → Y k ∨ w.heap.size ≤ k) (hl : ∀ k, Z k → k < w'.heap.size) : PW Z X1 X2 w' S1 S2 := by
  obtain ⟨m1, D1, x1, v1, m2, D2, x2, v2, s1, s2⟩ := h
  refine ⟨m1, D1, x1, v1, m2, D2, x2, v2, s1.mv (fun k q => b.block k (s1.bl k q)) ?_ ?_ b.size, s2.mv (fun k q => b.block k (s2.bl k q)) ?_ ?_ b.size⟩
  · rintro k (q | q) r
    · rcases hz k q with q | q
      · exact s1.bd k r (.inl q)
      · have := s1.bl k r; omega
    · exact s1.bd k r (.inr q)
  · rintro k (q | q)
    · exact hl k q
    · exact Nat.lt_of_lt_of_le (s2.bl k q) b.size
  · rintro k (q | q) r
    · rcases hz k q with q | q
      · exact s2.bd k r (.inl q)
      · have := s2.bl k r; omega
    · exact s2.bd k r (.inr q)
  · rintro k (q | q)
    · exact hl k q
    · exact Nat.lt_of_lt_of_le (s1.bl k q) b.size
theorem PW.new (h : PW Y X1 X2 w S1 S2) (b : Below w.heap.size w w') : PW (Yp Y w w') X1 X2 w' S1 S2 :=
  h.more b (fun k q => q.imp id And.left) (fun k q => by
    rcases q with q | q
    · exact Nat.lt_of_lt_of_le (h.yl k q) b.size
    · exact q.2)
theorem PW.below (h : PW Y X1 X2 w S1 S2) (b : Below w.heap.size w w') : PW Y X1 X2 w' S1 S2 := h.more b (fun _ q => .inl q) (fun k q => Nat.lt_of_lt_of_le (h.yl k q) b.size)
theorem PW.less (h : PW Y X1 X2 w S1 S2) (i : ∀ k, Z k → Y k) : PW Z X1 X2 w S1 S2 := h.more (Below.refl _ _) (fun k q => .inl (i k q)) (fun k q => h.yl k (i k q))
/-- one of them has changed -/
theorem PW.of1 {m1 m2 : Nat} {D1' D2 : DataW Unit} {x1 x2 : Nat → Nat} {v1 v1' v2 : Nat → Value} {S1' : Rst} (s2 : RX (Ua Y (Rb X1 m1 x1 v1)) X2 w S2 m2 D2 x2 v2) (s1 : RX (Ua Y (Rb X2 m2 x2 v2)) X1 w' S1' m1 D1' x1 v1') (k : KY (Ua Y (Rb X2 m2 x2 v2)) w w') : PW Y X1 X2 w' S1' S2 := by
  refine ⟨m1, D1', x1, v1', m2, D2, x2, v2, s1, s2.mv (fun x q => k.block x (.inr q)) ?_ ?_ k.size⟩
  · rintro x (q | q) r
    · exact s2.bd x r (.inl q)
    · exact s1.bd x q (.inr r)
  · rintro x (q | q)
    · exact s1.yl x (.inl q)
    · exact s1.bl x q
theorem PW.put (h : PW Y X1 X2 w S1 S2) (a : Aq) (e : Int) (a0 : 0 ≤ e) (a1 : e ≤ 18446744073709551615) (b : Nat) (l : List Int) (hc : CL Y w b l) :
    Calls Try.prog 51 #[.pointer (some ⟨X1, 0, none⟩), .agg (aV a), .int .u64 e, .pointer (some ⟨b, 0, none⟩)] w fun r w' => r = .returned (.tuple #[.bool (putO S1 a e l), .int .i64 (putE a e)]) ∧ PW Y X1 X2 w' (putA S1 a e l) S2 ∧ KY Y w w' := by
  obtain ⟨m1, D1, x1, v1, m2, D2, x2, v2, s1, s2⟩ := h
  refine (put_u s1 a e a0 a1 b l (hc.mono fun _ q => .inl q)).mono ?_
  rintro r w' ⟨rfl, ⟨D', v', s'⟩, k⟩
  exact ⟨rfl, PW.of1 s2 s' k, k.mono fun _ q => .inl q⟩
theorem PW.ret (h : PW Y X1 X2 w S1 S2) (tid cut : Int) :
    Calls Try.prog 53 #[.pointer (some ⟨X1, 0, none⟩), .int .i64 tid, .int .i64 cut] w fun r w' => r = .returned (.int .i64 (retE tid cut)) ∧ PW Y X1 X2 w' (retA S1 tid cut) S2 ∧ KY Y w w' := by
  obtain ⟨m1, D1, x1, v1, m2, D2, x2, v2, s1, s2⟩ := h
  refine (ret_u s1 tid cut).mono ?_
  rintro r w' ⟨rfl, ⟨v', s'⟩, k⟩
  exact ⟨rfl, PW.of1 s2 s' k, k.mono fun _ q => .inl q⟩
theorem PW.first (h : PW Y X1 X2 w S1 S2) (g : Int) (hg : wfk g) :
    Calls Try.prog 27 #[.pointer (some ⟨X1, 0, none⟩), .int .i64 g] w fun r w' => r = .returned (fV (S1.f g)) ∧ Below w.heap.size w w' := by
  obtain ⟨m1, D1, x1, v1, m2, D2, x2, v2, s1, s2⟩ := h
  exact first_any s1 g hg
end
/-- both say the same of cell i -/
structure Al (i : Int) (S1 S2 : Rst) : Prop where
  f : S1.f i = S2.f i
  c : 0 ≤ i → i < 8 → S1.c i.toNat = S2.c i.toNat
theorem Al.ret {i : Int} {S1 S2 : Rst} (h : Al i S1 S2) (tid cut : Int) : Al i (retA S1 tid cut) (retA S2 tid cut) := by
  unfold retA
  split
  · exact h
  · refine ⟨h.f, fun h0 h1 => ?_⟩
    show rtC S1 tid cut 8 i.toNat = rtC S2 tid cut 8 i.toNat
    unfold rtC
    rw [if_pos (by omega), if_pos (by omega), h.c h0 h1]
theorem Al.put1 {i : Int} {S1 S2 : Rst} (h : Al i S1 S2) {a : Aq} (ha : a.c ≠ i) (e : Int) (l : List Int) : Al i (putA S1 a e l) S2 := by
  unfold putA
  split
  · exact h
  · rename_i hn
    have hb : ¬ badA a := fun q => hn (.inl q)
    unfold badA at hb
    refine ⟨?_, fun h0 h1 => ?_⟩
    · show putF S1 a _ i = _
      unfold putF
      split
      · exact h.f
      · rw [upf_other _ _ _ _ (Ne.symm ha)]; exact h.f
    · show upn S1.c a.c.toNat _ i.toNat = _
      rw [upn_other _ _ _ _ (by omega)]
      exact h.c h0 h1
theorem Al.put2 {i : Int} {S1 S2 : Rst} (h : Al i S1 S2) {a : Aq} (ha : a.c = i) (e : Int) (l : List Int) : Al i (putA S1 a e l) (putA S2 a e l) := by
  unfold putA
  split
  · exact h
  · rename_i hn
    have hb : ¬ badA a := fun q => hn (.inl q)
    unfold badA at hb
    have hc := h.c (by omega) (by omega)
    have hf := h.f
    subst ha
    refine ⟨?_, fun h0 h1 => ?_⟩
    · show putF S1 a (acR a (S1.c a.c.toNat) e l) a.c = putF S2 a (acR a (S2.c a.c.toNat) e l) a.c
      unfold putF
      rw [hc, hf]
      split
      · exact hf
      · rw [upf_same, upf_same]
    · show upn S1.c a.c.toNat _ a.c.toNat = upn S2.c a.c.toNat _ a.c.toNat
      rw [upn_same, upn_same, hc]
/-- what was told first stays -/
theorem put_stays {S : Rst} {i : Int} {r : Rc} (h : S.f i = some r) (a : Aq) (e : Int) (l : List Int) : (putA S a e l).f i = some r := by
  unfold putA
  split
  · exact h
  · show putF S a _ i = _
    unfold putF
    split
    · exact h
    · rename_i hn
      by_cases q : i = a.c
      · subst q
        exact absurd (.inr (by rw [h]; rfl)) hn
      · rw [upf_other _ _ _ _ q]; exact h
theorem ret_stays (S : Rst) (tid cut : Int) : (retA S tid cut).f = S.f := by
  unfold retA
  split <;> rfl
/-- two new reports -/
theorem PW.two {w w1 w2 : World} {X1 X2 : Nat} {m1 m2 : Nat} {D1 D2 : DataW Unit} {x1 x2 : Nat → Nat} {v1 v2 : Nat → Value} {S1 S2 : Rst} (s1 : RX (Lw w) X1 w1 S1 m1 D1 x1 v1) (h1 : w.heap.size ≤ w1.heap.size) (s2 : RX (Lw w1) X2 w2 S2 m2 D2 x2 v2) (k : KY (Lw w1) w1 w2) : PW (Lw w) X1 X2 w2 S1 S2 := by
  have lw : ∀ x, Lw w x → Lw w1 x := fun x q => Nat.lt_of_lt_of_le q h1
  refine ⟨m1, D1, x1, v1, m2, D2, x2, v2, s1.mv (fun x q => k.block x (s1.bl x q)) ?_ ?_ k.size, s2.mv (fun _ _ => rfl) ?_ ?_ (Nat.le_refl _)⟩
  · rintro x (q | q) r
    · exact s1.bd x r q
    · exact s2.bd x q (s1.bl x r)
  · rintro x (q | q)
    · exact s2.yl x (lw x q)
    · exact s2.bl x q
  · rintro x (q | q) r
    · exact s2.bd x r (lw x q)
    · exact s2.bd x r (s1.bl x q)
  · rintro x (q | q)
    · exact s2.yl x (lw x q)
    · exact s2.yl x (s1.bl x q)
end Rep
end Go.Proofs.Ytekdcfdjohlfcaa
