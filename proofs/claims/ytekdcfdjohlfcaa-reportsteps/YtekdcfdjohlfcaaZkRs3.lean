import Derived.Test.YtekdcfdjohlfcaaZkRs2
import Derived.Test.YtekdcfdjohlfcaaAq
import Derived.Test.YtekdcfdjohlfcaaAr
import Derived.Deep.RegionHeld3
import Derived.Deep.Cut
import Derived.Test.YtekdcfdjohlfcaaAs
import Derived.Test.YtekdcfdjohlfcaaRg
import Derived.ChangeKeysEq
import Derived.Laws.StructEq
/- Layer 19, plain: a report and the reference's say the same. -/
namespace Go.Proofs.Ytekdcfdjohlfcaa
open Go.ChangeShapes Go.WideShapes Go.ChangeAt Go.RowKit
namespace Co
open Ck Ce Rep
open Ep (tidOf clkOf ownB)

structure Eqr (S : Rst) (Q : Qst) : Prop where
  c : ∀ i, i < 8 → Eqc (S.c i) (Q.A i) (Q.F i) (Q.T i)
  g : ∀ i, i < 8 → Gd (S.c i)
  f : ∀ i : Nat, i < 8 → S.f (i : Int) = if (Q.q i).th = true then some (Q.q i).r else none
theorem Eqr.zero : Eqr S00 (Qk 8) := by
  refine ⟨fun i hi => ?_, fun i hi => ⟨.inl rfl, by simp [S00, c00], srt_nil⟩, fun i hi => rfl⟩
  show Eqc c00 (if i < 8 then _ else _) nf false
  rw [if_pos hi]
  exact Eqc.zero
theorem Eqr.ret {S : Rst} {Q : Qst} (h : Eqr S Q) (t : Nat) (ht : t < 256) (cut : Int) (h0 : 0 ≤ cut) : Eqr ⟨rtC S (t : Int) cut 8, S.f⟩ (rqS Q t cut 8) := by
  refine ⟨fun i hi => ?_, fun i hi => ?_, h.f⟩
  · show Eqc (rtC S (t : Int) cut 8 i) (if i < 8 then _ else _) (if i < 8 then _ else _) (if i < 8 then _ else _)
    unfold rtC
    rw [if_pos hi, if_pos hi, if_pos hi, if_pos hi]
    exact (h.c i hi).retire (h.g i hi) t ht cut h0
  · show Gd (rtC S (t : Int) cut 8 i)
    unfold rtC
    rw [if_pos hi]
    exact (h.g i hi).retire (t : Int) cut
/-- the races are the same -/
theorem Eqr.races {S : Rst} {Q : Qst} (h : Eqr S Q) : ∀ k, k ≤ 8 → rl S.f k = ql Q.q k
  | 0, _ => rfl
  | k + 1, hk => by
    unfold rl ql
    rw [h.races k (by omega), h.f k (by omega)]
    split <;> rfl
theorem Eqr.none {S : Rst} {Q : Qst} (h : Eqr S Q) {i : Nat} (hi : i < 8) : (S.f (i : Int)).isSome = (Q.q i).th := by
  rw [h.f i hi]
  cases (Q.q i).th <;> rfl
/-- what an access finds is the same -/
theorem Eqr.x {S : Rst} {Q : Qst} (h : Eqr S Q) {i : Nat} (hi : i < 8) (a : Rep.Aq) {l : List Int} {G : Nat → Int} (hc : Cl l G) {e : Int} (ho : ownB e = true) : Rep.acR a (S.c i) e l = qX Q i a.wr (tidOf e).toNat G := by
  have ht : ((tidOf e).toNat : Int) = tidOf e := Int.toNat_of_nonneg (own_tid ho).1
  unfold Rep.acR qX
  rw [ht]
  cases a.wr
  · exact read_same (h.c i hi) hc ho
  · exact write_same (h.c i hi) (h.g i hi) hc ho
theorem Eqr.put {S : Rst} {Q : Qst} (h : Eqr S Q) {i : Nat} (hi : i < 8) (a : Rep.Aq) (ha : a.c = (i : Int)) {l : List Int} {G : Nat → Int} (hc : Cl l G) {e : Int} (ho : ownB e = true) :
    Eqr (putS S a i e l) (qP Q i a (tidOf e).toNat (clkOf e) G) ∧ putB S a i e l = qB Q i (qX Q i a.wr (tidOf e).toNat G) := by
  have ht : ((tidOf e).toNat : Int) = tidOf e := Int.toNat_of_nonneg (own_tid ho).1
  have hx := h.x hi a hc ho
  have hn := h.none hi
  have hb : putB S a i e l = qB Q i (qX Q i a.wr (tidOf e).toNat G) := by
    unfold putB qB
    rw [hx, ha, ← hn]
    cases S.f (i : Int) <;> rfl
  refine ⟨⟨fun j hj => ?_, fun j hj => ?_, fun j hj => ?_⟩, hb⟩
  · show Eqc (upn S.c i (acS a (S.c i) e l) j) ((qC Q i a.wr (tidOf e).toNat (clkOf e) G).A j) ((qC Q i a.wr (tidOf e).toNat (clkOf e) G).F j) ((qC Q i a.wr (tidOf e).toNat (clkOf e) G).T j)
    unfold qC acS
    cases a.wr
    · show Eqc (upn S.c i (rdS (S.c i) e l) j) (upn Q.A i (Q.A i) j) (upn Q.F i _ j) (upn Q.T i (Q.T i) j)
      by_cases q : j = i
      · subst q
        rw [upn_same, upn_same, upn_same, upn_same, ht]
        exact (h.c j hj).read (h.g j hj) hc ho
      · rw [upn_other _ _ _ _ q, upn_other _ _ _ _ q, upn_other _ _ _ _ q, upn_other _ _ _ _ q]
        exact h.c j hj
    · show Eqc (upn S.c i (wrS e) j) (upn Q.A i _ j) (upn Q.F i nf j) (upn Q.T i false j)
      by_cases q : j = i
      · subst q
        rw [upn_same, upn_same, upn_same, upn_same, ht]
        exact Eqc.write ho
      · rw [upn_other _ _ _ _ q, upn_other _ _ _ _ q, upn_other _ _ _ _ q, upn_other _ _ _ _ q]
        exact h.c j hj
  · show Gd (upn S.c i (acS a (S.c i) e l) j)
    by_cases q : j = i
    · subst q
      rw [upn_same]
      unfold acS
      cases a.wr
      · exact (h.g j hj).read ho l
      · exact ⟨.inr (.inr ho), by simp [wrS], srt_nil⟩
    · rw [upn_other _ _ _ _ q]; exact h.g j hj
  · show putF S a (Rep.acR a (S.c i) e l) (j : Int) = if (qQ Q i a (qX Q i a.wr (tidOf e).toNat G) j).th = true then some (qQ Q i a (qX Q i a.wr (tidOf e).toNat G) j).r else Option.none
    rw [hx]
    generalize qX Q i a.wr (tidOf e).toNat G = x at *
    unfold putF qQ qB
    rw [ha, hn]
    cases hth : (Q.q i).th
    · by_cases x0 : x = 0
      · subst x0
        simp
        have := h.f j hj
        simpa using this
      · have x1 : (x == 0) = false := beq_eq_false_iff_ne.2 x0
        have eq : (if (!(x == 0) && !false) = true then upn Q.q i ⟨true, rcOf a x⟩ else Q.q) = upn Q.q i ⟨true, rcOf a x⟩ := if_pos (by rw [x1]; rfl)
        rw [if_neg (by simp [x0]), eq]
        by_cases q : j = i
        · subst q
          rw [upf_same, upn_same]
          rfl
        · rw [upf_other _ _ _ _ (by omega), upn_other _ _ _ _ q]
          exact h.f j hj
    · have eq : (if (!(x == 0) && !true) = true then upn Q.q i ⟨true, rcOf a x⟩ else Q.q) = Q.q := if_neg (by simp)
      rw [if_pos (.inr rfl), eq]
      exact h.f j hj
end Co
end Go.Proofs.Ytekdcfdjohlfcaa
/- Layer 19's law ReportSteps, over this seat's program: both reports side by side; a step that retires. -/
namespace Go.Proofs.Ytekdcfdjohlfcaa
open Go.ChangeShapes Go.WideShapes Go.ChangeAt Go.RowKit
namespace Co
open Ck Ce Rep
open Ba (KF Bd Nw)
open Ep (tidOf clkOf ownB)

/-- whatever is retired of the reference -/
theorem qret_u {w : World} {R : Nat} {S : Rst} {Q : Qst} (s : QX w R Q) (h : Eqr S Q) (tid cut : Int) :
    Calls Try.prog 54 #[.pointer (some ⟨R, 0, none⟩), .int .i64 tid, .int .i64 cut] w fun r w' => r = .returned (.int .i64 (retE tid cut)) ∧ (∃ Q', QX w' R Q' ∧ Eqr (retA S tid cut) Q') ∧ KF (fun k => k = R) w w' := by
  unfold retA retE
  by_cases hb : badR tid cut
  · rw [if_pos hb, if_pos hb]
    refine (qretire_arg R tid cut hb w).mono ?_
    rintro r w' ⟨rfl, rfl⟩
    exact ⟨rfl, ⟨Q, s, h⟩, KF.refl _ _⟩
  · rw [if_neg hb, if_neg hb]
    unfold badR at hb
    obtain ⟨t, rfl⟩ : ∃ t : Nat, tid = (t : Int) := ⟨tid.toNat, by omega⟩
    refine (qretire_ok s t (by omega) cut (by omega) (by omega)).mono ?_
    rintro r w' ⟨rfl, q, k⟩
    exact ⟨rfl, ⟨_, q, h.ret t (by omega) cut (by omega)⟩, k⟩
/-- both reports -/
def JR (Y0 : Nat → Prop) (X R : Nat) (w : World) (S : Rst) (Q : Qst) : Prop := ∃ mb D xs vs, RX (fun k => Y0 k ∨ k = R) X w S mb D xs vs ∧ QX w R Q ∧ ¬ Y0 R ∧ Eqr S Q
section
variable {Y0 Z0 : Nat → Prop} {X R : Nat} {w w' : World} {S : Rst} {Q : Qst}
theorem JR.yl (j : JR Y0 X R w S Q) : ∀ k, Y0 k → k < w.heap.size := by
  obtain ⟨mb, D, xs, vs, s, q, n, e⟩ := j
  exact fun k hk => s.yl k (.inl hk)
theorem JR.more (j : JR Y0 X R w S Q) (b : Below w.heap.size w w') (hz : ∀ k, Z0 k → Y0 k ∨ w.heap.size ≤ k) (hl : ∀ k, Z0 k → k < w'.heap.size) : JR Z0 X R w' S Q := by
  obtain ⟨mb, D, xs, vs, s, q, n, e⟩ := j
  refine ⟨mb, D, xs, vs, s.mv (fun k hk => b.block k (s.bl k hk)) ?_ ?_ b.size, q.below b, fun hr => ?_, e⟩
  · rintro k (hk | hk) r
    · rcases hz k hk with z | z
      · exact s.bd k r (.inl z)
      · have := s.bl k r; omega
    · exact s.bd k r (.inr hk)
  · rintro k (hk | hk)
    · exact hl k hk
    · rw [hk]; exact Nat.lt_of_lt_of_le q.lt b.size
  · rcases hz R hr with z | z
    · exact n z
    · have := q.lt; omega
theorem JR.less (j : JR Y0 X R w S Q) (i : ∀ k, Z0 k → Y0 k) : JR Z0 X R w S Q := j.more (Below.refl _ _) (fun k q => .inl (i k q)) (fun k q => j.yl k (i k q))
/-- both retire -/
theorem JR.ret (j : JR Y0 X R w S Q) (tid cut : Int) :
    Calls Try.prog 53 #[.pointer (some ⟨X, 0, none⟩), .int .i64 tid, .int .i64 cut] w fun r w' => r = .returned (.int .i64 (retE tid cut)) ∧ KY Y0 w w' ∧
      Calls Try.prog 54 #[.pointer (some ⟨R, 0, none⟩), .int .i64 tid, .int .i64 cut] w' fun r w'' => r = .returned (.int .i64 (retE tid cut)) ∧ (∃ Q', JR Y0 X R w'' (retA S tid cut) Q') ∧ KY Y0 w w'' := by
  obtain ⟨mb, D, xs, vs, s, q, n, e⟩ := j
  refine (ret_u s tid cut).mono ?_
  rintro r w1 ⟨rfl, ⟨vs1, s1⟩, k1⟩
  refine ⟨rfl, k1.mono fun _ h => .inl h, ?_⟩
  have q1 : QX w1 R Q := q.block (k1.block R (.inr rfl))
  refine (qret_u q1 e tid cut).mono ?_
  rintro r w2 ⟨rfl, ⟨Q', q2, e2⟩, k2⟩
  have ky : KY Y0 w1 w2 := KY.ref n (fun k h => s1.yl k (.inl h)) k2
  refine ⟨rfl, ⟨Q', mb, D, xs, vs1, s1.mv (fun k hk => k2.block k (s1.bl k hk) (fun h => s1.bd k hk (.inr h))) (fun k hk r => s1.bd k r hk) (fun k hk => Nat.lt_of_lt_of_le (s1.yl k hk) k2.size) k2.size, q2, n, e2⟩, (k1.mono fun _ h => .inl h).trans ky⟩
end
end Co
end Go.Proofs.Ytekdcfdjohlfcaa
/- Layer 19's law ReportSteps, over this seat's program: does, of a step that retires. -/
namespace Go.Proofs.Ytekdcfdjohlfcaa
open Go.ChangeShapes Go.WideShapes Go.ChangeAt Go.RowKit
namespace Co
open Ck Ce Rep
open Ba (KF Bd Nw)
open Ep (tidOf clkOf ownB)

/-- what a step gives -/
def DoQ (Y0 : Nat → Prop) (X R : Nat) (w : World) (r : Ending) (w' : World) : Prop := r = .returned (.bool true) ∧ (∃ S' Q', JR Y0 X R w' S' Q') ∧ KY Y0 w w'
set_option maxRecDepth 100000 in
set_option maxHeartbeats 3200000 in
theorem does_ret {Y0 : Nat → Prop} {X R : Nat} {w : World} {S : Rst} {Q : Qst} (j : JR Y0 X R w S Q) (p g c : Int) (wr : Bool) (e : Int) (oc : Option Addr) (n cap : Nat) (tid cut : Int) (hcut : 0 ≤ cut) :
    Calls Try.prog 23 #[.pointer (some ⟨X, 0, none⟩), .pointer (some ⟨R, 0, none⟩), .agg #[.int .i64 p, .int .i64 g, .int .i64 c, .bool wr, .int .u64 e, .slice oc n cap, .int .i64 tid, .int .i64 cut]] w (DoQ Y0 X R w) := by
  unfold DoQ
  have b1 := Ba.below_alloc w (.cells #[.int .i64 p, .int .i64 g, .int .i64 c, .bool wr, .int .u64 e, .slice oc n cap, .int .i64 tid, .int .i64 cut] 63)
  have h1 : (w.alloc (.cells #[.int .i64 p, .int .i64 g, .int .i64 c, .bool wr, .int .u64 e, .slice oc n cap, .int .i64 tid, .int .i64 cut] 63)).heap[w.heap.size]? = some (.cells #[.int .i64 p, .int .i64 g, .int .i64 c, .bool wr, .int .u64 e, .slice oc n cap, .int .i64 tid, .int .i64 cut] 63 (0, 0)) := heap_new _ _
  have j1 : JR (fun k => Y0 k ∨ k = w.heap.size) X R (w.alloc (.cells #[.int .i64 p, .int .i64 g, .int .i64 c, .bool wr, .int .u64 e, .slice oc n cap, .int .i64 tid, .int .i64 cut] 63)) S Q := j.more b1 (fun k q => q.imp id fun h => by omega) (fun k q => by
    rw [World.size_alloc]
    rcases q with q | q
    · exact Nat.lt_succ_of_lt (j.yl k q)
    · omega)
  have K1 := hide (KY.of b1 j.yl)
  have J1 := hide j1
  have H1 := hide h1
  clear j j1 b1 h1
  go_enter Try.func23, Try.ntmps23
  go_wp2_with fail
  generalize w.alloc (.cells #[.int .i64 p, .int .i64 g, .int .i64 c, .bool wr, .int .u64 e, .slice oc n cap, .int .i64 tid, .int .i64 cut] 63) = w1 at *
  generalize w.heap.size = B at *
  have JD := J1.out.more (Ba.bdrew1 w1) (fun _ q => .inl q) (fun k q => J1.out.yl k q)
  have RT := hide (JD.ret tid cut)
  have KP : Hid (∀ u, KY (fun k => Y0 k ∨ k = B) w1.drew u → u.cell? ⟨B, 6, none⟩ = some (.int .i64 tid) ∧ u.cell? ⟨B, 7, none⟩ = some (.int .i64 cut)) := by
    intro u k
    have h := (k.block B (.inr rfl)).trans H1.out
    exact ⟨cell_of h 6, cell_of h 7⟩
  obtain ⟨y6, y7⟩ := KP.out w1.drew (KY.refl _ _)
  have z6 : w1.cell? ⟨B, 6, none⟩ = some (.int .i64 tid) := y6
  have z7 : w1.cell? ⟨B, 7, none⟩ = some (.int .i64 cut) := y7
  have KD : Hid (∀ u, KY (fun k => Y0 k ∨ k = B) w1.drew u → KY Y0 w u) := by
    intro u k
    exact K1.out.trans ((KY.of (Ba.bdrew1 w1) (fun x h => J1.out.yl x (.inl h))).trans (k.mono fun _ h => .inl h))
  clear JD y6 y7 J1 H1 K1
  go_upto_region 2 with fail
  go_region_held3 (fun w' => w'.cell? ⟨B, 6, none⟩ = some (.int .i64 tid) ∧ w'.cell? ⟨B, 7, none⟩ = some (.int .i64 cut))
    (first | (go_keep; done) | exact KP.out _ k3 | exact KP.out _ k2)
    ((first | (go_at_call 53; refine RT.out.mono ?_; rintro r w2 ⟨rfl, k2, c2⟩) | (go_at_call 54; refine c2.mono ?_; rintro r w3 ⟨rfl, jq, k3⟩)))
  all_goals
    have JQ := hide jq
    have KQ := hide (KD.out _ k3)
    clear jq k3 c2 k2
    go_wp2_with fail
    go_ret
    obtain ⟨Q', j'⟩ := JQ.out
    exact ⟨by simp, ⟨_, Q', j'.less fun _ q => .inl q⟩, KQ.out⟩
end Co
end Go.Proofs.Ytekdcfdjohlfcaa
/- Layer 19's law ReportSteps, over this seat's program: both reports put an access. -/
namespace Go.Proofs.Ytekdcfdjohlfcaa
open Go.ChangeShapes Go.WideShapes Go.ChangeAt Go.RowKit
namespace Co
open Ck Ce Rep
open Ba (KF Bd Nw)
open Ep (tidOf clkOf ownB)

/-- the program's report has put it, the reference's has not yet -/
def JH (Y0 : Nat → Prop) (X R : Nat) (w : World) (S : Rst) (Q : Qst) : Prop := ∃ mb D xs vs, RX (fun k => Y0 k ∨ k = R) X w S mb D xs vs ∧ QX w R Q ∧ ¬ Y0 R
section
variable {Y0 : Nat → Prop} {X R : Nat} {w w' : World} {S S' : Rst} {Q : Qst}
theorem JH.below (j : JH Y0 X R w S Q) (b : Below w.heap.size w w') : JH Y0 X R w' S Q := by
  obtain ⟨mb, D, xs, vs, s, q, n⟩ := j
  exact ⟨mb, D, xs, vs, s.below b, q.below b, n⟩
theorem JH.jr (j : JH Y0 X R w S Q) (e : Eqr S Q) : JR Y0 X R w S Q := by
  obtain ⟨mb, D, xs, vs, s, q, n⟩ := j
  exact ⟨mb, D, xs, vs, s, q, n, e⟩
theorem JH.yl (j : JH Y0 X R w S Q) : ∀ k, Y0 k → k < w.heap.size := by
  obtain ⟨mb, D, xs, vs, s, q, n⟩ := j
  exact fun k hk => s.yl k (.inl hk)
theorem JR.put1 (j : JR Y0 X R w S Q) (a : Rep.Aq) (e : Int) (a0 : 0 ≤ e) (a1 : e ≤ 18446744073709551615) (b : Nat) (l : List Int) (hc : CL Y0 w b l) :
    Calls Try.prog 51 #[.pointer (some ⟨X, 0, none⟩), .agg (aV a), .int .u64 e, .pointer (some ⟨b, 0, none⟩)] w fun r w' => r = .returned (.tuple #[.bool (putO S a e l), .int .i64 (putE a e)]) ∧ KY Y0 w w' ∧ JH Y0 X R w' (putA S a e l) Q := by
  obtain ⟨mb, D, xs, vs, s, q, n, eq⟩ := j
  refine (put_u s a e a0 a1 b l (hc.mono fun _ h => .inl h)).mono ?_
  rintro r w1 ⟨rfl, ⟨D1, vs1, s1⟩, k1⟩
  exact ⟨rfl, k1.mono fun _ h => .inl h, mb, D1, xs, vs1, s1, q.block (k1.block R (.inr rfl)), n⟩
theorem put_bad_is {a : Rep.Aq} {e : Int} {l : List Int} (h : badA a ∨ ownB e = false) : putA S a e l = S ∧ putO S a e l = false ∧ putE a e = 1 := by
  unfold putA putO putE
  exact ⟨if_pos h, if_pos h, if_pos h⟩
theorem put_good_is {a : Rep.Aq} {e : Int} {l : List Int} (h : ¬ badA a) (ho : ownB e = true) : putA S a e l = putS S a a.c.toNat e l ∧ putO S a e l = putB S a a.c.toNat e l ∧ putE a e = 0 := by
  have hn : ¬ (badA a ∨ ownB e = false) := fun q => q.elim h (by rw [ho]; decide)
  unfold putA putO putE
  exact ⟨if_neg hn, if_neg hn, if_neg hn⟩
/-- then the reference's -/
theorem JH.put2 {a : Rep.Aq} {e : Int} {l : List Int} {G : Nat → Int} (j : JH Y0 X R w (putS S a a.c.toNat e l) Q) (eq : Eqr S Q) (hcl : Cl l G) (h : ¬ badA a) (ho : ownB e = true) :
    Calls Try.prog 57 #[.pointer (some ⟨R, 0, none⟩), .agg #[.bool false, .int .i64 a.c, .int .i64 a.p, .int .i64 a.g, .int .i64 0, .bool a.wr], .agg #[.int .i64 (tidOf e), .int .i64 (clkOf e), .bool false, .bool false], .agg (ra G)] w fun r w' => r = .returned (.bool (putB S a a.c.toNat e l)) ∧ (∃ S' Q', JR Y0 X R w' S' Q') ∧ KY Y0 w w' := by
  obtain ⟨mb, D, xs, vs, s, q, n⟩ := j
  have hi : a.c.toNat < 8 := by unfold badA at h; omega
  have hci : a.c = (a.c.toNat : Int) := by unfold badA at h; omega
  have ht := own_tid ho
  have htn : ((tidOf e).toNat : Int) = tidOf e := Int.toNat_of_nonneg ht.1
  have Q1 := qput_any q a a.c.toNat hi hci (tidOf e).toNat (by omega) (clkOf e) G
  rw [htn, ← hci] at Q1
  obtain ⟨e2, hb⟩ := eq.put hi a hci hcl ho
  refine Q1.mono ?_
  rintro r w2 ⟨rfl, q2, k2⟩
  refine ⟨by rw [hb], ⟨_, _, mb, D, xs, vs, s.mv (fun k hk => k2.block k (s.bl k hk) (fun h => s.bd k hk (.inr h))) (fun k hk r => s.bd k r hk) (fun k hk => Nat.lt_of_lt_of_le (s.yl k hk) k2.size) k2.size, q2, n, e2⟩, KY.ref n (fun k h => s.yl k (.inl h)) k2⟩
end
end Co
end Go.Proofs.Ytekdcfdjohlfcaa
/- Layer 19's law ReportSteps, over this seat's program: does, of a step that puts. -/
namespace Go.Proofs.Ytekdcfdjohlfcaa
open Go.ChangeShapes Go.WideShapes Go.ChangeAt Go.RowKit
namespace Co
open Ck Ce Rep
open Ba (KF Bd Nw)
open Ep (tidOf clkOf ownB rdN rdT rdt rdc rdk)

set_option maxRecDepth 100000 in
set_option maxHeartbeats 3200000 in
theorem does_non {Y0 : Nat → Prop} {X R : Nat} {w : World} {S : Rst} {Q : Qst} (j : JR Y0 X R w S Q) (p g c : Int) (wr : Bool) (e : Int) (oa : Option Addr) (l : List Int) (cap : Nat) (tid cut : Int) (hcut : cut < 0) (hA : Ck.At w oa l) (hlc : l.length ≤ cap) (hcm : cap ≤ maxLen) (hbad : ¬ (l.length ≤ 256 ∧ Valid l)) :
    Calls Try.prog 23 #[.pointer (some ⟨X, 0, none⟩), .pointer (some ⟨R, 0, none⟩), .agg #[.int .i64 p, .int .i64 g, .int .i64 c, .bool wr, .int .u64 e, .slice oa l.length cap, .int .i64 tid, .int .i64 cut]] w (DoQ Y0 X R w) := by
  unfold DoQ
  have b1 := Ba.below_alloc w (.cells #[.int .i64 p, .int .i64 g, .int .i64 c, .bool wr, .int .u64 e, .slice oa l.length cap, .int .i64 tid, .int .i64 cut] 63)
  have A1 := hA.below b1
  obtain ⟨x, O1, O2⟩ : ∃ x : Int, Hid ((x == 0) = false ∧ Calls Try.prog 8 #[.slice oa l.length cap] (w.alloc (.cells #[.int .i64 p, .int .i64 g, .int .i64 c, .bool wr, .int .u64 e, .slice oa l.length cap, .int .i64 tid, .int .i64 cut] 63)) fun r w' => r = .returned (.tuple #[.pointer none, .int .i64 x]) ∧ w' = (w.alloc (.cells #[.int .i64 p, .int .i64 g, .int .i64 c, .bool wr, .int .u64 e, .slice oa l.length cap, .int .i64 tid, .int .i64 cut] 63))) ∧
      Hid (Calls Try.prog 9 #[.slice oa l.length cap] (w.alloc (.cells #[.int .i64 p, .int .i64 g, .int .i64 c, .bool wr, .int .u64 e, .slice oa l.length cap, .int .i64 tid, .int .i64 cut] 63)) fun r w' => r = .returned (.tuple #[.agg (ra nf), .int .i64 x]) ∧ Below (w.alloc (.cells #[.int .i64 p, .int .i64 g, .int .i64 c, .bool wr, .int .u64 e, .slice oa l.length cap, .int .i64 tid, .int .i64 cut] 63)).heap.size (w.alloc (.cells #[.int .i64 p, .int .i64 g, .int .i64 c, .bool wr, .int .u64 e, .slice oa l.length cap, .int .i64 tid, .int .i64 cut] 63)) w') := by
    by_cases h : 256 < l.length
    · exact ⟨2, ⟨rfl, of_long oa l.length cap _ h (Nat.le_trans hlc hcm)⟩, rof_long oa l.length cap _ h (Nat.le_trans hlc hcm)⟩
    · exact ⟨1, ⟨rfl, of_bad oa l cap _ A1 (by omega) (fun q => hbad ⟨by omega, q⟩)⟩, rof_bad oa l cap _ A1 (by omega) (fun q => hbad ⟨by omega, q⟩)⟩
  have hx0 := O1.out.1
  have O1 := hide O1.out.2
  have zr := zero_ref
  have rs := ra_size nf
  have JJ := hide j
  have B1 := hide b1
  clear j hA A1 hbad hlc hcm b1
  generalize l.length = N at *
  go_enter Try.func23, Try.ntmps23
  go_wp2_with fail
  refine O1.out.mono ?_
  rintro r w0 ⟨rfl, e0⟩
  obtain rfl := e0.symm
  go_wp2_with fail
  refine O2.out.mono ?_
  rintro r w2 ⟨rfl, b2⟩
  have s1 := st_ref nf (heap_new w2 (.cells (ra nf) 39)) (ra_size nf)
  rw [setRow_new] at s1
  have B3 := hide (Ce.btr (Ce.btr B1.out b2) (Ba.below_alloc w2 (.cells (ra nf) 39)))
  clear b2 O1 O2
  go_wp2_with fail
  go_ret
  exact ⟨rfl, ⟨_, _, JJ.out.more B3.out (fun _ q => .inl q) (fun k q => Nat.lt_of_lt_of_le (JJ.out.yl k q) B3.out.size)⟩, KY.of B3.out JJ.out.yl⟩
end Co
end Go.Proofs.Ytekdcfdjohlfcaa
/- Layer 19's law ReportSteps, over this seat's program: does, of a step that puts, with a clock. -/
namespace Go.Proofs.Ytekdcfdjohlfcaa
open Go.ChangeShapes Go.WideShapes Go.ChangeAt Go.RowKit
namespace Co
open Ck Ce Rep
open Ba (KF Bd Nw)
open Ep (tidOf clkOf ownB rdN rdT rdt rdc rdk)

set_option maxRecDepth 100000 in
set_option maxHeartbeats 6400000 in
theorem does_put {Y0 : Nat → Prop} {X R : Nat} {w : World} {S : Rst} {Q : Qst} (j : JR Y0 X R w S Q) (eq : Eqr S Q) (a : Rep.Aq) (e : Int) (a0 : 0 ≤ e) (a1 : e ≤ 18446744073709551615) (oa : Option Addr) (l : List Int) (cap : Nat) (tid cut : Int) (hcut : cut < 0) (hA : Ck.At w oa l) (hlc : l.length ≤ cap) (hcm : cap ≤ maxLen) (hl : l.length ≤ 256) (hv : Valid l) :
    Calls Try.prog 23 #[.pointer (some ⟨X, 0, none⟩), .pointer (some ⟨R, 0, none⟩), .agg #[.int .i64 a.p, .int .i64 a.g, .int .i64 a.c, .bool a.wr, .int .u64 e, .slice oa l.length cap, .int .i64 tid, .int .i64 cut]] w (DoQ Y0 X R w) := by
  unfold DoQ
  obtain ⟨p, g, c, wr⟩ := a
  simp only
  have b1 := Ba.below_alloc w (.cells #[.int .i64 p, .int .i64 g, .int .i64 c, .bool wr, .int .u64 e, .slice oa l.length cap, .int .i64 tid, .int .i64 cut] 63)
  have h1 : (w.alloc (.cells #[.int .i64 p, .int .i64 g, .int .i64 c, .bool wr, .int .u64 e, .slice oa l.length cap, .int .i64 tid, .int .i64 cut] 63)).heap[w.heap.size]? = some (.cells #[.int .i64 p, .int .i64 g, .int .i64 c, .bool wr, .int .u64 e, .slice oa l.length cap, .int .i64 tid, .int .i64 cut] 63 (0, 0)) := heap_new _ _
  have A1 := hA.below b1
  have O1 := hide (of_y oa l l.length cap rfl _ A1 hl hlc hcm hv)
  unfold OfR at O1
  have O2 := hide (fun u (b : Below _ (w.alloc (.cells #[.int .i64 p, .int .i64 g, .int .i64 c, .bool wr, .int .u64 e, .slice oa l.length cap, .int .i64 tid, .int .i64 cut] 63)) u) => rof_ok oa l cap u (A1.below b) hl hv)
  have hbl := Ep.lo_bits e a0 (by omega)
  have RR := hide (fun u => rread_any e a0 a1 u)
  have PP := hide (fun u => Ep.plain_e e u)
  have h0 : 0 ≤ e / 4294967296 := by omega
  have h01 : e / 4294967296 ≤ 4294967295 := by omega
  have h2 : 0 ≤ e % 4294967296 := by omega
  have h3 : e % 4294967296 ≤ 4294967295 := by omega
  have zr := zero_ref
  have rs := ra_size nf
  have rs2 := ra_size (nth l)
  have JJ := hide j
  have B1 := hide b1
  have H1 := hide h1
  have EQ := hide eq
  clear j hA A1 hlc hcm hl hv b1 h1 eq
  obtain ⟨N, hN⟩ : ∃ N, l.length = N := ⟨_, rfl⟩
  rw [hN] at O1 O2 H1 B1 ⊢
  clear hN
  go_enter Try.func23, Try.ntmps23
  go_wp2_with fail
  generalize w.alloc (.cells #[.int .i64 p, .int .i64 g, .int .i64 c, .bool wr, .int .u64 e, .slice oa N cap, .int .i64 tid, .int .i64 cut] 63) = w1 at *
  have d5 := cell_of H1.out 5
  simp at d5
  refine O1.out.mono ?_
  rintro r w2 ⟨b, rfl, b2, n2⟩
  have B2 := hide b2
  have N2 := hide (n2 Y0)
  have H2 := hide ((b2.block w.heap.size (Ba.heap_lt H1.out)).trans H1.out)
  have d5 := cell_of H2.out 5
  simp at d5
  clear b2 n2 O1
  go_wp2_with fail
  refine (O2.out w2 B2.out).mono ?_
  rintro r w3 ⟨rfl, b3⟩
  have s1 := st_ref (nth l) (heap_new w3 (.cells (ra nf) 39)) (ra_size nf)
  rw [setRow_new] at s1
  have WSZ := hide b3.size
  have B4 := hide (Ce.btr b3 (Ba.below_alloc w3 (.cells (ra (nth l)) 39)))
  have HD : Hid ((w3.alloc (.cells (ra (nth l)) 39)).heap[w3.heap.size]? = some (.cells (ra (nth l)) 39 (0, 0))) := heap_new _ _
  have H4 := hide ((B4.out.block w.heap.size (Ba.heap_lt H2.out)).trans H2.out)
  clear b3 O2 d5
  go_upto_region 9 with fail
  generalize w3.alloc (.cells (ra (nth l)) 39) = w4 at *
  have d4 := cell_of H4.out 4
  simp at d4
  clear s1 zr
  generalize hx1 : rdN e = x1 at *
  generalize hx2 : rdT e = x2 at *
  generalize hx3 : rdt e = x3 at *
  generalize hx4 : rdc e = x4 at *
  generalize hx5 : rdk e = x5 at *
  have HX3 := hide hx3
  have HX4 := hide hx4
  clear hx1 hx2 hx3 hx4 hx5
  go_wp2_with fail
  refine (RR.out _).mono ?_
  rintro r w5 ⟨rfl, e5⟩
  have b5 : Below w4.heap.size w4 w5 := by rw [e5]; exact Ba.below_alloc _ _
  have b6 := Ce.btr b5 (Ba.below_alloc w5 (.cells #[.bool x1, .bool x2, .int .i64 x3, .int .i64 x4] 127))
  have HP : Hid ((w5.alloc (.cells #[.bool x1, .bool x2, .int .i64 x3, .int .i64 x4] 127)).heap[w5.heap.size]? = some (.cells #[.bool x1, .bool x2, .int .i64 x3, .int .i64 x4] 127 (0, 0))) := heap_new _ _
  have H6 := hide ((b6.block w.heap.size (Ba.heap_lt H4.out)).trans H4.out)
  have HD6 := hide ((b6.block w3.heap.size (Ba.heap_lt HD.out)).trans HD.out)
  have b26 := Ce.btr B4.out b6
  have b06 := Ce.btr (Ce.btr B1.out B2.out) b26
  have J6 : Hid (JR (Yp Y0 w (w5.alloc (.cells #[.bool x1, .bool x2, .int .i64 x3, .int .i64 x4] 127))) X R (w5.alloc (.cells #[.bool x1, .bool x2, .int .i64 x3, .int .i64 x4] 127)) S Q) := JJ.out.more b06 (fun k q => q.imp id And.left) (fun k q => by
    rcases q with q | q
    · exact Nat.lt_of_lt_of_le (JJ.out.yl k q) b06.size
    · exact q.2)
  have CL6 : Hid (CL (Yp Y0 w (w5.alloc (.cells #[.bool x1, .bool x2, .int .i64 x3, .int .i64 x4] 127))) (w5.alloc (.cells #[.bool x1, .bool x2, .int .i64 x3, .int .i64 x4] 127)) b (trm l)) := by
    refine (N2.out.keep (KY.of b26 (fun k q => ?_))).mono (fun k q => ?_)
    · rcases q with q | q
      · exact Nat.lt_of_lt_of_le (JJ.out.yl k q) (Ce.btr B1.out B2.out).size
      · exact q.2
    · rcases q with q | q
      · exact .inl q
      · exact .inr ⟨Nat.le_trans B1.out.size q.1, Nat.lt_of_lt_of_le q.2 b26.size⟩
  have SUB0 : Hid (∀ k, Y0 k → Yp Y0 w (w5.alloc (.cells #[.bool x1, .bool x2, .int .i64 x3, .int .i64 x4] 127)) k) := fun k q => .inl q
  have K6 : Hid (KY Y0 w (w5.alloc (.cells #[.bool x1, .bool x2, .int .i64 x3, .int .i64 x4] 127))) := KY.of b06 JJ.out.yl
  have s6 := b06.size
  have IB : Hid (Yp Y0 w (w5.alloc (.cells #[.bool x1, .bool x2, .int .i64 x3, .int .i64 x4] 127)) w.heap.size) := .inr ⟨Nat.le_refl _, Ba.heap_lt H6.out⟩
  have ID : Hid (Yp Y0 w (w5.alloc (.cells #[.bool x1, .bool x2, .int .i64 x3, .int .i64 x4] 127)) w3.heap.size) := .inr ⟨Nat.le_trans (Ce.btr B1.out B2.out).size WSZ.out, Ba.heap_lt HD6.out⟩
  have IP : Hid (Yp Y0 w (w5.alloc (.cells #[.bool x1, .bool x2, .int .i64 x3, .int .i64 x4] 127)) w5.heap.size) := .inr ⟨Nat.le_trans (Ce.btr (Ce.btr B1.out B2.out) (Ce.btr B4.out b5)).size (Nat.le_refl _), Ba.heap_lt HP.out⟩
  clear b5 b6 b26 b06 e5 HD H4 H1 H2 B1 B2 B4 N2 JJ WSZ s6 d4 RR
  go_upto_region 10 with fail
  generalize hw6 : w5.alloc (.cells #[.bool x1, .bool x2, .int .i64 x3, .int .i64 x4] 127) = w6 at *
  clear hw6
  generalize Yp Y0 w w6 = Y1 at *
  have SUB : Hid (∀ k, Y0 k → Y1 k) := SUB0.out
  obtain ⟨B, hB⟩ : ∃ B, w.heap.size = B := ⟨_, rfl⟩
  obtain ⟨D, hD⟩ : ∃ D, w3.heap.size = D := ⟨_, rfl⟩
  obtain ⟨P, hP⟩ : ∃ P, w5.heap.size = P := ⟨_, rfl⟩
  rw [hB] at H6 IB ⊢
  rw [hD] at HD6 ID ⊢
  rw [hP] at HP IP ⊢
  clear hB hD hP
  have y0 := cell_of H6.out 0
  have y1 := cell_of H6.out 1
  have y2 := cell_of H6.out 2
  have y3 := cell_of H6.out 3
  have y4 := cell_of H6.out 4
  simp at y0 y1 y2 y3 y4
  have PU := hide (J6.out.put1 ⟨p, g, c, wr⟩ e a0 a1 b (trm l) CL6.out)
  unfold aV at PU
  simp only at PU
  go_wp2_with fail
  refine PU.out.mono ?_
  rintro r w7 ⟨rfl, k7, jh⟩
  have JH7 := hide jh
  have K7 := hide (K6.out.trans (k7.mono SUB.out))
  have H7 := hide ((k7.block B IB.out).trans H6.out)
  have D7 := hide ((k7.block D ID.out).trans HD6.out)
  have P7 := hide ((k7.block P IP.out).trans HP.out)
  have v0 := cell_of P7.out 0
  have v1 := cell_of P7.out 1
  have v2 := cell_of P7.out 2
  have v3 := cell_of P7.out 3
  simp at v0 v1 v2 v3
  clear k7 jh PU J6 CL6 K6 H6 HD6 HP IB ID IP y0 y1 y2 y3 y4 SUB0
  obtain ⟨po, hpo⟩ : ∃ po, putO S ⟨p, g, c, wr⟩ e (trm l) = po := ⟨_, rfl⟩
  obtain ⟨pe, hpe⟩ : ∃ pe, putE ⟨p, g, c, wr⟩ e = pe := ⟨_, rfl⟩
  rw [hpo, hpe]
  have HPO := hide hpo
  have HPE := hide hpe
  clear hpo hpe
  go_wp2_with fail
  refine (PP.out _).mono ?_
  rintro r w8 ⟨rfl, e8⟩
  have b8 : Below w7.heap.size w7 w8 := by rw [e8]; exact Ba.below_alloc _ _
  have JH8 := hide (JH7.out.below b8)
  have K8 := hide (K7.out.trans (KY.of b8 (fun k q => JH7.out.yl k (SUB.out k q))))
  have H8 := hide ((b8.block B (Ba.heap_lt H7.out)).trans H7.out)
  have D8 := hide ((b8.block D (Ba.heap_lt D7.out)).trans D7.out)
  have P8 := hide ((b8.block P (Ba.heap_lt P7.out)).trans P7.out)
  clear b8 e8 JH7 K7 H7 D7 P7 v0 v1 v2 v3 PP
  have y0 := cell_of H8.out 0
  have y1 := cell_of H8.out 1
  have y2 := cell_of H8.out 2
  have y3 := cell_of H8.out 3
  have v2 := cell_of P8.out 2
  have v3 := cell_of P8.out 3
  simp at y0 y1 y2 y3 v2 v3
  have BAD : Hid (badA ⟨p, g, c, wr⟩ ∨ ownB e = false → po = false ∧ pe = 1 ∧ (∃ S' Q', JR Y0 X R w8 S' Q')) := by
    intro h
    obtain ⟨q1, q2, q3⟩ := put_bad_is (S := S) (l := trm l) h
    refine ⟨by rw [← HPO.out, q2], by rw [← HPE.out, q3], S, Q, ?_⟩
    have := JH8.out
    rw [q1] at this
    exact (this.jr EQ.out).less SUB.out
  have GOOD : Hid (¬ badA ⟨p, g, c, wr⟩ → ownB e = true → pe = 0 ∧ x3 = tidOf e ∧ x4 = clkOf e ∧ Calls Try.prog 57 #[.pointer (some ⟨R, 0, none⟩), .agg #[.bool false, .int .i64 c, .int .i64 p, .int .i64 g, .int .i64 0, .bool wr], .agg #[.int .i64 (tidOf e), .int .i64 (clkOf e), .bool false, .bool false], .agg (ra (nth l))] w8 fun r w' => r = .returned (.bool po) ∧ (∃ S' Q', JR Y1 X R w' S' Q') ∧ KY Y1 w8 w') := by
    intro h ho
    obtain ⟨q1, q2, q3⟩ := put_good_is (S := S) (l := trm l) h ho
    have := JH8.out
    rw [q1] at this
    have c2 := this.put2 EQ.out (G := nth l) (cl_trm l) h ho
    rw [← q2, HPO.out] at c2
    obtain ⟨-, -, e3, e4, -⟩ := Ep.rd_own e ho
    refine ⟨by rw [← HPE.out, q3], ?_, ?_, c2⟩
    · rw [← HX3.out, e3, Ep.tid_own e ho]
    · rw [← HX4.out, e4, Ep.clk_own e ho]
  unfold badA at BAD GOOD
  simp only at BAD GOOD
  clear JH8 HPO HPE EQ HX3 HX4
  obtain ⟨z, hz⟩ : ∃ z, ownB e = z := ⟨_, rfl⟩
  rw [hz] at BAD GOOD ⊢
  clear hz
  have alts : z = false ∨ (z = true ∧ c < 0) ∨ (z = true ∧ 0 ≤ c ∧ 7 < c) ∨ (z = true ∧ 0 ≤ c ∧ c ≤ 7 ∧ p < 0) ∨ (z = true ∧ 0 ≤ c ∧ c ≤ 7 ∧ 0 ≤ p ∧ g < 0) ∨ (z = true ∧ 0 ≤ c ∧ c ≤ 7 ∧ 0 ≤ p ∧ 0 ≤ g) := by
    cases z
    · exact .inl rfl
    · simp; omega
  rcases alts with rfl | ⟨rfl, c1⟩ | ⟨rfl, c1, c2⟩ | ⟨rfl, c1, c2, c3⟩ | ⟨rfl, c1, c2, c3, c4⟩ | ⟨rfl, c1, c2, c3, c4⟩
  case' inr.inr.inr.inr.inr =>
    obtain ⟨rfl, rfl, rfl, c5⟩ := GOOD.out (by omega) rfl
    have QP := hide c5
    clear c5 BAD GOOD
    have lc : (loadCellsFrom ⟨D, 0, none⟩ 0 256 #[]).run Try.prog w8 = .ok (ra (nth l)) w8 := ld_ref (RA.of D8.out)
    obtain ⟨LC, hLC⟩ : ∃ LC : Nat → Sem (Array Value), ∀ n, loadCellsFrom (⟨D, 0, none⟩ : Addr) 0 n #[] = LC n := ⟨fun n => loadCellsFrom (⟨D, 0, none⟩ : Addr) 0 n #[], fun _ => rfl⟩
    rw [hLC] at lc
    generalize ra (nth l) = AG at *
    go_wp2_with fail
    refine QP.out.mono ?_
    rintro r w9 ⟨rfl, jq, k9⟩
    have JQ := hide jq
    have KQ := hide (K8.out.trans (k9.mono SUB.out))
    clear jq k9 QP
    go_wp2_with fail
    go_ret
    obtain ⟨S', Q', j'⟩ := JQ.out
    exact ⟨by simp, ⟨S', Q', j'.less SUB.out⟩, KQ.out⟩
  all_goals
    obtain ⟨rfl, rfl, jq⟩ := BAD.out (by first | exact .inr rfl | (left; omega))
    have JQ := hide jq
    clear jq BAD GOOD
    go_wp2_with fail
    go_ret
    exact ⟨rfl, JQ.out, K8.out⟩
end Co
end Go.Proofs.Ytekdcfdjohlfcaa
/- Layer 19's law ReportSteps, over this seat's program: does, of whatever step; race. -/
namespace Go.Proofs.Ytekdcfdjohlfcaa
open Go.ChangeShapes Go.WideShapes Go.ChangeAt Go.RowKit
namespace Co
open Ck Ce Rep
open Ba (KF Bd Nw)
open Ep (tidOf clkOf ownB)

theorem does_any {Y0 : Nat → Prop} {X R : Nat} {w : World} {S : Rst} {Q : Qst} (j : JR Y0 X R w S Q) (z : Stp) (oa : Option Addr) (cap : Nat) (hA : Ck.At w oa z.c) (hlc : z.c.length ≤ cap) (hcm : cap ≤ maxLen) (a0 : 0 ≤ z.e) (a1 : z.e ≤ 18446744073709551615) :
    Calls Try.prog 23 #[.pointer (some ⟨X, 0, none⟩), .pointer (some ⟨R, 0, none⟩), .agg #[.int .i64 z.a.p, .int .i64 z.a.g, .int .i64 z.a.c, .bool z.a.wr, .int .u64 z.e, .slice oa z.c.length cap, .int .i64 z.tid, .int .i64 z.cut]] w (DoQ Y0 X R w) := by
  by_cases hcut : 0 ≤ z.cut
  · exact does_ret j _ _ _ _ _ _ _ _ _ _ hcut
  · by_cases hv : z.c.length ≤ 256 ∧ Valid z.c
    · have eq : Eqr S Q := by obtain ⟨_, _, _, _, _, _, _, e⟩ := j; exact e
      exact does_put j eq z.a z.e a0 a1 oa z.c cap z.tid z.cut (by omega) hA hlc hcm hv.1 hv.2
    · exact does_non j _ _ _ _ _ oa z.c cap _ _ (by omega) hA hlc hcm hv
theorem results_row1 {fn : Func} {p : Tmp} {ty : TypeId} (h : fn.results = #[.cell p ty]) (tmps : Array Value) (w : World) (g : Nat) (cs : Array Value)
    (hp : tmps.getD p undef = .pointer (some ⟨g, 0, none⟩)) (hl : (loadVar ty ⟨g, 0, none⟩).run Try.prog w = .ok (.agg cs) w) :
    (results fn tmps).run Try.prog w = .ok (.agg cs) w := by
  have hp' : tmps[p]?.getD undef = .pointer (some ⟨g, 0, none⟩) := by simpa using hp
  simp [results, h, hp', asAddr, hl]
theorem loadVar_rr {w : World} {b : Nat} {c : Array Value} {t : TypeId} (h : w.heap[b]? = some (.cells c t (0, 0))) (hc : c.size = 6) : (loadVar 70 ⟨b, 0, none⟩).run Try.prog w = .ok (.agg c) w :=
  run_loadVar_row w b t _ _ _ _ h Try.underlying70 rfl (by rw [(zero_of_info (show (Try.prog.info? 70).map (fun i => (i.zero, i.size)) = some (some (.agg (rrV ⟨false, r0⟩)), 6) by kernel_rfl)).2, hc])
set_option maxRecDepth 100000 in
theorem race_any (r : Rc) (w : World) : Calls Try.prog 26 #[rv r] w fun q w' => q = .returned (.agg (rrV ⟨true, r⟩)) ∧ Below w.heap.size w w' := by
  obtain ⟨c, p, g, x, b⟩ := r
  unfold rv ra5 rrV
  simp only
  have h2 : ((w.alloc (.cells #[.int .i64 c, .int .i64 p, .int .i64 g, .int .i64 x, .bool b] 73)).alloc (.cells #[.bool true, .int .i64 c, .int .i64 p, .int .i64 g, .int .i64 x, .bool b] 70)).heap[w.heap.size + 1]? = some (.cells #[.bool true, .int .i64 c, .int .i64 p, .int .i64 g, .int .i64 x, .bool b] 70 (0, 0)) := by
    have := heap_new (w.alloc (.cells #[.int .i64 c, .int .i64 p, .int .i64 g, .int .i64 x, .bool b] 73)) (.cells #[.bool true, .int .i64 c, .int .i64 p, .int .i64 g, .int .i64 x, .bool b] 70)
    rwa [World.size_alloc] at this
  go_enter Try.func26, Try.ntmps26
  go_wp2_with fail
  exact bodyPost_ret (results_row1 Try.results26 _ _ _ _ rfl (loadVar_rr h2 rfl)) rfl ⟨rfl, Ce.btr (Ba.below_alloc _ _) (Ba.below_alloc _ _)⟩
end Co
end Go.Proofs.Ytekdcfdjohlfcaa
/- What ReportSteps compares: rows of races, arrays of 256 numbers. -/
namespace Go.Proofs.Ytekdcfdjohlfcaa
open Go.ChangeShapes Go.WideShapes Go.ChangeAt Go.RowKit
namespace Co
open Ck Ce Rep
open Ba (KF Bd Nw hide)
open Ep (tidOf clkOf ownB)

theorem eqQ (a : Rr) (w : World) : (Op.equalIn 10000 70 (.agg (rrV a)) (.agg (rrV a))).run Try.prog w = .ok true w := by
  obtain ⟨t, k, g, c, x, v⟩ := a
  unfold rrV
  simp [go_sem]
theorem fm_get {α : Type} (f : α → List Value) (n : Nat) (hn : ∀ a, (f a).length = n) : ∀ (l : List α) (k : Nat) (r : α), l[k]? = some r → ∀ j, j < n → (l.flatMap f)[k * n + j]? = (f r)[j]?
  | [], k, r, h, _, _ => by simp at h
  | x :: l, 0, r, h, j, hj => by
    simp only [List.getElem?_cons_zero, Option.some.injEq] at h
    subst h
    rw [List.flatMap_cons, Nat.zero_mul, Nat.zero_add, List.getElem?_append_left (by rw [hn]; exact hj)]
  | x :: l, k + 1, r, h, j, hj => by
    rw [List.getElem?_cons_succ] at h
    rw [List.flatMap_cons, List.getElem?_append_right (by rw [hn, Nat.succ_mul]; omega), hn, show (k + 1) * n + j - n = k * n + j by rw [Nat.succ_mul]; omega]
    exact fm_get f n hn l k r h j hj
theorem row_at {w : World} {base : Nat} {e : TypeId} {n : Nat} {oa : Option Addr} {m c : Nat} {α : Type} (f : α → List Value) (hn : ∀ a, (f a).length = n) {l : List α} (h : w.ownsRow base e n (.slice oa m c) l.length (l.flatMap f)) {k : Nat} {r : α} (hk : l[k]? = some r) :
    ∃ g, oa = some ⟨g, 0, none⟩ ∧ ∀ j, j < n → w.cell? ⟨g, k * n + j, none⟩ = (f r)[j]? := by
  have hl : k < l.length := (List.getElem?_eq_some_iff.1 hk).1
  rcases h.2 with ⟨-, q⟩ | ⟨g, cap, cur, q, -⟩
  · omega
  · cases q
    refine ⟨g, rfl, fun j hj => ?_⟩
    have hi : k * n + j < l.length * n := by
      have : (k + 1) * n ≤ l.length * n := Nat.mul_le_mul_right n hl
      rw [Nat.succ_mul] at this; omega
    rw [h.cellAt (k * n + j) hi]
    exact fm_get f n hn l k r hk j hj
theorem owns_sl {w : World} {base size : Nat} {e : TypeId} {v : Value} {n : Nat} {xs : List Value} (h : w.ownsRow base e size v n xs) : ∃ oa c, v = .slice oa n c := by
  rcases h.2 with ⟨rfl, h0⟩ | ⟨g, cap, cur, rfl, -⟩
  · exact ⟨none, 0, by rw [h0]⟩
  · exact ⟨_, _, rfl⟩
theorem rc_at {w : World} {base : Nat} {oa : Option Addr} {m c : Nat} {l : List Rc} (h : w.ownsRow base 73 5 (.slice oa m c) l.length (rcC l)) {k : Nat} {r : Rc} (hk : l[k]? = some r) :
    ∃ g, oa = some ⟨g, 0, none⟩ ∧ w.cell? ⟨g, k * 5, none⟩ = some (.int .i64 r.c) ∧ w.cell? ⟨g, k * 5 + 1, none⟩ = some (.int .i64 r.p) ∧ w.cell? ⟨g, k * 5 + 2, none⟩ = some (.int .i64 r.g) ∧ w.cell? ⟨g, k * 5 + 3, none⟩ = some (.int .i64 r.wi) ∧ w.cell? ⟨g, k * 5 + 4, none⟩ = some (.bool r.wr) := by
  obtain ⟨g, rfl, q⟩ := row_at (fun r => (ra5 r).toList) (fun _ => rfl) h hk
  exact ⟨g, rfl, q 0 (by decide), q 1 (by decide), q 2 (by decide), q 3 (by decide), q 4 (by decide)⟩
theorem qc_at {w : World} {base : Nat} {oa : Option Addr} {m c : Nat} {l : List Rc} (h : w.ownsRow base 70 6 (.slice oa m c) l.length (qcC l)) {k : Nat} {r : Rc} (hk : l[k]? = some r) :
    ∃ g, oa = some ⟨g, 0, none⟩ ∧ w.cell? ⟨g, k * 6, none⟩ = some (.bool true) ∧ w.cell? ⟨g, k * 6 + 1, none⟩ = some (.int .i64 r.c) ∧ w.cell? ⟨g, k * 6 + 2, none⟩ = some (.int .i64 r.p) ∧ w.cell? ⟨g, k * 6 + 3, none⟩ = some (.int .i64 r.g) ∧ w.cell? ⟨g, k * 6 + 4, none⟩ = some (.int .i64 r.wi) ∧ w.cell? ⟨g, k * 6 + 5, none⟩ = some (.bool r.wr) := by
  obtain ⟨g, rfl, q⟩ := row_at (fun r => (rrV ⟨true, r⟩).toList) (fun _ => rfl) h hk
  exact ⟨g, rfl, q 0 (by decide), q 1 (by decide), q 2 (by decide), q 3 (by decide), q 4 (by decide), q 5 (by decide)⟩
/-- arrays of 256 numbers -/
theorem cells_int : Try.prog.cellsOf 3 = 1 := by kernel_rfl
theorem part_ra (F : Nat → Int) (i : Nat) (h : i < 256) (w : World) : (part 3 (ra F) (i * 1)).run Try.prog w = .ok (.int .i64 (F i)) w := by
  have := ra_at F i h
  simp [part, isAgg, run_underlying Try.underlying3, this]
theorem eq_int (d : Nat) (a b : Int) (w : World) : (Op.equalIn (d + 1) 3 (.int .i64 a) (.int .i64 b)).run Try.prog w = .ok (a == b) w := by
  simp [Op.equalIn, run_underlying Try.underlying3]
theorem items_ra (F G : Nat → Int) (w : World) : ∀ (l : List Nat), (∀ i ∈ l, i < 256) → (Op.eqItems 9999 3 1 (ra F) (ra G) l).run Try.prog w = .ok (l.all fun i => F i == G i) w
  | [], _ => by simp [Op.eqItems]
  | x :: l, h => by
    have hx := h x List.mem_cons_self
    have ih := items_ra F G w l (fun i hi => h i (List.mem_cons_of_mem _ hi))
    simp only [Op.eqItems, Sem.run_bind, part_ra F x hx, part_ra G x hx, Result.andThen_ok, eq_int 9998]
    cases hq : (F x == G x)
    · simp [hq]
    · simp [hq, ih]
theorem eqA (F G : Nat → Int) (w : World) : (Op.equalIn 10000 37 (.agg (ra F)) (.agg (ra G))).run Try.prog w = .ok ((List.range 256).all fun i => F i == G i) w := by
  cases hi : Try.prog.info? 3 with
  | none => have q : (Try.prog.info? 3).isSome = true := by kernel_rfl
            rw [hi] at q; cases q
  | some i0 =>
  rw [run_equalIn_array w 9999 _ _ Try.underlying37 hi, cells_int]
  exact items_ra F G w _ (fun i hi => List.mem_range.1 hi)
/-- the reads of both are none together -/
theorem reads_none {st : Cst} {a : Ac} {F : Nat → Int} {tl : Bool} (q : Eqc st a F tl) (g : Gd st) : ((List.range 256).all fun i => F i == nf i) = decide (st.rd.length = 0) := by
  rw [Bool.eq_iff_iff, List.all_eq_true, decide_eq_true_iff]
  constructor
  · intro h
    cases hr : st.rd with
    | nil => rfl
    | cons e l =>
      exfalso
      have he : e ∈ st.rd := by rw [hr]; exact List.mem_cons_self
      have ho := g.ro e he
      have ht := own_tid ho
      have hc := own_clk ho
      have h1 := h (tidOf e).toNat (List.mem_range.2 (by omega))
      have h2 := q.rd e he
      have h3 : F (tidOf e).toNat = nf (tidOf e).toNat := by simpa using h1
      rw [h2] at h3
      have : clkOf e = 0 := h3
      omega
  · intro h i hi
    have hi' := List.mem_range.1 hi
    by_cases h0 : F i = 0
    · rw [h0]; rfl
    · obtain ⟨e, he, -⟩ := q.dr i hi' h0
      rw [List.length_eq_zero_iff.1 h] at he
      cases he
end Co
end Go.Proofs.Ytekdcfdjohlfcaa
