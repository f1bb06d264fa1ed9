/- Layer 16: each step of a watch and of its reference, side by side, over this seat's program. -/
import Derived.Test.YtfimfgffbfjkeaaWk
namespace Go.Proofs.Ytfimfgffbfjkeaa
open Go.ChangeShapes Go.WideShapes Go.ChangeAt Go.RowKit
namespace Wq
open Ck
open Ba (KF Bd Nw)
open Wa (Wst IsSet Ext upf upf_same upf_other Used Fo WW WX)

def wfk (g : Int) : Prop := (Lit.int .i64 g).wf = true
/-- what Spawn answers, and leaves -/
def SpR (qs : Qst) (p c a e : Int) (qs' : Qst) : Prop :=
  (at_ qs.L p = -1 ∧ a = 0 ∧ e = 6 ∧ qs' = qs) ∨
  (∃ k : Nat, at_ qs.L p = (k : Int) ∧ (c < 0 ∨ 0 ≤ at_ qs.L c) ∧ a = 0 ∧ e = 1 ∧ qs' = qs) ∨
  (∃ k : Nat, at_ qs.L p = (k : Int) ∧ 0 ≤ c ∧ at_ qs.L c = -1 ∧ frI qs.L qs.T = -1 ∧ a = 0 ∧ e = 5 ∧ qs' = qs) ∨
  (∃ (k : Nat) (o : On) (t : Nat), at_ qs.L p = (k : Int) ∧ qs.L[k]? = some o ∧ 0 ≤ c ∧ at_ qs.L c = -1 ∧ frI qs.L qs.T = (t : Int) ∧ t < 256 ∧ a = (t : Int) ∧ e = 0 ∧ qs' = { qs with L := qs.L ++ [⟨c, t, upF o.F t 1⟩] })
section
variable {Y0 : Nat → Prop} {B G : Nat} {w w' : World} {st : Wst} {h : Nat → Option (List Int)} {qs qs' : Qst}
theorem Rw.len (r : Rw st h qs) (j : JW Y0 B G w st h qs) : qs.L.length ≤ 100000 := by
  have := j.bd.2.2.2
  have := r.n
  omega
theorem spawnP (j : JW Y0 B G w st h qs) (r : Rw st h qs) (p c : Int) (hp : wfk p) (hc : wfk c) :
    Calls Try.prog 19 #[.pointer (some ⟨B, 0, none⟩), .int .i64 p, .int .i64 c] w fun q w' => ∃ a e st' h' qs', q = .returned (.tuple #[.int .i64 a, .int .i64 e]) ∧ SpR qs p c a e qs' ∧ JW Y0 B G w' st' h' qs ∧ Kp Y0 w w' ∧ Rw st' h' qs' := by
  have j0 := j
  have bd := j.bd
  obtain ⟨v, s, x, n⟩ := j
  rcases r.at p with ⟨f1, a1⟩ | ⟨k, o, b, l, f1, a1, hk, hg, hb, gd⟩
  · refine (Wa.spawn_none s p c hp f1).mono ?_
    rintro q w' ⟨rfl, b1⟩
    exact ⟨0, 6, st, h, qs, rfl, .inl ⟨a1, rfl, rfl, rfl⟩, j0.below b1, j0.kp b1, r⟩
  · by_cases hq : c < 0 ∨ (st.f c).isSome = true
    · refine (Wa.spawn_arg s p c hp hc o.t b f1 hq).mono ?_
      rintro q w' ⟨rfl, b1⟩
      refine ⟨0, 1, st, h, qs, rfl, .inr (.inl ⟨k, a1, ?_, rfl, rfl, rfl⟩), j0.below b1, j0.kp b1, r⟩
      rcases hq with hq | hq
      · exact .inl hq
      · rcases r.at c with ⟨f2, -⟩ | ⟨k2, _, _, _, -, a2, -⟩
        · rw [f2] at hq; cases hq
        · exact .inr (by omega)
    · have hc0 : 0 ≤ c := by omega
      have hfc : st.f c = none := by
        cases q : st.f c with
        | none => rfl
        | some y => exact absurd (.inr (by rw [q]; rfl)) hq
      have ac : at_ qs.L c = -1 := by
        rcases r.at c with ⟨-, a2⟩ | ⟨k2, o2, b2, l2, f2, -⟩
        · exact a2
        · rw [hfc] at f2; cases f2
      have rT := r.T
      rcases r.free with ⟨hn, fr⟩ | ⟨hn, t, fr, ht, hu, hall⟩
      · refine (Wa.spawn_full s p c hp hc hc0 o.t b f1 hfc (by omega)).mono ?_
        rintro q w' ⟨rfl, b1⟩
        exact ⟨0, 5, st, h, qs, rfl, .inr (.inr (.inl ⟨k, a1, hc0, ac, fr, rfl, rfl, rfl⟩)), j0.below b1, j0.kp b1, r⟩
      · refine (Wa.spawn_ok s p c hp hc hc0 o.t b t l f1 hfc hb (by omega) (by omega) hu hall).mono ?_
        rintro q w' ⟨rfl, A, l', hA, is, s', kp⟩
        obtain ⟨j', k'⟩ := JW.pg x n s' kp
        exact ⟨(t : Int), 0, _, _, _, rfl, .inr (.inr (.inr ⟨k, o, t, a1, hk, hc0, ac, fr, by omega, rfl, rfl, rfl⟩)), j', k', r.spawn hfc ht hu hA (good_set gd is)⟩
theorem spawnQ {p c a e : Int} (j : JW Y0 B G w st h qs) (hl : qs.L.length ≤ 100000) (hT : qs.T ≤ 256) (sp : SpR qs p c a e qs') :
    Calls Try.prog 27 #[.pointer (some ⟨G, 0, none⟩), .int .i64 p, .int .i64 c] w fun q w' => q = .returned (.tuple #[.int .i64 a, .int .i64 e]) ∧ JW Y0 B G w' st h qs' ∧ Kp Y0 w w' := by
  have j0 := j
  obtain ⟨v, s, x, n⟩ := j
  rcases sp with ⟨a1, rfl, rfl, rfl⟩ | ⟨k, a1, hq, rfl, rfl, rfl⟩ | ⟨k, a1, hc0, ac, fr, rfl, rfl, rfl⟩ | ⟨k, o, t, a1, hk, hc0, ac, fr, ht, rfl, rfl, rfl⟩
  · refine (sp_none x p c hl a1).mono ?_
    rintro q w' ⟨rfl, b1⟩
    exact ⟨rfl, j0.below b1, j0.kp b1⟩
  · refine (sp_arg x p c hl k a1 hq).mono ?_
    rintro q w' ⟨rfl, b1⟩
    exact ⟨rfl, j0.below b1, j0.kp b1⟩
  · refine (sp_full x p c hl hT k a1 hc0 ac fr).mono ?_
    rintro q w' ⟨rfl, b1⟩
    exact ⟨rfl, j0.below b1, j0.kp b1⟩
  · refine (sp_ok x p c hl hT k o t a1 hk hc0 ac fr ht).mono ?_
    rintro q w' ⟨rfl, v', x', hv, kf⟩
    refine ⟨rfl, JW.rf s n x' kf ?_⟩
    rintro y (e | e)
    · exact .inl (.inl e)
    · rcases hv with hv | ⟨N, hv, hN⟩
      · rw [hv] at e; exact .inl (.inr e)
      · rw [hv] at e; cases e; exact .inr hN
/-- what Know answers, and leaves -/
def KnR (qs : Qst) (g : Int) (H : Nat → Int) (e : Int) (qs' : Qst) : Prop :=
  (at_ qs.L g = -1 ∧ e = 6 ∧ qs' = qs) ∨
  (∃ (k : Nat) (o : On), at_ qs.L g = (k : Int) ∧ qs.L[k]? = some o ∧ e = 0 ∧ qs' = { qs with L := qs.L.set k ⟨o.g, o.t, jf o.F H 256⟩ })
theorem knowP (j : JW Y0 B G w st h qs) (r : Rw st h qs) (g : Int) (hg : wfk g) (c : Nat) (m : List Int) (H : Nat → Int) (hc : h c = some m) (gm : Good m H) :
    Calls Try.prog 24 #[.pointer (some ⟨B, 0, none⟩), .int .i64 g, .pointer (some ⟨c, 0, none⟩)] w fun q w' => ∃ e h' qs', q = .returned (.int .i64 e) ∧ KnR qs g H e qs' ∧ JW Y0 B G w' st h' qs ∧ Kp Y0 w w' ∧ Rw st h' qs' := by
  have j0 := j
  obtain ⟨v, s, x, n⟩ := j
  rcases r.at g with ⟨f1, a1⟩ | ⟨k, o, b, l, f1, a1, hk, hgo, hb, gd⟩
  · refine (Wa.know_none s g hg f1 _).mono ?_
    rintro q w' ⟨rfl, b1⟩
    exact ⟨6, h, qs, rfl, .inl ⟨a1, rfl, rfl⟩, j0.below b1, j0.kp b1, r⟩
  · refine (Wa.know_any s g hg o.t b c l m f1 hb hc).mono ?_
    rintro q w' ⟨rfl, s', kp⟩
    obtain ⟨j', k'⟩ := JW.pg x n s' kp
    exact ⟨0, _, _, rfl, .inr ⟨k, o, a1, hk, rfl, rfl⟩, j', k', r.set j0.inj hk (by rw [hgo]; exact f1) (good_join gd gm)⟩
theorem knowQ {g e : Int} {H : Nat → Int} (j : JW Y0 B G w st h qs) (hl : qs.L.length ≤ 100000) (kn : KnR qs g H e qs') :
    Calls Try.prog 30 #[.pointer (some ⟨G, 0, none⟩), .int .i64 g, .agg (ra H)] w fun q w' => q = .returned (.int .i64 e) ∧ JW Y0 B G w' st h qs' ∧ Kp Y0 w w' := by
  have j0 := j
  obtain ⟨v, s, x, n⟩ := j
  rcases kn with ⟨a1, rfl, rfl⟩ | ⟨k, o, a1, hk, rfl, rfl⟩
  · refine (know_no x g H hl a1).mono ?_
    rintro q w' ⟨rfl, b1⟩
    exact ⟨rfl, j0.below b1, j0.kp b1⟩
  · refine (know_yes x g H hl k o a1 hk).mono ?_
    rintro q w' ⟨rfl, x', kf⟩
    exact ⟨rfl, JW.rf s n x' ⟨kf.os, kf.tape, kf.output, kf.size, fun y hy q => kf.block y hy fun e => q (.inr e)⟩ fun y q => .inl q⟩
/-- what Retire answers, and leaves -/
def ReR (qs : Qst) (g e : Int) (qs' : Qst) : Prop :=
  (at_ qs.L g = -1 ∧ e = 6 ∧ qs' = qs) ∨
  (∃ (k : Nat) (o : On), at_ qs.L g = (k : Int) ∧ qs.L[k]? = some o ∧ o.t < 256 ∧ e = 0 ∧ qs' = { qs with L := rtL qs.L g o.t })
theorem retireP (j : JW Y0 B G w st h qs) (r : Rw st h qs) (g : Int) (hg : wfk g) :
    Calls Try.prog 18 #[.pointer (some ⟨B, 0, none⟩), .int .i64 g] w fun q w' => ∃ e st' h' qs', q = .returned (.int .i64 e) ∧ ReR qs g e qs' ∧ JW Y0 B G w' st' h' qs ∧ Kp Y0 w w' ∧ Rw st' h' qs' := by
  have j0 := j
  have bd := j.bd
  have rT := r.T
  obtain ⟨v, s, x, n⟩ := j
  rcases r.at g with ⟨f1, a1⟩ | ⟨k, o, b, l, f1, a1, hk, hgo, hb, gd⟩
  · refine (Wa.retire_none s g hg f1).mono ?_
    rintro q w' ⟨rfl, b1⟩
    exact ⟨6, st, h, qs, rfl, .inl ⟨a1, rfl, rfl⟩, j0.below b1, j0.kp b1, r⟩
  · refine (Wa.retire_ok s g hg o.t b f1).mono ?_
    rintro q w' ⟨rfl, h', fo, s', kp⟩
    obtain ⟨j', k'⟩ := JW.pg x n s' kp
    have := r.tt o (List.mem_of_getElem? hk)
    exact ⟨0, _, h', _, rfl, .inr ⟨k, o, a1, hk, by omega, rfl, rfl⟩, j', k', r.retire f1 fo⟩
theorem retireQ {g e : Int} (j : JW Y0 B G w st h qs) (hl : qs.L.length ≤ 100000) (re : ReR qs g e qs') :
    Calls Try.prog 33 #[.pointer (some ⟨G, 0, none⟩), .int .i64 g] w fun q w' => q = .returned (.int .i64 e) ∧ JW Y0 B G w' st h qs' ∧ Kp Y0 w w' := by
  have j0 := j
  obtain ⟨v, s, x, n⟩ := j
  rcases re with ⟨a1, rfl, rfl⟩ | ⟨k, o, a1, hk, ht, rfl, rfl⟩
  · refine (rt_no x g hl a1).mono ?_
    rintro q w' ⟨rfl, b1⟩
    exact ⟨rfl, j0.below b1, j0.kp b1⟩
  · refine (rt_yes x g hl k o a1 hk ht).mono ?_
    rintro q w' ⟨rfl, v', x', hv, kf⟩
    refine ⟨rfl, JW.rf s n x' ⟨kf.os, kf.tape, kf.output, kf.size, fun y hy q => kf.block y hy fun e => q (.inl e)⟩ ?_⟩
    rintro y (e | e)
    · exact .inl (.inl e)
    · exact .inr (hv y e)
/-- what Tell answers, and leaves -/
def TeR (qs : Qst) (g : Int) (F : Nat → Int) (e : Int) (qs' : Qst) : Prop :=
  (at_ qs.L g = -1 ∧ F = nf ∧ e = 6 ∧ qs' = qs) ∨
  (∃ (k : Nat) (o : On), at_ qs.L g = (k : Int) ∧ qs.L[k]? = some o ∧ (qs.M : Int) ≤ rg o.F (o.t : Int) ∧ F = nf ∧ e = 5 ∧ qs' = qs) ∨
  (∃ (k : Nat) (o : On), at_ qs.L g = (k : Int) ∧ qs.L[k]? = some o ∧ o.t < 256 ∧ 0 ≤ o.F o.t ∧ o.F o.t < (qs.M : Int) ∧ F = o.F ∧ e = 0 ∧ qs' = { qs with L := qs.L.set k ⟨o.g, o.t, upF o.F o.t (o.F o.t + 1)⟩ })
theorem rg_in (F : Nat → Int) {t : Nat} (h : t < 256) : rg F (t : Int) = F t := by
  unfold rg
  rw [if_pos (by omega)]
  rfl
theorem tellP (j : JW Y0 B G w st h qs) (r : Rw st h qs) (g : Int) (hg : wfk g) :
    Calls Try.prog 23 #[.pointer (some ⟨B, 0, none⟩), .int .i64 g] w fun q w' => ∃ p e F h' qs', q = .returned (.tuple #[.pointer p, .int .i64 e]) ∧ TeR qs g F e qs' ∧ JW Y0 B G w' st h' qs ∧ Kp Y0 w w' ∧ Rw st h' qs' ∧ (p = none ∧ e ≠ 0 ∨ ∃ A l, p = some ⟨A, 0, none⟩ ∧ e = 0 ∧ h' A = some l ∧ Good l F) := by
  have j0 := j
  have bd := j.bd
  have rT := r.T
  have rM := r.M
  obtain ⟨v, s, x, n⟩ := j
  rcases r.at g with ⟨f1, a1⟩ | ⟨k, o, b, l, f1, a1, hk, hgo, hb, gd⟩
  · refine (Wa.tell_none s g hg f1).mono ?_
    rintro q w' ⟨rfl, b1⟩
    exact ⟨none, 6, nf, h, qs, rfl, .inl ⟨a1, rfl, rfl, rfl⟩, j0.below b1, j0.kp b1, r, .inl ⟨rfl, by decide⟩⟩
  · have ht : o.t < 256 := by have := r.tt o (List.mem_of_getElem? hk); omega
    have gt := gd o.t ht
    by_cases hM : nth l o.t < (st.M : Int)
    · refine (Wa.tell_ok s g hg o.t b l f1 hb hM).mono ?_
      rintro q w' ⟨A, l', rfl, hA, is, s', kp⟩
      obtain ⟨j', k'⟩ := JW.pg x n s' kp
      have h0 := nth_nonneg (j0.get hb).2.2 o.t
      have hne : A ≠ b := fun e => by rw [e, hb] at hA; cases hA
      have re : Rw st (upd h A l) qs := r.ext (fun y z hz => by rw [upd_other _ _ _ _ (fun e => by rw [e, hA] at hz; cases hz)]; exact hz)
      refine ⟨_, 0, o.F, _, _, rfl, .inr (.inr ⟨k, o, a1, hk, ht, by omega, by omega, rfl, rfl, rfl⟩), j', k', re.set j0.inj hk (by rw [hgo]; exact f1) ?_, .inr ⟨A, l, rfl, rfl, by rw [upd_other _ _ _ _ hne]; exact upd_same _ _ _, gd⟩⟩
      rw [← gt]
      exact good_set gd is
    · refine (Wa.tell_full s g hg o.t b l f1 hb (by omega)).mono ?_
      rintro q w' ⟨rfl, h', ex, s', kp⟩
      obtain ⟨j', k'⟩ := JW.pg x n s' kp
      exact ⟨none, 5, nf, h', qs, rfl, .inr (.inl ⟨k, o, a1, hk, by rw [rg_in _ ht]; omega, rfl, rfl, rfl⟩), j', k', r.ext ex, .inl ⟨rfl, by decide⟩⟩
theorem tellQ {g e : Int} {F : Nat → Int} (j : JW Y0 B G w st h qs) (hl : qs.L.length ≤ 100000) (hM : qs.M ≤ 1048576) (te : TeR qs g F e qs') :
    Calls Try.prog 31 #[.pointer (some ⟨G, 0, none⟩), .int .i64 g] w fun q w' => q = .returned (.tuple #[.agg (ra F), .int .i64 e]) ∧ JW Y0 B G w' st h qs' ∧ Kp Y0 w w' := by
  have j0 := j
  obtain ⟨v, s, x, n⟩ := j
  rcases te with ⟨a1, rfl, rfl, rfl⟩ | ⟨k, o, a1, hk, hm, rfl, rfl, rfl⟩ | ⟨k, o, a1, hk, ht, h0, hm, rfl, rfl, rfl⟩
  · refine (tell_no x g hl a1).mono ?_
    rintro q w' ⟨rfl, b1⟩
    exact ⟨rfl, j0.below b1, j0.kp b1⟩
  · refine (tell_full x g hl k o a1 hk hm).mono ?_
    rintro q w' ⟨rfl, b1⟩
    exact ⟨rfl, j0.below b1, j0.kp b1⟩
  · refine (tell_ok x g hl k o a1 hk ht h0 hm hM).mono ?_
    rintro q w' ⟨rfl, x', kf⟩
    exact ⟨rfl, JW.rf s n x' ⟨kf.os, kf.tape, kf.output, kf.size, fun y hy q => kf.block y hy fun e => q (.inr e)⟩ fun y q => .inl q⟩
end
end Wq
end Go.Proofs.Ytfimfgffbfjkeaa
