/- Layer 16's laws: who is retired and who is spawned then, beside a reference that is left behind; over this seat's program. -/
import Derived.Test.YtfimfgffbfjkeaaWz2
namespace Go.Proofs.Ytfimfgffbfjkeaa
open Go.ChangeShapes Go.WideShapes Go.ChangeAt Go.RowKit
namespace Wq
open Ck
open Ba (KF Bd Nw)
open Wa (Wst IsSet Ext upf upf_same upf_other Used Fo WW WX Ks Lw)

section
variable {Y0 : Nat → Prop} {B G : Nat} {w w' : World} {st : Wst} {h : Nat → Option (List Int)} {qs qs' qm : Qst}
theorem spawnM (j : JW Y0 B G w st h qm) (r : Rw st h qs) (p c : Int) (hp : wfk p) (hc : wfk c) :
    Calls Try.prog 19 #[.pointer (some ⟨B, 0, none⟩), .int .i64 p, .int .i64 c] w fun q w' => ∃ a e st' h' qs', q = .returned (.tuple #[.int .i64 a, .int .i64 e]) ∧ SpR qs p c a e qs' ∧ JW Y0 B G w' st' h' qm ∧ Kp Y0 w w' ∧ Rw st' h' qs' := by
  have j0 := j
  have bd := j.bd
  obtain ⟨v, s, x, n⟩ := j
  rcases r.at p with ⟨f1, a1⟩ | ⟨k, o, b, l, f1, a1, hk, hg, hb, gd⟩
  · refine (Wa.spawn_none s p c hp f1).mono ?_
    rintro q w' ⟨rfl, b1⟩
    exact ⟨0, 6, st, h, qs, rfl, .inl ⟨a1, rfl, rfl, rfl⟩, j0.below b1, j0.kp b1, r⟩
  · by_cases hq : c < 0 ∨ (st.f c).isSome = true
    · refine (Wa.spawn_arg s p c hp hc o.t b f1 hq).mono ?_
      rintro q w' ⟨rfl, b1⟩
      refine ⟨0, 1, st, h, qs, rfl, .inr (.inl ⟨k, a1, ?_, rfl, rfl, rfl⟩), j0.below b1, j0.kp b1, r⟩
      rcases hq with hq | hq
      · exact .inl hq
      · rcases r.at c with ⟨f2, -⟩ | ⟨k2, _, _, _, -, a2, -⟩
        · rw [f2] at hq; cases hq
        · exact .inr (by omega)
    · have hc0 : 0 ≤ c := by omega
      have hfc : st.f c = none := by
        cases q : st.f c with
        | none => rfl
        | some y => exact absurd (.inr (by rw [q]; rfl)) hq
      have ac : at_ qs.L c = -1 := by
        rcases r.at c with ⟨-, a2⟩ | ⟨k2, o2, b2, l2, f2, -⟩
        · exact a2
        · rw [hfc] at f2; cases f2
      have rT := r.T
      rcases r.free with ⟨hn, fr⟩ | ⟨hn, t, fr, ht, hu, hall⟩
      · refine (Wa.spawn_full s p c hp hc hc0 o.t b f1 hfc (by omega)).mono ?_
        rintro q w' ⟨rfl, b1⟩
        exact ⟨0, 5, st, h, qs, rfl, .inr (.inr (.inl ⟨k, a1, hc0, ac, fr, rfl, rfl, rfl⟩)), j0.below b1, j0.kp b1, r⟩
      · refine (Wa.spawn_ok s p c hp hc hc0 o.t b t l f1 hfc hb (by omega) (by omega) hu hall).mono ?_
        rintro q w' ⟨rfl, A, l', hA, is, s', kp⟩
        obtain ⟨j', k'⟩ := JW.pg x n s' kp
        exact ⟨(t : Int), 0, _, _, _, rfl, .inr (.inr (.inr ⟨k, o, t, a1, hk, hc0, ac, fr, by omega, rfl, rfl, rfl⟩)), j', k', r.spawn hfc ht hu hA (good_set gd is)⟩
theorem allM (j : JW Y0 B G w st h qm) (r : Rw st h qs) : Calls Try.prog 13 #[.pointer (some ⟨B, 0, none⟩)] w fun e w' => ∃ (oa : Option Addr) (c : Nat) (ks : List Int), e = .returned (.slice oa qs.L.length c) ∧ ks.length = qs.L.length ∧ Ks st.f st.n ks ∧ Ba.At w' oa ks ∧ JW (YL Y0 oa) B G w' st h qm ∧ Kp Y0 w w' := by
  have j0 := j
  obtain ⟨v, s, q, n⟩ := j
  refine (Wa.all_any s).mono ?_
  rintro e w' ⟨u, ks, rfl, hk, ho, hb⟩
  have hl : ks.length = qs.L.length := by rw [hk.len, r.n]
  have hblk : ∀ oa c, u = .slice oa ks.length c → ∀ a, oa = some a → w.heap.size ≤ a.block ∧ a.block < w'.heap.size := fun oa c e a ea => by
    rcases ho.2 with ⟨q1, -⟩ | ⟨g, cap, cur, q1, q2, q3, -⟩
    · rw [q1] at e; simp only [Value.slice.injEq] at e; rw [← e.1] at ea; cases ea
    · rw [q1] at e; simp only [Value.slice.injEq] at e; rw [← e.1] at ea; cases ea; exact ⟨q2, Ba.heap_lt q3⟩
  obtain ⟨oa, c, rfl, hA⟩ := Ba.owns_at ho
  have hb2 := hblk oa c rfl
  refine ⟨oa, c, ks, by rw [hl], hl, hk, hA, j0.more hb ?_ ?_, j0.kp hb⟩
  · rintro x (hx | ⟨a, ea, rfl⟩)
    · exact .inl hx
    · exact .inr (hb2 a ea).1
  · rintro x (hx | ⟨a, ea, rfl⟩)
    · exact Nat.lt_of_lt_of_le (j0.ylt x hx) hb.size
    · exact (hb2 a ea).2
theorem clockM (j : JW Y0 B G w st h qm) (r : Rw st h qs) (g : Int) (hg : wfk g) (t b : Nat) (l : List Int) (hf : st.f g = some (t, b)) (hb : h b = some l) : Calls Try.prog 16 #[.pointer (some ⟨B, 0, none⟩), .int .i64 g] w fun e w' => ∃ A h', e = .returned (.tuple #[.pointer (some ⟨A, 0, none⟩), .bool true]) ∧ h' A = some l ∧ JW Y0 B G w' st h' qm ∧ Rw st h' qs ∧ Kp Y0 w w' := by
  obtain ⟨v, s, q, n⟩ := j
  refine (Wa.clock_any s g hg t b l hf hb).mono ?_
  rintro e w' ⟨A, rfl, hA, s1, k1⟩
  have pg := JW.pg q n s1 k1
  exact ⟨A, upd h A l, rfl, upd_same _ _ _, pg.1, r.ext (Wa.Ext.upd hA), pg.2⟩
/-- who is spawned begins at 1, and nobody else knows of that tid -/
theorem SpR.again (r : Rw st h qs) (own : Own qs) {p c a : Int} (sp : SpR qs p c a 0 qs') : ∃ t : Nat, t < 256 ∧ a = (t : Int) ∧ ∀ (i : Nat) (q : On), qs'.L[i]? = some q → (q.g = c → q.F t = 1) ∧ (q.g ≠ c → q.F t = 0) := by
  rcases sp with ⟨-, -, e, -⟩ | ⟨-, -, -, -, e, -⟩ | ⟨-, -, -, -, -, -, e, -⟩ | ⟨k, o, t, -, hk, -, hc, hf, ht, rfl, -, rfl⟩
  · cases e
  · cases e
  · cases e
  · have un : ∀ (i : Nat) (q : On), qs.L[i]? = some q → q.t ≠ t := fun i q hq e => by
      rcases r.free with ⟨-, f⟩ | ⟨-, t', f, -, nu, -⟩
      · rw [f] at hf; omega
      · have et : t' = t := by rw [f] at hf; omega
        obtain ⟨b, l, f1, -⟩ := r.fw i q hq
        rw [e, ← et] at f1
        exact nu ⟨q.g, b, f1⟩
    refine ⟨t, ht, rfl, fun i q hq => ?_⟩
    rcases app_at hq with hq | rfl
    · refine ⟨fun e => ?_, fun _ => own.no i q t hq ht un⟩
      rcases at_inv (l := qs.L) (g := c) with ⟨-, no⟩ | ⟨k', _, e', -⟩
      · exact absurd e (no q (List.mem_of_getElem? hq))
      · rw [e'] at hc; omega
    · exact ⟨fun _ => up_same _ _ _, fun e => absurd rfl e⟩
theorem ReR.done {g e : Int} (re : ReR qs g e qs') {k : Nat} (hk : at_ qs.L g = (k : Int)) : e = 0 ∧ ∃ o : On, qs.L[k]? = some o ∧ qs' = { qs with L := rtL qs.L g o.t } := by
  rcases re with ⟨q, -, -⟩ | ⟨k', o, q, ho, -, rfl, rfl⟩
  · rw [q] at hk; omega
  · obtain rfl : k' = k := by rw [q] at hk; omega
    exact ⟨rfl, o, ho, rfl⟩
/-- where one was retired another one can be spawned -/
theorem Rw.room (r : Rw st h qs) {g p c a e : Int} {k : Nat} {o : On} (hk : qs.L[k]? = some o) (hg : o.g = g) (hp : (st.f p).isSome = true) (hpg : p ≠ g) (hc : 0 ≤ c) (hcn : at_ qs.L c = -1) {st' : Wst} {h' : Nat → Option (List Int)} (r' : Rw st' h' { qs with L := rtL qs.L g o.t }) (sp : SpR { qs with L := rtL qs.L g o.t } p c a e qs') : e = 0 := by
  have ng := of_nd (f := (·.g)) r.nd
  have hlen := rt_one (t := o.t) ng ⟨o, List.mem_of_getElem? hk, hg⟩
  have hT := pig qs.T (qs.L.map (·.t)) r.nodup (fun x hx => by
    obtain ⟨q, hq, rfl⟩ := List.mem_map.1 hx
    exact r.tt q hq)
  rw [List.length_map] at hT
  rcases sp with ⟨q, -⟩ | ⟨-, -, q, -⟩ | ⟨-, -, -, -, q, -⟩ | ⟨_, _, _, -, -, -, -, -, -, -, q, -⟩
  · exfalso
    obtain ⟨k2, o2, b2, l2, -, -, hk2, hg2, -⟩ := r.some_at hp
    have hm : (⟨o2.g, o2.t, upF o2.F o.t 0⟩ : On) ∈ rtL qs.L g o.t := rt_mem.2 ⟨o2, List.mem_of_getElem? hk2, by rw [hg2]; exact hpg, rfl⟩
    rcases at_inv (l := rtL qs.L g o.t) (g := p) with ⟨-, no⟩ | ⟨k', _, e', -⟩
    · exact no _ hm hg2
    · have q' : at_ (rtL qs.L g o.t) p = -1 := q
      rw [e'] at q'; omega
  · exfalso
    rcases q with q | q
    · omega
    · have q' : 0 ≤ at_ (rtL qs.L g o.t) c := q
      rcases at_inv (l := rtL qs.L g o.t) (g := c) with ⟨e', -⟩ | ⟨k', o', e', ho', hg', -⟩
      · rw [e'] at q'; omega
      · obtain ⟨o3, ho3, -, rfl⟩ := rt_mem.1 (List.mem_of_getElem? ho')
        rcases at_inv (l := qs.L) (g := c) with ⟨-, no⟩ | ⟨k4, _, e4, -⟩
        · exact no o3 ho3 hg'
        · rw [e4] at hcn; omega
  · exfalso
    have q' : frI (rtL qs.L g o.t) qs.T = -1 := q
    rcases r'.free with ⟨hn, -⟩ | ⟨-, t', f, -⟩
    · have hn' : qs.T ≤ st'.n := hn
      have hn2 : st'.n = (rtL qs.L g o.t).length := r'.n
      omega
    · have f' : frI (rtL qs.L g o.t) qs.T = (t' : Int) := f
      rw [f'] at q'; omega
  · exact q
end
end Wq
end Go.Proofs.Ytfimfgffbfjkeaa
