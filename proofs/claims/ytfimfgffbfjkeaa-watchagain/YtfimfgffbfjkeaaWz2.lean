/- Layer 16's laws: clocks that are looked at, lists that are kept; over this seat's program. -/
import Derived.Test.YtfimfgffbfjkeaaWz
namespace Go.Proofs.Ytfimfgffbfjkeaa
open Go.ChangeShapes Go.WideShapes Go.ChangeAt Go.RowKit
namespace Wq
open Ck
open Ba (KF Bd Nw)
open Wa (Wst IsSet Ext upf upf_same upf_other Used Fo WW WX Ks Lw)

/-- a list's block is as it was -/
theorem at_blk {w w' : World} {oa : Option Addr} {l : List Int} (h : Ba.At w oa l) (hb : ∀ a, oa = some a → w'.heap[a.block]? = w.heap[a.block]?) : Ba.At w' oa l := fun k hk => by
  obtain ⟨b, off, rfl, hc⟩ := h k hk
  refine ⟨b, off, rfl, ?_⟩
  have := hb _ rfl
  rw [← hc]
  simp only [World.cell?, this]
/-- what is kept besides: a list's block -/
def YL (Y0 : Nat → Prop) (oa : Option Addr) : Nat → Prop := fun x => Y0 x ∨ ∃ a, oa = some a ∧ x = a.block
section
variable {Y0 : Nat → Prop} {B G : Nat} {w w' : World} {st : Wst} {h : Nat → Option (List Int)} {qs : Qst}
theorem allL (j : JW Y0 B G w st h qs) (r : Rw st h qs) : Calls Try.prog 13 #[.pointer (some ⟨B, 0, none⟩)] w fun e w' => ∃ (oa : Option Addr) (c : Nat) (ks : List Int), e = .returned (.slice oa qs.L.length c) ∧ ks.length = qs.L.length ∧ Ks st.f st.n ks ∧ Ba.At w' oa ks ∧ JW (YL Y0 oa) B G w' st h qs ∧ Kp Y0 w w' := by
  have j0 := j
  obtain ⟨v, s, q, n⟩ := j
  refine (Wa.all_any s).mono ?_
  rintro e w' ⟨u, ks, rfl, hk, ho, hb⟩
  have hl : ks.length = qs.L.length := by rw [hk.len, r.n]
  have hblk : ∀ oa c, u = .slice oa ks.length c → ∀ a, oa = some a → w.heap.size ≤ a.block ∧ a.block < w'.heap.size := fun oa c e a ea => by
    rcases ho.2 with ⟨q1, -⟩ | ⟨g, cap, cur, q1, q2, q3, -⟩
    · rw [q1] at e; simp only [Value.slice.injEq] at e; rw [← e.1] at ea; cases ea
    · rw [q1] at e; simp only [Value.slice.injEq] at e; rw [← e.1] at ea; cases ea; exact ⟨q2, Ba.heap_lt q3⟩
  obtain ⟨oa, c, rfl, hA⟩ := Ba.owns_at ho
  have hb2 := hblk oa c rfl
  refine ⟨oa, c, ks, by rw [hl], hl, hk, hA, j0.more hb ?_ ?_, j0.kp hb⟩
  · rintro x (hx | ⟨a, ea, rfl⟩)
    · exact .inl hx
    · exact .inr (hb2 a ea).1
  · rintro x (hx | ⟨a, ea, rfl⟩)
    · exact Nat.lt_of_lt_of_le (j0.ylt x hx) hb.size
    · exact (hb2 a ea).2
theorem clockW (j : JW Y0 B G w st h qs) (r : Rw st h qs) (g : Int) (hg : wfk g) (t b : Nat) (l : List Int) (hf : st.f g = some (t, b)) (hb : h b = some l) : Calls Try.prog 16 #[.pointer (some ⟨B, 0, none⟩), .int .i64 g] w fun e w' => ∃ A h', e = .returned (.tuple #[.pointer (some ⟨A, 0, none⟩), .bool true]) ∧ Ext h h' ∧ h' A = some l ∧ JW Y0 B G w' st h' qs ∧ Rw st h' qs ∧ Kp Y0 w w' := by
  obtain ⟨v, s, q, n⟩ := j
  refine (Wa.clock_any s g hg t b l hf hb).mono ?_
  rintro e w' ⟨A, rfl, hA, s1, k1⟩
  have pg := JW.pg q n s1 k1
  exact ⟨A, upd h A l, rfl, Wa.Ext.upd hA, upd_same _ _ _, pg.1, r.ext (Wa.Ext.upd hA), pg.2⟩
theorem tidW (j : JW Y0 B G w st h qs) (g : Int) (hg : wfk g) (t b : Nat) (hf : st.f g = some (t, b)) : Calls Try.prog 15 #[.pointer (some ⟨B, 0, none⟩), .int .i64 g] w fun e w' => e = .returned (.tuple #[.int .i64 (t : Int), .bool true]) ∧ Below w.heap.size w w' := by
  obtain ⟨v, s, q, n⟩ := j
  exact Wa.tid_some s g hg t b hf
theorem getW (j : JW Y0 B G w st h qs) (A : Nat) (l : List Int) (t : Nat) (hA : h A = some l) : Calls Try.prog 17 #[.pointer (some ⟨A, 0, none⟩), .int .i64 (t : Int)] w fun e w' => e = .returned (.int .i64 (nth l t)) ∧ w' = w := by
  have := get_any A l (t : Int) w (j.get hA).1
  rw [gt_nat] at this
  exact this
/-- of two that have tids, by their places among all -/
theorem Rw.two (r : Rw st h qs) (own : Own qs) (hT : qs.T ≤ 256) {ks : List Int} (k : Ks st.f st.n ks) {i m : Nat} (hi : i < ks.length) (hm : m < ks.length) : ∃ (o p : On) (b b2 : Nat) (l l2 : List Int), st.f (Ba.nth ks i) = some (o.t, b) ∧ st.f (Ba.nth ks m) = some (p.t, b2) ∧ h b = some l ∧ h b2 = some l2 ∧ wfk (Ba.nth ks i) ∧ wfk (Ba.nth ks m) ∧ o.t < qs.T ∧ (i ≠ m → o.t ≠ p.t) ∧ nth l2 o.t ≤ nth l o.t := by
  have mi : Ba.nth ks i ∈ ks := by rw [Ba.nth_lt ks i hi]; exact List.getElem_mem _
  have mm : Ba.nth ks m ∈ ks := by rw [Ba.nth_lt ks m hm]; exact List.getElem_mem _
  obtain ⟨a, o, b, l, f1, -, hk1, g1, h1, d1⟩ := r.some_at ((k.mem _).1 mi)
  obtain ⟨c, p, b2, l2, f2, -, hk2, g2, h2, d2⟩ := r.some_at ((k.mem _).1 mm)
  have ho := r.t256 hT hk1
  refine ⟨o, p, b, b2, l, l2, f1, f2, h1, h2, k.wf _ mi, k.wf _ mm, r.tt o (List.mem_of_getElem? hk1), fun hne e => ?_, ?_⟩
  · have := r.td a c o p hk1 hk2 e
    subst this
    rw [hk1] at hk2
    cases hk2
    rw [g1] at g2
    rw [Ba.nth_lt ks i hi, Ba.nth_lt ks m hm] at g2
    rcases Nat.lt_or_ge i m with q | q
    · have := k.lt i m _ _ q (List.getElem?_eq_getElem hi) (List.getElem?_eq_getElem hm)
      omega
    · have := k.lt m i _ _ (by omega) (List.getElem?_eq_getElem hm) (List.getElem?_eq_getElem hi)
      omega
  · rw [d1 o.t ho, d2 o.t ho]
    exact own.le a c o p hk1 hk2
end
end Wq
end Go.Proofs.Ytfimfgffbfjkeaa
