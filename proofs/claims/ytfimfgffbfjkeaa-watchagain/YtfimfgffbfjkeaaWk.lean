/- Layer 16: a watch beside its reference: who retires (plain); both in memory, over this seat's program. -/
import Derived.Test.YtfimfgffbfjkeaaWj
namespace Go.Proofs.Ytfimfgffbfjkeaa
open Go.ChangeShapes Go.WideShapes Go.ChangeAt Go.RowKit
namespace Wq
open Ck
open Ba (KF Bd Nw)
open Wa (Wst IsSet Ext upf upf_same upf_other Used Fo WW WX Xw kp_b)

theorem rt_all {g : Int} {t : Nat} : ∀ {l : List On}, (∀ o ∈ l, o.g ≠ g) → (rtL l g t).length = l.length
  | [], _ => rfl
  | x :: l, h => by
    show (rt1 g t x ++ rtL l g t).length = _
    have hx : rt1 g t x = [⟨x.g, x.t, upF x.F t 0⟩] := by
      unfold rt1
      rw [if_neg]
      simpa using h x List.mem_cons_self
    rw [hx, List.length_append, rt_all (fun o ho => h o (List.mem_cons_of_mem _ ho))]
    show 1 + l.length = l.length + 1
    omega
theorem rt_one {g : Int} {t : Nat} : ∀ {l : List On}, (l.map (·.g)).Nodup → (∃ o ∈ l, o.g = g) → (rtL l g t).length + 1 = l.length
  | [], _, h => by obtain ⟨o, ho, -⟩ := h; cases ho
  | x :: l, hn, h => by
    rw [List.map_cons, List.nodup_cons] at hn
    show (rt1 g t x ++ rtL l g t).length + 1 = _
    by_cases q : x.g = g
    · have hx : rt1 g t x = [] := by
        unfold rt1
        rw [if_pos]
        simpa using q
      have ha : ∀ o ∈ l, o.g ≠ g := fun o ho e => hn.1 (List.mem_map.2 ⟨o, ho, by rw [e, q]⟩)
      rw [hx, List.nil_append, rt_all ha, List.length_cons]
    · have hx : rt1 g t x = [⟨x.g, x.t, upF x.F t 0⟩] := by
        unfold rt1
        rw [if_neg]
        simpa using q
      have he : ∃ o ∈ l, o.g = g := by
        obtain ⟨o, ho, e⟩ := h
        rcases List.mem_cons.1 ho with rfl | ho
        · exact absurd e q
        · exact ⟨o, ho, e⟩
      have := rt_one (t := t) hn.2 he
      rw [hx, List.length_append]
      show 1 + (rtL l g t).length + 1 = l.length + 1
      omega
theorem rt_mem {g : Int} {t : Nat} {l : List On} {p : On} : p ∈ rtL l g t ↔ ∃ o ∈ l, o.g ≠ g ∧ p = ⟨o.g, o.t, upF o.F t 0⟩ := by
  unfold rtL
  rw [List.mem_flatMap]
  constructor
  · rintro ⟨o, ho, hp⟩
    unfold rt1 at hp
    split at hp
    · cases hp
    · rename_i q
      rw [List.mem_singleton] at hp
      exact ⟨o, ho, by simpa using q, hp⟩
  · rintro ⟨o, ho, q, rfl⟩
    refine ⟨o, ho, ?_⟩
    unfold rt1
    rw [if_neg (by simpa using q)]
    exact List.mem_singleton_self _
theorem rt_sub (f : On → Int) (hf : ∀ (o : On) (F : Nat → Int), f ⟨o.g, o.t, F⟩ = f o) (g : Int) (t : Nat) : ∀ l : List On, ((rtL l g t).map f).Sublist (l.map f)
  | [] => List.Sublist.refl _
  | x :: l => by
    show ((rt1 g t x ++ rtL l g t).map f).Sublist _
    have ih := rt_sub f hf g t l
    unfold rt1
    split
    · rw [List.nil_append, List.map_cons]
      exact List.Sublist.cons _ ih
    · rw [List.singleton_append, List.map_cons, List.map_cons, hf]
      exact ih.cons_cons _
theorem nd_of {l : List On} {f : On → Int} (h : (l.map f).Nodup) : ∀ (i j : Nat) (o p : On), l[i]? = some o → l[j]? = some p → f o = f p → i = j := fun i j o p hi hj e => by
  obtain ⟨hi', ei⟩ := List.getElem?_eq_some_iff.1 hi
  obtain ⟨hj', ej⟩ := List.getElem?_eq_some_iff.1 hj
  rw [List.Nodup, List.pairwise_iff_getElem] at h
  rcases Nat.lt_trichotomy i j with q | q | q
  · have := h i j (by rw [List.length_map]; exact hi') (by rw [List.length_map]; exact hj') q
    rw [List.getElem_map, List.getElem_map, ei, ej] at this
    exact absurd e this
  · exact q
  · have := h j i (by rw [List.length_map]; exact hj') (by rw [List.length_map]; exact hi') q
    rw [List.getElem_map, List.getElem_map, ei, ej] at this
    exact absurd e.symm this
theorem of_nd {l : List On} {f : On → Int} (h : ∀ (i j : Nat) (o p : On), l[i]? = some o → l[j]? = some p → f o = f p → i = j) : (l.map f).Nodup := by
  rw [List.Nodup, List.pairwise_iff_getElem]
  intro i j hi hj hij e
  rw [List.length_map] at hi hj
  rw [List.getElem_map, List.getElem_map] at e
  have := h i j l[i] l[j] (List.getElem?_eq_getElem hi) (List.getElem?_eq_getElem hj) e
  omega
/-- somebody is retired -/
theorem Rw.retire {st : Wst} {h h' : Nat → Option (List Int)} {qs : Qst} (r : Rw st h qs) {g : Int} {t b : Nat} (hf : st.f g = some (t, b)) (fo : Fo (upf st.f g none) t (fun _ => false) h h') : Rw { st with n := st.n - 1, f := upf st.f g none } h' { qs with L := rtL qs.L g t } := by
  obtain ⟨k0, o0, hk0, hg0⟩ := r.bw g t b hf
  have ng := of_nd (f := (·.g)) r.nd
  have nt := of_nd (f := fun o => (o.t : Int)) (fun i j o p hi hj (e : (o.t : Int) = (p.t : Int)) => r.td i j o p hi hj (by omega))
  have hlen := rt_one (t := t) ng ⟨o0, List.mem_of_getElem? hk0, hg0⟩
  refine ⟨r.T, r.M, ?_, ?_, fun i j o p hi hj e => ?_, fun p hp => ?_, fun k p hk => ?_, fun g' t' b' e => ?_⟩
  · show st.n - 1 = (rtL qs.L g t).length
    have := r.n
    omega
  · exact nd_of (f := (·.g)) (List.Nodup.sublist (rt_sub (·.g) (fun _ _ => rfl) g t qs.L) ng)
  · exact nd_of (f := fun o => (o.t : Int)) (List.Nodup.sublist (rt_sub (fun o => (o.t : Int)) (fun _ _ => rfl) g t qs.L) nt) i j o p hi hj (by rw [e])
  · obtain ⟨o, ho, -, rfl⟩ := rt_mem.1 hp
    exact r.tt o ho
  · obtain ⟨o, ho, hne, rfl⟩ := rt_mem.1 (List.mem_of_getElem? hk)
    obtain ⟨i, hi⟩ := List.getElem?_of_mem ho
    obtain ⟨b2, l2, f1, f2, f3⟩ := r.fw i o hi
    have f1' : upf st.f g none o.g = some (o.t, b2) := by rw [upf_other _ _ _ _ hne]; exact f1
    have := fo.mem o.g o.t b2 l2 f1' f2
    simp only [Bool.false_eq_true, if_false] at this
    obtain ⟨l3, i3, h3⟩ := this
    exact ⟨b2, l3, f1', h3, good_set f3 i3⟩
  · have hne : g' ≠ g := fun q => by
      have e0 : upf st.f g none g' = some (t', b') := e
      rw [q, upf_same] at e0
      cases e0
    have e' : st.f g' = some (t', b') := by rw [← upf_other st.f g g' none hne]; exact e
    obtain ⟨i, o, hi, hg⟩ := r.bw g' t' b' e'
    have hm : (⟨o.g, o.t, upF o.F t 0⟩ : On) ∈ rtL qs.L g t := rt_mem.2 ⟨o, List.mem_of_getElem? hi, by rw [hg]; exact hne, rfl⟩
    obtain ⟨k, hk⟩ := List.getElem?_of_mem hm
    exact ⟨k, _, hk, hg⟩
/-! ### both in memory -/
theorem turn {Y Y' : Nat → Prop} {B : Nat} {w w' : World} {st : Wst} {h : Nat → Option (List Int)} {mb : Nat} {D : DataW Unit} (s : WX Y B w st h mb D) (hsz : w.heap.size ≤ w'.heap.size) (hb : ∀ k, k < w.heap.size → ¬ Y k → w'.heap[k]? = w.heap[k]?) (hi : ∀ k, Y' k → Y k ∨ w.heap.size ≤ k) (hd : ∀ k, Y' k → k < w'.heap.size) : WX Y' B w' st h mb D := by
  have hlt := s.lt
  have hml := s.ow.lt
  refine ⟨(hb B s.lt s.yb).trans s.hp, ?_, s.mi, s.sz, s.ne, fun q => ?_, fun q => ?_, Wa.cx_ext s.cx (fun k hk hn => hb k hk fun q => hn (.inl q)) ?_ ?_, s.dom, s.inj, s.tid, s.bd⟩
  · obtain ⟨es, clock, hbm, r⟩ := s.ow
    exact ⟨es, clock, (hb mb hml s.ym).trans hbm, r⟩
  · rcases hi B q with q | q
    · exact s.yb q
    · omega
  · rcases hi mb q with q | q
    · exact s.ym q
    · omega
  · rintro k (q | q | q)
    · rcases hi k q with q | q
      · exact .inl (.inl q)
      · exact .inr q
    · exact .inl (.inr (.inl q))
    · exact .inl (.inr (.inr q))
  · rintro k (q | q | q)
    · exact hd k q
    · rw [q]; omega
    · rw [q]; omega
def YQ (Y0 : Nat → Prop) (G : Nat) (v : Value) : Nat → Prop := fun k => Y0 k ∨ QB G v k
def JW (Y0 : Nat → Prop) (B G : Nat) (w : World) (st : Wst) (h : Nat → Option (List Int)) (qs : Qst) : Prop := ∃ v, WW (YQ Y0 G v) B w st h ∧ QX w G qs v ∧ ∀ k, QB G v k → ¬ Y0 k
section
variable {Y0 Y1 : Nat → Prop} {B G : Nat} {w w' : World} {st st' : Wst} {h h' : Nat → Option (List Int)} {qs qs' : Qst}
theorem JW.below (j : JW Y0 B G w st h qs) (b : Below w.heap.size w w') : JW Y0 B G w' st h qs := by
  obtain ⟨v, s, r, n⟩ := j
  exact ⟨v, s.below b, r.below b, n⟩
theorem JW.ylt (j : JW Y0 B G w st h qs) : ∀ k, Y0 k → k < w.heap.size := by
  obtain ⟨v, s, r, n⟩ := j
  exact fun k q => s.ylt k (.inl q)
theorem JW.kp (j : JW Y0 B G w st h qs) (b : Below w.heap.size w w') : Kp Y0 w w' := Wa.Kp.of b j.ylt
theorem JW.inj (j : JW Y0 B G w st h qs) : ∀ g g' t t' b, st.f g = some (t, b) → st.f g' = some (t', b) → g = g' := by
  obtain ⟨v, ⟨mb, D, s⟩, r, n⟩ := j
  exact s.inj
theorem JW.bd (j : JW Y0 B G w st h qs) : st.T ≤ 256 ∧ 1 ≤ st.M ∧ st.M ≤ 1048576 ∧ st.n ≤ 10000 := by
  obtain ⟨v, ⟨mb, D, s⟩, r, n⟩ := j
  exact s.bd
theorem JW.get (j : JW Y0 B G w st h qs) {b : Nat} {l : List Int} (e : h b = some l) : CK w b l ∧ Canon l ∧ Valid l := by
  obtain ⟨v, s, r, n⟩ := j
  exact s.get e
theorem JW.pg {v : Value} (r : QX w G qs v) (n : ∀ k, QB G v k → ¬ Y0 k) (s : WW (YQ Y0 G v) B w' st' h') (k : Kp (YQ Y0 G v) w w') : JW Y0 B G w' st' h' qs ∧ Kp Y0 w w' :=
  ⟨⟨v, s, r.blk fun x q => k.block x (.inr q), n⟩, Wa.Kp.mono k fun _ q => .inl q⟩
theorem JW.rf {v v' : Value} (s : WW (YQ Y0 G v) B w st h) (n : ∀ k, QB G v k → ¬ Y0 k) (r : QX w' G qs' v') (k : KF (QB G v) w w') (hn : ∀ x, QB G v' x → QB G v x ∨ w.heap.size ≤ x) : JW Y0 B G w' st h qs' ∧ Kp Y0 w w' := by
  have hy := s.ylt
  obtain ⟨mb, D, s⟩ := s
  refine ⟨⟨v', ⟨mb, D, turn s k.size (fun x hx q => k.block x hx fun e => q (.inr e)) ?_ ?_⟩, r, ?_⟩, ⟨k.os, k.tape, k.output, k.size, fun x q => k.block x (hy x (.inl q)) fun e => n x e q⟩⟩
  · rintro x (q | q)
    · exact .inl (.inl q)
    · rcases hn x q with q | q
      · exact .inl (.inr q)
      · exact .inr q
  · rintro x (q | q)
    · exact Nat.lt_of_lt_of_le (hy x (.inl q)) k.size
    · exact r.rlt x q
  · intro x q y
    rcases hn x q with q | q
    · exact n x q y
    · have := hy x (.inl y); omega
theorem JW.more (j : JW Y0 B G w st h qs) (b : Below w.heap.size w w') (hz : ∀ x, Y1 x → Y0 x ∨ w.heap.size ≤ x) (hd : ∀ x, Y1 x → x < w'.heap.size) : JW Y1 B G w' st h qs := by
  obtain ⟨v, ⟨mb, D, s⟩, r, n⟩ := j
  refine ⟨v, ⟨mb, D, s.more b ?_ ?_⟩, r.below b, fun k q y => ?_⟩
  · rintro k (q | q)
    · rcases hz k q with q | q
      · exact .inl (.inl q)
      · exact .inr q
    · exact .inl (.inr q)
  · rintro k (q | q)
    · exact hd k q
    · exact Nat.lt_of_lt_of_le (r.rlt k q) b.size
  · rcases hz k y with y | y
    · exact n k q y
    · have := r.rlt k q; omega
theorem JW.new (j : JW Y0 B G w st h qs) (o : Obj) : JW (fun x => Y0 x ∨ x = w.heap.size) B G (w.alloc o) st h qs :=
  j.more (below_alloc _ _) (fun x q => q.elim .inl fun e => .inr (by omega)) (fun x q => by rw [World.size_alloc]; rcases q with q | q; exact Nat.lt_succ_of_lt (j.ylt x q); omega)
theorem JW.less (j : JW Y0 B G w st h qs) (hz : ∀ x, Y1 x → Y0 x) : JW Y1 B G w st h qs := j.more (Below.refl _ _) (fun x q => .inl (hz x q)) fun x q => j.ylt x (hz x q)
end
end Wq
end Go.Proofs.Ytfimfgffbfjkeaa
