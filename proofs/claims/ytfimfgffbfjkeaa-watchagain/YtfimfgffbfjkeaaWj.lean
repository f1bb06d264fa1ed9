/- Layer 16: a watch and its reference say the same (plain), over this seat's program. -/
import Derived.Test.YtfimfgffbfjkeaaUi
import Derived.Test.YtfimfgffbfjkeaaWr8
namespace Go.Proofs.Ytfimfgffbfjkeaa
open Go.ChangeShapes Go.WideShapes Go.ChangeAt Go.RowKit
namespace Wq
open Ck
open Wa (Wst IsSet Ext upf upf_same upf_other Used Fo WW WX)

/-- a clock's list and a reference's clock are the same -/
def Good (l : List Int) (F : Nat → Int) : Prop := ∀ k, k < 256 → nth l k = F k
theorem pig : ∀ (T : Nat) (l : List Nat), l.Nodup → (∀ x ∈ l, x < T) → l.length ≤ T
  | 0, l, _, h => by
    cases l with
    | nil => exact Nat.le_refl _
    | cons x l => exact absurd (h x List.mem_cons_self) (Nat.not_lt_zero _)
  | T + 1, l, hn, h => by
    have h1 := pig T (l.erase T) (hn.erase T) (fun x hx => by
      have hx' := List.mem_of_mem_erase hx
      have := h x hx'
      have hne : x ≠ T := fun e => by
        subst e
        exact (List.Nodup.not_mem_erase hn) hx
      omega)
    have h2 : l.length ≤ (l.erase T).length + 1 := by
      rw [List.length_erase]
      split <;> omega
    omega
theorem cov : ∀ (T : Nat) (l : List Nat), (∀ t, t < T → t ∈ l) → T ≤ l.length
  | 0, _, _ => Nat.zero_le _
  | T + 1, l, h => by
    have hT := h T (Nat.lt_succ_self T)
    have h1 := cov T (l.erase T) (fun t ht => (List.mem_erase_of_ne (by omega)).2 (h t (by omega)))
    have h2 := List.length_pos_of_mem hT
    rw [List.length_erase_of_mem hT] at h1
    omega
/-- a watch and the reference's -/
structure Rw (st : Wst) (h : Nat → Option (List Int)) (qs : Qst) : Prop where
  T : st.T = qs.T
  M : st.M = qs.M
  n : st.n = qs.L.length
  nd : ∀ (i j : Nat) (o p : On), qs.L[i]? = some o → qs.L[j]? = some p → o.g = p.g → i = j
  td : ∀ (i j : Nat) (o p : On), qs.L[i]? = some o → qs.L[j]? = some p → o.t = p.t → i = j
  tt : ∀ o ∈ qs.L, o.t < qs.T
  fw : ∀ (k : Nat) (o : On), qs.L[k]? = some o → ∃ b l, st.f o.g = some (o.t, b) ∧ h b = some l ∧ Good l o.F
  bw : ∀ g t b, st.f g = some (t, b) → ∃ (k : Nat) (o : On), qs.L[k]? = some o ∧ o.g = g
section
variable {st : Wst} {h h' : Nat → Option (List Int)} {qs : Qst}
theorem Rw.at (r : Rw st h qs) (g : Int) : (st.f g = none ∧ at_ qs.L g = -1) ∨ ∃ (k : Nat) (o : On) (b : Nat) (l : List Int), st.f g = some (o.t, b) ∧ at_ qs.L g = (k : Int) ∧ qs.L[k]? = some o ∧ o.g = g ∧ h b = some l ∧ Good l o.F := by
  rcases at_inv (l := qs.L) (g := g) with ⟨e, no⟩ | ⟨k, o, e, hk, hg, -⟩
  · refine .inl ⟨?_, e⟩
    cases hf : st.f g with
    | none => rfl
    | some x =>
      obtain ⟨t, b⟩ := x
      obtain ⟨k, o, hk, hg⟩ := r.bw g t b hf
      exact absurd hg (no o (List.mem_of_getElem? hk))
  · obtain ⟨b, l, f1, f2, f3⟩ := r.fw k o hk
    exact .inr ⟨k, o, b, l, by rw [← hg]; exact f1, e, hk, hg, f2, f3⟩
theorem Rw.ext (r : Rw st h qs) (e : Ext h h') : Rw st h' qs :=
  ⟨r.T, r.M, r.n, r.nd, r.td, r.tt, fun k o hk => by
    obtain ⟨b, l, f1, f2, f3⟩ := r.fw k o hk
    exact ⟨b, l, f1, e _ _ f2, f3⟩, r.bw⟩
theorem us_iff (r : Rw st h qs) (t : Nat) : us qs.L t = true ↔ Used st.f t := by
  unfold us
  rw [List.any_eq_true]
  constructor
  · rintro ⟨o, ho, e⟩
    obtain ⟨k, hk⟩ := List.getElem?_of_mem ho
    obtain ⟨b, l, f1, -⟩ := r.fw k o hk
    have : o.t = t := by
      have : (o.t : Int) = (t : Int) := by simpa using e
      omega
    rw [this] at f1
    exact ⟨o.g, b, f1⟩
  · rintro ⟨g, b, e⟩
    obtain ⟨k, o, hk, hg⟩ := r.bw g t b e
    obtain ⟨b', l, f1, -⟩ := r.fw k o hk
    rw [hg, e] at f1
    cases f1
    exact ⟨o, List.mem_of_getElem? hk, by simp⟩
theorem Rw.nodup (r : Rw st h qs) : (qs.L.map (·.t)).Nodup := by
  rw [List.Nodup, List.pairwise_iff_getElem]
  intro i j hi hj hij e
  rw [List.length_map] at hi hj
  rw [List.getElem_map, List.getElem_map] at e
  have := r.td i j qs.L[i] qs.L[j] (List.getElem?_eq_getElem hi) (List.getElem?_eq_getElem hj) e
  omega
/-- a tid is free just if fewer are in use than there are -/
theorem Rw.free (r : Rw st h qs) : (qs.T ≤ st.n ∧ frI qs.L qs.T = -1) ∨ (st.n < qs.T ∧ ∃ t : Nat, frI qs.L qs.T = (t : Int) ∧ t < qs.T ∧ ¬ Used st.f t ∧ ∀ j, j < t → Used st.f j) := by
  have hall : ∀ x ∈ qs.L.map (·.t), x < qs.T := fun x hx => by
    obtain ⟨o, ho, rfl⟩ := List.mem_map.1 hx
    exact r.tt o ho
  cases hf : (List.range qs.T).find? (fun t => !us qs.L t) with
  | none =>
    refine .inl ⟨?_, by simp [frI, hf]⟩
    have hu : ∀ t, t < qs.T → us qs.L t = true := fun t ht => by
      have := List.find?_eq_none.1 hf t (List.mem_range.2 ht)
      simpa using this
    rw [r.n]
    have hsub := cov qs.T (qs.L.map (·.t)) (fun t ht => by
      have := hu t ht
      unfold us at this
      obtain ⟨o, ho, e⟩ := List.any_eq_true.1 this
      have e2 : (o.t : Int) = (t : Int) := by simpa using e
      exact List.mem_map.2 ⟨o, ho, by omega⟩)
    rw [List.length_map] at hsub
    exact hsub
  | some t =>
    obtain ⟨h1, i, hi, he, hlt⟩ := List.find?_eq_some_iff_getElem.1 hf
    have hiT : i < qs.T := by simpa using hi
    have hit : i = t := by simpa using he
    subst hit
    have hnu : us qs.L i = false := by simpa using h1
    have hbl : ∀ j, j < i → us qs.L j = true := fun j hj => by
      have := hlt j hj
      simpa using this
    refine .inr ⟨?_, i, by simp [frI, hf], hiT, (fun q => by rw [(us_iff r i).2 q] at hnu; cases hnu), fun j hj => (us_iff r j).1 (hbl j hj)⟩
    rw [r.n]
    have hni : i ∉ qs.L.map (·.t) := fun q => by
      obtain ⟨o, ho, e⟩ := List.mem_map.1 q
      have : us qs.L i = true := by
        unfold us
        rw [List.any_eq_true]
        exact ⟨o, ho, by simp [e]⟩
      rw [this] at hnu
      cases hnu
    have := pig qs.T (i :: qs.L.map (·.t)) (List.nodup_cons.2 ⟨hni, r.nodup⟩) (fun x hx => by
      rcases List.mem_cons.1 hx with rfl | hx
      · exact hiT
      · exact hall x hx)
    rw [List.length_cons, List.length_map] at this
    omega
theorem good_set {l l' : List Int} {F : Nat → Int} {t : Nat} {x : Int} (g : Good l F) (i : IsSet l l' t x) : Good l' (upF F t x) := fun k hk => by
  rw [i.2.2 k]
  unfold upF
  split
  · rfl
  · exact g k hk
theorem good_join {l m : List Int} {F H : Nat → Int} (g : Good l F) (q : Good m H) : Good (jn l m) (jf F H 256) := fun k hk => by
  rw [nth_jn, g k hk, q k hk]
  unfold jf
  rw [if_pos hk]
/-- somebody new -/
theorem Rw.spawn (r : Rw st h qs) {c : Int} {t A : Nat} {l' : List Int} {F : Nat → Int} (hc : st.f c = none) (ht : t < qs.T) (hu : ¬ Used st.f t) (hA : h A = none) (g : Good l' F) : Rw { st with n := st.n + 1, f := upf st.f c (some (t, A)) } (upd h A l') { qs with L := qs.L ++ [⟨c, t, F⟩] } := by
  have hno : ∀ (k : Nat) (o : On), qs.L[k]? = some o → o.g ≠ c ∧ o.t ≠ t := fun k o hk => by
    obtain ⟨b, l, f1, -⟩ := r.fw k o hk
    refine ⟨fun e => ?_, fun e => hu ⟨o.g, b, by rw [← e]; exact f1⟩⟩
    rw [e, hc] at f1
    cases f1
  have cas : ∀ (i : Nat) (o : On), (qs.L ++ [⟨c, t, F⟩])[i]? = some o → (i < qs.L.length ∧ qs.L[i]? = some o) ∨ (i = qs.L.length ∧ o = ⟨c, t, F⟩) := fun i o hi => by
    by_cases q : i < qs.L.length
    · rw [List.getElem?_append_left q] at hi
      exact .inl ⟨q, hi⟩
    · rw [List.getElem?_append_right (by omega)] at hi
      by_cases q2 : i - qs.L.length = 0
      · rw [q2] at hi
        cases hi
        exact .inr ⟨by omega, rfl⟩
      · rw [List.getElem?_eq_none (by simp; omega)] at hi
        cases hi
  refine ⟨r.T, r.M, ?_, fun i j o p hi hj e => ?_, fun i j o p hi hj e => ?_, fun o ho => ?_, fun k o hk => ?_, fun g' t' b' e => ?_⟩
  · show st.n + 1 = (qs.L ++ [_]).length
    rw [List.length_append, r.n]
    rfl
  · rcases cas i o hi with ⟨-, hi⟩ | ⟨ei, rfl⟩
    · rcases cas j p hj with ⟨-, hj⟩ | ⟨ej, rfl⟩
      · exact r.nd i j o p hi hj e
      · exact absurd e (hno i o hi).1
    · rcases cas j p hj with ⟨-, hj⟩ | ⟨ej, rfl⟩
      · exact absurd e.symm (hno j p hj).1
      · omega
  · rcases cas i o hi with ⟨-, hi⟩ | ⟨ei, rfl⟩
    · rcases cas j p hj with ⟨-, hj⟩ | ⟨ej, rfl⟩
      · exact r.td i j o p hi hj e
      · exact absurd e (hno i o hi).2
    · rcases cas j p hj with ⟨-, hj⟩ | ⟨ej, rfl⟩
      · exact absurd e.symm (hno j p hj).2
      · omega
  · rcases List.mem_append.1 ho with ho | ho
    · exact r.tt o ho
    · rw [List.mem_singleton] at ho
      subst ho
      exact ht
  · rcases cas k o hk with ⟨-, hk⟩ | ⟨ei, rfl⟩
    · obtain ⟨b, l, f1, f2, f3⟩ := r.fw k o hk
      refine ⟨b, l, ?_, ?_, f3⟩
      · show upf st.f c _ o.g = _
        rw [upf_other _ _ _ _ (hno k o hk).1]
        exact f1
      · rw [upd_other _ _ _ _ (fun e => by rw [e, hA] at f2; cases f2)]
        exact f2
    · exact ⟨A, l', upf_same _ _ _, upd_same _ _ _, g⟩
  · show ∃ (k : Nat) (o : On), (qs.L ++ [_])[k]? = some o ∧ o.g = g'
    by_cases q : g' = c
    · exact ⟨qs.L.length, _, by rw [List.getElem?_append_right (Nat.le_refl _), Nat.sub_self]; rfl, q.symm⟩
    · have e' : st.f g' = some (t', b') := by rw [← upf_other st.f c g' (some (t, A)) q]; exact e
      obtain ⟨k, o, hk, hg⟩ := r.bw g' t' b' e'
      exact ⟨k, o, by rw [List.getElem?_append_left (List.getElem?_eq_some_iff.1 hk).1]; exact hk, hg⟩
/-- one's clock has changed -/
theorem Rw.set (r : Rw st h qs) (inj : ∀ g g' t t' b, st.f g = some (t, b) → st.f g' = some (t', b) → g = g') {k : Nat} {o : On} {b : Nat} {l' : List Int} {F' : Nat → Int} (hk : qs.L[k]? = some o) (hf : st.f o.g = some (o.t, b)) (g : Good l' F') : Rw st (upd h b l') { qs with L := qs.L.set k ⟨o.g, o.t, F'⟩ } := by
  have hkl := (List.getElem?_eq_some_iff.1 hk).1
  have cas : ∀ (i : Nat) (p : On), (qs.L.set k ⟨o.g, o.t, F'⟩)[i]? = some p → (i = k ∧ p = ⟨o.g, o.t, F'⟩) ∨ (i ≠ k ∧ qs.L[i]? = some p) := fun i p hi => by
    by_cases q : i = k
    · subst q
      rw [List.getElem?_set_self hkl] at hi
      cases hi
      exact .inl ⟨rfl, rfl⟩
    · rw [List.getElem?_set_ne (Ne.symm q)] at hi
      exact .inr ⟨q, hi⟩
  refine ⟨r.T, r.M, ?_, fun i j p p' hi hj e => ?_, fun i j p p' hi hj e => ?_, fun p hp => ?_, fun i p hi => ?_, fun g' t' b' e => ?_⟩
  · show st.n = (qs.L.set k _).length
    rw [List.length_set]
    exact r.n
  · rcases cas i p hi with ⟨ei, rfl⟩ | ⟨ei, hi⟩
    · rcases cas j p' hj with ⟨ej, rfl⟩ | ⟨ej, hj⟩
      · omega
      · exact absurd (r.nd j k p' o hj hk e.symm) ej
    · rcases cas j p' hj with ⟨ej, rfl⟩ | ⟨ej, hj⟩
      · exact absurd (r.nd i k p o hi hk e) ei
      · exact r.nd i j p p' hi hj e
  · rcases cas i p hi with ⟨ei, rfl⟩ | ⟨ei, hi⟩
    · rcases cas j p' hj with ⟨ej, rfl⟩ | ⟨ej, hj⟩
      · omega
      · exact absurd (r.td j k p' o hj hk e.symm) ej
    · rcases cas j p' hj with ⟨ej, rfl⟩ | ⟨ej, hj⟩
      · exact absurd (r.td i k p o hi hk e) ei
      · exact r.td i j p p' hi hj e
  · obtain ⟨i, hi⟩ := List.getElem?_of_mem hp
    rcases cas i p hi with ⟨ei, rfl⟩ | ⟨ei, hi⟩
    · exact r.tt o (List.mem_of_getElem? hk)
    · exact r.tt p (List.mem_of_getElem? hi)
  · rcases cas i p hi with ⟨ei, rfl⟩ | ⟨ei, hi⟩
    · exact ⟨b, l', hf, upd_same _ _ _, g⟩
    · obtain ⟨b2, l2, f1, f2, f3⟩ := r.fw i p hi
      refine ⟨b2, l2, f1, ?_, f3⟩
      rw [upd_other _ _ _ _ (fun e => ?_)]
      · exact f2
      · rw [e] at f1
        exact ei (r.nd i k p o hi hk (inj _ _ _ _ _ f1 hf))
  · obtain ⟨i, p, hi, hg⟩ := r.bw g' t' b' e
    by_cases q : i = k
    · subst q
      rw [hk] at hi
      cases hi
      exact ⟨i, _, List.getElem?_set_self hkl, hg⟩
    · exact ⟨i, p, by rw [List.getElem?_set_ne (Ne.symm q)]; exact hi, hg⟩
end
end Wq
end Go.Proofs.Ytfimfgffbfjkeaa
