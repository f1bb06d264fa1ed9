/- At each place each tid is one's at most (plain). -/
import Derived.Test.YtledfepeoajgoaaUa9
namespace Go.Proofs.Ytledfepeoajgoaa
open Go.ChangeShapes Go.WideShapes Go.ChangeAt Go.RowKit
namespace Rk
open Ba

/-- of one tid one is gone where the other one begins -/
def Ap (x y : Rd) : Prop := x.t = y.t → (x.b = true ∧ x.l ≤ y.f) ∨ (y.b = true ∧ y.l ≤ x.f)
theorem Ap.symm {x y : Rd} (h : Ap x y) : Ap y x := fun e => (h e.symm).symm
/-- each two of them -/
def Un (l : List Rd) : Prop := l.Pairwise Ap
theorem Un.ins {l : List Rd} {i : Nat} {e : Rd} (h : Un l) (he : ∀ y ∈ l, Ap e y) : Un (insL l i e) := by
  unfold Un insL at *
  have h' : (l.take i ++ l.drop i).Pairwise Ap := by rw [List.take_append_drop]; exact h
  obtain ⟨h1, h2, h3⟩ := List.pairwise_append.1 h'
  refine List.pairwise_append.2 ⟨h1, List.pairwise_cons.2 ⟨fun y hy => he y (List.mem_of_mem_drop hy), h2⟩, fun x hx y hy => ?_⟩
  rcases List.mem_cons.1 hy with q | q
  · subst q; exact (he x (List.mem_of_mem_take hx)).symm
  · exact h3 x hx y q
theorem Un.set : ∀ {l : List Rd} {k : Nat} {x y : Rd}, Un l → l[k]? = some x → (∀ z, Ap x z → Ap y z) → Un (l.set k y)
  | [], _, _, _, _, h, _ => by simp at h
  | z :: l, 0, x, y, h, hx, hy => by
    simp at hx; subst hx
    obtain ⟨h1, h2⟩ := List.pairwise_cons.1 h
    exact List.pairwise_cons.2 ⟨fun u hu => hy u (h1 u hu), h2⟩
  | z :: l, k + 1, x, y, h, hx, hy => by
    obtain ⟨h1, h2⟩ := List.pairwise_cons.1 h
    have hx' : l[k]? = some x := by simpa using hx
    refine List.pairwise_cons.2 ⟨fun u hu => ?_, Un.set h2 hx' hy⟩
    rcases List.mem_or_eq_of_mem_set hu with q | q
    · exact h1 u q
    · subst q; exact (hy z (h1 x (List.mem_of_getElem? hx')).symm).symm
theorem Un.born {l : List Rd} (h : Un l) (hg : Gd l) (g t a : Int) : Un (bnL l g t a) := by
  unfold bnL
  split
  · exact h
  · split
    · exact h
    · rename_i q
      simp at q
      refine h.ins fun y hy e => ?_
      have hq : tkn l t a = false := q.2
      unfold tkn at hq
      rw [List.any_eq_false] at hq
      have := hq y hy
      have e' : y.t = t := e.symm
      simp [e', st, lv_ok (hg.ok y hy)] at this
      exact .inr ⟨this.1, this.2⟩
theorem Un.gone {l : List Rd} (h : Un l) (hg : Gd l) (g a c : Int) : Un (gnL l g a c) := by
  unfold gnL
  split
  · exact h
  · split
    · exact h
    · rename_i x hf
      split
      · exact h
      · rename_i q
        obtain ⟨h1, h2⟩ := fd_some hg.srt hf
        simp [lv_ok (hg.ok x (List.mem_of_getElem? h1))] at q
        refine Un.set h h1 fun z hz e => ?_
        rcases hz e with r | r
        · rw [q.1] at r; cases r.1
        · exact .inr r
/-- how many have the tid -/
def cnt (l : List Rd) (t a : Int) : Nat := (l.filter fun x => hsT x t a).length
theorem cnt_take {l : List Rd} {k : Nat} {x : Rd} (h : l[k]? = some x) (t a : Int) : cnt (l.take (k + 1)) t a = cnt (l.take k) t a + if hsT x t a then 1 else 0 := by
  unfold cnt
  rw [List.take_add_one, h, List.filter_append, List.length_append]
  congr 1
  cases hx : hsT x t a <;> simp [hx]
theorem cnt_le (l : List Rd) (t a : Int) : cnt l t a ≤ l.length := List.length_filter_le _ _
theorem cnt_zero {l : List Rd} {t a : Int} (h : ∀ x ∈ l, hsT x t a = false) : cnt l t a = 0 := by
  unfold cnt
  rw [List.length_eq_zero_iff, List.filter_eq_nil_iff]
  intro x hx
  simp [h x hx]
theorem not_both {x y : Rd} {t a : Int} (hx : Ok x) (hy : Ok y) (h : Ap x y) (px : hsT x t a = true) : hsT y t a = false := by
  cases py : hsT y t a
  · rfl
  · exfalso
    unfold hsT st at px py
    rw [lv_ok hx] at px
    rw [lv_ok hy] at py
    simp at px py
    obtain ⟨p1, p2, p3⟩ := px
    obtain ⟨q1, q2, q3⟩ := py
    rcases h (by omega) with ⟨r1, r2⟩ | ⟨r1, r2⟩
    · rw [r1] at p3
      simp at p3
      omega
    · rw [r1] at q3
      simp at q3
      omega
theorem cnt_is : ∀ {l : List Rd} (t a : Int), (∀ x ∈ l, Ok x) → Un l → cnt l t a = if (ow1 l t a).isSome then 1 else 0
  | [], t, a, _, _ => rfl
  | x :: l, t, a, hok, hu => by
    obtain ⟨h1, h2⟩ := List.pairwise_cons.1 hu
    cases hx : hsT x t a with
    | true =>
      have e : cnt (x :: l) t a = cnt l t a + 1 := by unfold cnt; rw [List.filter_cons, if_pos hx]; rfl
      have z : cnt l t a = 0 := cnt_zero fun y hy => not_both (hok x (by simp)) (hok y (by simp [hy])) (h1 y hy) hx
      have o : ow1 (x :: l) t a = some x := by unfold ow1; simp [hx]
      rw [e, z, o]
      rfl
    | false =>
      have e : cnt (x :: l) t a = cnt l t a := by unfold cnt; rw [List.filter_cons, if_neg (by simp [hx])]
      have o : ow1 (x :: l) t a = ow1 l t a := by unfold ow1; rw [List.find?_cons, hx]
      rw [e, o]
      exact cnt_is t a (fun y hy => hok y (by simp [hy])) h2
theorem ow_has {l : List Rd} {t a : Int} {x : Rd} (h : ow1 l t a = some x) : x ∈ l ∧ hsT x t a = true := by
  unfold ow1 at h
  exact ⟨List.mem_of_find?_eq_some h, by simpa using List.find?_some h⟩
theorem Un.one : Un [nb 0 0 (-1)] := List.pairwise_singleton _ _
/-- a table of whatever steps -/
structure Go (K : Nat) (l : List Rd) : Prop where
  gd : Gd l
  un : Un l
  le : l.length ≤ K + 1
theorem Go.one : Go 0 [nb 0 0 (-1)] := ⟨Gd.one, Un.one, Nat.le_refl _⟩
theorem Go.mono {K M : Nat} {l : List Rd} (h : Go K l) (hK : K ≤ M) : Go M l := ⟨h.gd, h.un, by have := h.le; omega⟩
theorem Go.born {K : Nat} {l : List Rd} (h : Go K l) (g t a : Int) : Go (K + 1) (bnL l g t a) := ⟨h.gd.born g t a, h.un.born h.gd g t a, by have := h.le; have := len_born l g t a; omega⟩
theorem Go.gone {K : Nat} {l : List Rd} (h : Go K l) (g a c : Int) : Go (K + 1) (gnL l g a c) := ⟨h.gd.gone g a c, h.un.gone h.gd g a c, by have := h.le; have := len_gone l g a c; omega⟩
end Rk
end Go.Proofs.Ytledfepeoajgoaa
