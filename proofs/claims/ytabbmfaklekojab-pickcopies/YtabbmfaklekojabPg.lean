/- Package pick: Next and Draw of whatever cursor; the reference's, over this seat's program. -/
import Derived.Test.YtabbmfaklekojabPe
namespace Go.Proofs.Ytabbmfaklekojab
open Go.ChangeShapes Go.WideShapes Go.ChangeAt Go.RowKit
namespace Pk
open Ba

def nok (p : List Int) : Bool := !p.isEmpty
def dv (d : List Int) (n : Int) : Int := if n < 1 ∨ 64 < n then 0 else if n = 1 then 0 else nth d 0 % n
def de (n : Int) : Int := if n < 1 ∨ 64 < n then 1 else 0
def dr (d : List Int) (n : Int) : List Int := if n < 1 ∨ 64 < n ∨ n = 1 then d else d.tail
theorem dr_sub {d : List Int} {n x : Int} (h : x ∈ dr d n) : x ∈ d := by
  unfold dr at h
  split at h
  · exact h
  · exact List.mem_of_mem_tail h
theorem next_any (C : Nat) (p d : List Int) (w : World) (h : Cur w C p d) :
    Calls Try.prog 13 #[.pointer (some ⟨C, 0, none⟩)] w fun r w' => r = .returned (.tuple #[.int .i64 (nth p 0), .bool (nok p)]) ∧ Cur w' C p.tail d ∧ KB C w w' := by
  cases p with
  | nil =>
    refine (next_none C d w h).mono ?_
    rintro r w1 ⟨rfl, b1⟩
    exact ⟨rfl, h.below b1, KB.of b1⟩
  | cons x p => exact next_some C x p d w h
theorem draw_any (C : Nat) (p d : List Int) (n : Int) (w : World) (h : Cur w C p d) (hd : ∀ x ∈ d, 0 ≤ x) :
    Calls Try.prog 11 #[.pointer (some ⟨C, 0, none⟩), .int .i64 n] w fun r w' => r = .returned (.tuple #[.int .i64 (dv d n), .int .i64 (de n)]) ∧ Cur w' C p (dr d n) ∧ KB C w w' := by
  by_cases h1 : n < 1 ∨ 64 < n
  · refine (draw_arg _ n w h1).mono ?_
    rintro r w1 ⟨rfl, rfl⟩
    simp only [dv, de, dr, if_pos h1, if_pos (show n < 1 ∨ 64 < n ∨ n = 1 by omega)]
    exact ⟨by first | rfl | trivial, h, KB.refl _ _⟩
  · by_cases h2 : n = 1
    · subst h2
      refine (draw_one _ w).mono ?_
      rintro r w1 ⟨rfl, rfl⟩
      exact ⟨rfl, h, KB.refl _ _⟩
    · simp only [dv, de, dr, if_neg h1, if_neg h2, if_neg (show ¬ (n < 1 ∨ 64 < n ∨ n = 1) by omega)]
      cases d with
      | nil =>
        refine (draw_none C p n w (by omega) h).mono ?_
        rintro r w1 ⟨rfl, b1⟩
        exact ⟨by simp [nth], h.below b1, KB.of b1⟩
      | cons x d => exact draw_some C x p d n w (by omega) (hd x (by simp)) h

/-- the reference's cursor lies in block R: of lists below N, p and d are left -/
def RCur (w : World) (R N : Nat) (p d : List Int) : Prop :=
  ∃ oa ca ob cb P D p0 d0, w.heap[R]? = some (.cells #[.slice oa (p0 : List Int).length ca, .slice ob (d0 : List Int).length cb, .int .i64 ((P : Nat) : Int), .int .i64 ((D : Nat) : Int)] 39 (0, 0)) ∧ (At w oa p0 ∧ P ≤ p0.length ∧ p = p0.drop P ∧ p0.length ≤ 200 ∧ (0 < p0.length → ∀ a, oa = some a → a.block < N)) ∧ At w ob d0 ∧ D ≤ d0.length ∧ d = d0.drop D ∧ d0.length ≤ 64 ∧ (0 < d0.length → ∀ a, ob = some a → a.block < N)
theorem RCur.kb {w w' : World} {R N Q : Nat} {p d : List Int} (h : RCur w R N p d) (k : KB Q w w') (h1 : R ≠ Q) (h2 : N ≤ Q) : RCur w' R N p d := by
  obtain ⟨oa, ca, ob, cb, P, D, p0, d0, q0, ⟨q1, q2, q3, q4, q5⟩, q6, q7, q8, q9, q10⟩ := h
  exact ⟨oa, ca, ob, cb, P, D, p0, d0, k.heap q0 h1, ⟨k.at' q1 fun h a e => by have := q5 h a e; omega, q2, q3, q4, q5⟩, k.at' q6 fun h a e => by have := q10 h a e; omega, q7, q8, q9, q10⟩
theorem RCur.below {w w' : World} {R N : Nat} {p d : List Int} (h : RCur w R N p d) (hb : Below w.heap.size w w') : RCur w' R N p d := by
  obtain ⟨oa, ca, ob, cb, P, D, p0, d0, q0, ⟨q1, q2, q3, q4, q5⟩, q6, q7, q8, q9, q10⟩ := h
  exact ⟨oa, ca, ob, cb, P, D, p0, d0, heap_below q0 hb, ⟨q1.below hb, q2, q3, q4, q5⟩, q6.below hb, q7, q8, q9, q10⟩
theorem nth_drop (l : List Int) (P : Nat) : nth (l.drop P) 0 = nth l P := by simp [nth]
theorem nok_drop (l : List Int) (P : Nat) : nok (l.drop P) = decide (P < l.length) := by
  unfold nok
  cases h : l.drop P with
  | nil =>
    rw [List.drop_eq_nil_iff] at h
    simp [h]
  | cons x t =>
    have := congrArg List.length h
    simp at this
    simp
    omega

set_option maxHeartbeats 1600000 in
theorem rnext_any (R N : Nat) (p d : List Int) (w : World) (h : RCur w R N p d) (hN : N ≤ R) :
    Calls Try.prog 14 #[.pointer (some ⟨R, 0, none⟩)] w fun r w' => r = .returned (.tuple #[.int .i64 (nth p 0), .bool (nok p)]) ∧ RCur w' R N p.tail d ∧ KB R w w' := by
  obtain ⟨oa, ca, ob, cb, P, D, p0, d0, q0, ⟨q1, q2, q3, q4, q5⟩, q6, q7, q8, q9, q10⟩ := h
  subst q3 q8
  rw [nth_drop, nok_drop]
  have c0 := cell_of q0 0
  have c2 := cell_of q0 2
  have f2 := frozen_of q0 2
  simp at c0 c2
  have H := hide q0
  have H1 := hide q1
  have H6 := hide q6
  by_cases hP : P < p0.length
  · have hP' : decide ((p0.length : Int) ≤ (P : Int)) = false := by simp; omega
    have hPd : decide (P < p0.length) = true := by simp; omega
    rw [hPd]
    obtain ⟨b, off, rfl, hc⟩ := q1 P hP
    have hb : b < N := q5 (by omega) _ rfl
    have hc' : (w.setCell ⟨R, 2, none⟩ (.int .i64 ((P : Int) + 1))).cell? ⟨b, off + P, none⟩ = some (.int .i64 (nth p0 P)) := ((KB.refl R w).setCell 2 _).cell hc (by omega)
    have hlt' : (P : Int) < (p0.length : Int) := by omega
    have X := hide (Ba.heap_setCell_same q0 (i := 2) (.int .i64 ((P : Int) + 1)))
    have x0 := cell_of X.out 0
    have x2 := cell_of X.out 2
    simp at x0 x2
    clear q0 q1 q6
    go_enter Try.func14, Try.ntmps14
    go_wp2_with fail
    go_quiet (fail)
    go_wp2_with fail
    go_quiet (fail)
    go_wp2_with fail
    go_ret2
    refine ⟨rfl, ?_, by first | exact ((KB.refl R w).setCell 2 _).trans (KB.of (bdrew _ _)) | exact ((KB.of (bdrew _ _)).setCell 2 _).trans (KB.of (bdrew _ _))⟩
    refine RCur.below (w := w.setCell ⟨R, 2, none⟩ (.int .i64 ((P : Int) + 1))) ⟨some ⟨b, off, none⟩, ca, ob, cb, P + 1, D, p0, d0, ?_, ⟨((KB.refl R w).setCell 2 _).at' H1.out fun h a e => by have := q5 h a e; omega, by omega, by simp, q4, q5⟩, ((KB.refl R w).setCell 2 _).at' H6.out fun h a e => by have := q10 h a e; omega, q7, rfl, q9, q10⟩ (by first | exact bdrew _ _ | exact Below.refl _ _ | exact ⟨rfl, rfl, rfl, Nat.le_refl _, fun _ _ => rfl⟩)
    rw [X.out]
    rfl
  · have hP' : decide ((p0.length : Int) ≤ (P : Int)) = true := by simp; omega
    have hPd : decide (P < p0.length) = false := by simp; omega
    rw [hPd, nth_out p0 P (by omega)]
    clear q0 q1 q6
    go_enter Try.func14, Try.ntmps14
    go_wp2_with fail
    go_quiet (fail)
    go_wp2_with fail
    go_ret2
    refine ⟨rfl, RCur.below (w := w) ⟨oa, ca, ob, cb, P, D, p0, d0, H.out, ⟨H1.out, q2, ?_, q4, q5⟩, H6.out, q7, rfl, q9, q10⟩ (bdrew _ _), KB.of (bdrew _ _)⟩
    rw [List.drop_eq_nil_of_le (by omega)]
    rfl

set_option maxHeartbeats 1600000 in
theorem rdraw_any (R N : Nat) (p d : List Int) (n : Int) (w : World) (h : RCur w R N p d) (hN : N ≤ R) (hd : ∀ x ∈ d, 0 ≤ x) :
    Calls Try.prog 12 #[.pointer (some ⟨R, 0, none⟩), .int .i64 n] w fun r w' => r = .returned (.tuple #[.int .i64 (dv d n), .int .i64 (de n)]) ∧ RCur w' R N p (dr d n) ∧ KB R w w' := by
  by_cases h1 : n < 1 ∨ 64 < n
  · simp only [dv, de, dr, if_pos h1, if_pos (show n < 1 ∨ 64 < n ∨ n = 1 by omega)]
    have H := hide h
    clear h
    cases e1 : decide (n < 1)
    · have e2 : decide (64 < n) = true := by simp at e1 ⊢; omega
      clear h1
      go_enter Try.func12, Try.ntmps12
      go_wp2_with fail
      go_ret2
      exact ⟨rfl, H.out, KB.refl _ _⟩
    · clear h1
      go_enter Try.func12, Try.ntmps12
      go_wp2_with fail
      go_ret2
      exact ⟨rfl, H.out, KB.refl _ _⟩
  have e1 : decide (n < 1) = false := by simp; omega
  have e2 : decide (64 < n) = false := by simp; omega
  obtain ⟨oa, ca, ob, cb, P, D, p0, d0, q0, ⟨q1, q2, q3, q4, q5⟩, q6, q7, q8, q9, q10⟩ := h
  subst q3 q8
  have c1 := cell_of q0 1
  have c3 := cell_of q0 3
  have f3 := frozen_of q0 3
  simp at c1 c3
  have H := hide q0
  have H1 := hide q1
  have H6 := hide q6
  by_cases h2 : n = 1
  · subst h2
    simp only [dv, de, dr]
    clear q0 q1 q6
    go_enter Try.func12, Try.ntmps12
    go_wp2_with fail
    go_quiet (fail)
    go_wp2_with fail
    go_ret2
    exact ⟨rfl, RCur.below (w := w) ⟨oa, ca, ob, cb, P, D, p0, d0, H.out, ⟨H1.out, q2, rfl, q4, q5⟩, H6.out, q7, rfl, q9, q10⟩ (bdrew _ _), KB.of (bdrew _ _)⟩
  have e3 : (n == 1) = false := by rw [beq_eq_false_iff_ne]; exact h2
  simp only [dv, de, dr, if_neg h1, if_neg h2, if_neg (show ¬ (n < 1 ∨ 64 < n ∨ n = 1) by omega)]
  rw [nth_drop]
  have n1 : 2 ≤ n := by omega
  have n2 : n ≤ 64 := by omega
  clear h1 h2
  by_cases hP : D < d0.length
  · have hP' : decide ((d0.length : Int) ≤ (D : Int)) = false := by simp; omega
    obtain ⟨b, off, rfl, hc⟩ := q6 D hP
    have hb : b < N := q10 (by omega) _ rfl
    have hx : 0 ≤ nth d0 D := by
      refine hd _ ?_
      rw [← nth_drop, nth_lt _ 0 (by simp; omega)]
      exact List.getElem_mem _
    have hc' : (w.setCell ⟨R, 3, none⟩ (.int .i64 ((D : Int) + 1))).cell? ⟨b, off + D, none⟩ = some (.int .i64 (nth d0 D)) := ((KB.refl R w).setCell 3 _).cell hc (by omega)
    have hlt' : (D : Int) < (d0.length : Int) := by omega
    have X := hide (Ba.heap_setCell_same q0 (i := 3) (.int .i64 ((D : Int) + 1)))
    have x0 := cell_of X.out 1
    have x2 := cell_of X.out 3
    simp at x0 x2
    clear q0 q1 q6 hd
    go_enter Try.func12, Try.ntmps12
    go_wp2_with fail
    go_quiet (fail)
    go_wp2_with fail
    go_quiet (fail)
    go_wp2_with fail
    go_ret2
    refine ⟨by first | rfl | (rw [Int.tmod_eq_emod_of_nonneg hx]), ?_, by first | exact ((KB.refl R w).setCell 3 _).trans (KB.of (bdrew _ _)) | exact ((KB.of (bdrew _ _)).setCell 3 _).trans (KB.of (bdrew _ _))⟩
    refine RCur.below (w := w.setCell ⟨R, 3, none⟩ (.int .i64 ((D : Int) + 1))) ⟨oa, ca, some ⟨b, off, none⟩, cb, P, D + 1, p0, d0, ?_, ⟨((KB.refl R w).setCell 3 _).at' H1.out fun h a e => by have := q5 h a e; omega, by omega, rfl, q4, q5⟩, ((KB.refl R w).setCell 3 _).at' H6.out fun h a e => by have := q10 h a e; omega, by omega, by simp, q9, q10⟩ (by first | exact bdrew _ _ | exact Below.refl _ _ | exact ⟨rfl, rfl, rfl, Nat.le_refl _, fun _ _ => rfl⟩)
    rw [X.out]
    rfl
  · have hP' : decide ((d0.length : Int) ≤ (D : Int)) = true := by simp; omega
    rw [nth_out d0 D (by omega)]
    clear q0 q1 q6 hd
    go_enter Try.func12, Try.ntmps12
    go_wp2_with fail
    go_quiet (fail)
    go_wp2_with fail
    go_ret2
    refine ⟨by simp, RCur.below (w := w) ⟨oa, ca, ob, cb, P, D, p0, d0, H.out, ⟨H1.out, q2, rfl, q4, q5⟩, H6.out, q7, ?_, q9, q10⟩ (bdrew _ _), KB.of (bdrew _ _)⟩
    rw [List.drop_eq_nil_of_le (by omega)]
    rfl
end Pk
end Go.Proofs.Ytabbmfaklekojab
