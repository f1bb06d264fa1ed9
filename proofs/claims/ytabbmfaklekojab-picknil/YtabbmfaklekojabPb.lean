/- Package pick: Next, Draw, Left, fresh, New, Copy, over this seat's program. -/
import Derived.Test.YtabbmfaklekojabPa
namespace Go.Proofs.Ytabbmfaklekojab
open Go.ChangeShapes Go.WideShapes Go.ChangeAt Go.RowKit
namespace Pk
open Ba

theorem next_none (C : Nat) (d : List Int) (w : World) (h : Cur w C [] d) :
    Calls Try.prog 13 #[.pointer (some ⟨C, 0, none⟩)] w fun r w' => r = .returned (.tuple #[.int .i64 0, .bool false]) ∧ Below w.heap.size w w' := by
  obtain ⟨oa, ca, ob, cb, h0, _⟩ := h
  have H := hide h0
  clear h0
  go_enter Try.func13, Try.ntmps13
  go_wp2_with fail
  refine (takers_any _ _).mono ?_
  rintro r w1 ⟨rfl, b1⟩
  have c0 := cell_of (heap_below H.out b1) 0
  have B := hide b1
  clear b1
  go_wp2_with fail
  refine (take_none C 0 oa ca _ c0).mono ?_
  rintro r w2 ⟨rfl, rfl⟩
  go_wp2_with fail
  go_ret2
  exact ⟨rfl, B.out⟩
theorem next_some (C : Nat) (x : Int) (p d : List Int) (w : World) (h : Cur w C (x :: p) d) :
    Calls Try.prog 13 #[.pointer (some ⟨C, 0, none⟩)] w fun r w' => r = .returned (.tuple #[.int .i64 x, .bool true]) ∧ Cur w' C p d ∧ KB C w w' := by
  obtain ⟨oa, ca, ob, cb, h0, ⟨h1, h2, h4⟩, h5, h6, h8⟩ := h
  obtain ⟨b, off, rfl, hc⟩ := h1.head
  have hbC := h4 _ rfl
  simp only at hbC
  have H := hide h0
  have H1 := hide h1
  have H5 := hide h5
  have HC := hide hc
  simp at h2
  clear h0 h1 h5 hc
  go_enter Try.func13, Try.ntmps13
  go_wp2_with fail
  refine (takers_any _ _).mono ?_
  rintro r w1 ⟨rfl, b1⟩
  have G1 := hide (heap_below H.out b1)
  have c0 := cell_of G1.out 0
  have f0 := frozen_of G1.out 0
  have A1 := hide (H1.out.below b1)
  have A5 := hide (H5.out.below b1)
  obtain ⟨_, _, e, hc⟩ := A1.out.head
  simp at e
  obtain ⟨rfl, rfl⟩ := e
  have B := hide b1
  clear b1
  go_wp2_with fail
  refine (take_some C 0 b off p.length ca x _ c0 f0 hc h2).mono ?_
  rintro r w2 ⟨rfl, off', ho, hw⟩
  have HW := hide hw
  have HO := hide ho
  clear hw ho
  go_wp2_with fail
  go_ret2
  refine ⟨rfl, ⟨some ⟨b, off', none⟩, ca - 1, ob, cb, ?_, ⟨at_tail A1.out hbC HO.out HW.out, by omega, fun a e => by cases e; exact hbC⟩, ?_, h6, h8⟩, ?_⟩
  · rw [HW.out, Ba.heap_setCell_same G1.out]
    rfl
  · rw [HW.out]
    exact ((KB.refl C w1).setCell 0 _).at A5.out fun a e => by have := h8 a e; omega
  · rw [HW.out]
    exact (KB.of B.out).setCell 0 _
theorem next_nil (w : World) :
    Calls Try.prog 13 #[.pointer none] w fun r w' => r = .returned (.tuple #[.int .i64 0, .bool false]) ∧ Below w.heap.size w w' := by
  go_enter Try.func13, Try.ntmps13
  go_wp2_with fail
  refine (takers_nil _).mono ?_
  rintro r w1 ⟨rfl, b1, c0⟩
  have B := hide b1
  clear b1
  go_wp2_with fail
  refine (take_none _ 0 none 0 _ c0).mono ?_
  rintro r w2 ⟨rfl, rfl⟩
  go_wp2_with fail
  go_ret2
  exact ⟨rfl, B.out⟩

theorem draw_arg (o : Option Addr) (n : Int) (w : World) (h : n < 1 ∨ 64 < n) :
    Calls Try.prog 11 #[.pointer o, .int .i64 n] w fun r w' => r = .returned (.tuple #[.int .i64 0, .int .i64 1]) ∧ w' = w := by
  by_cases h1 : n < 1
  · have d1 : decide (n < 1) = true := by simp; omega
    go_enter Try.func11, Try.ntmps11
    go_wp2_with fail
    go_ret2
    exact ⟨rfl, rfl⟩
  · have d1 : decide (n < 1) = false := by simp; omega
    have d2 : decide (64 < n) = true := by simp; omega
    go_enter Try.func11, Try.ntmps11
    go_wp2_with fail
    go_ret2
    exact ⟨rfl, rfl⟩
theorem draw_one (o : Option Addr) (w : World) :
    Calls Try.prog 11 #[.pointer o, .int .i64 1] w fun r w' => r = .returned (.tuple #[.int .i64 0, .int .i64 0]) ∧ w' = w := by
  go_enter Try.func11, Try.ntmps11
  go_wp2_with fail
  go_ret2
  exact ⟨rfl, rfl⟩
theorem draw_nil (n : Int) (w : World) (h : 2 ≤ n ∧ n ≤ 64) :
    Calls Try.prog 11 #[.pointer none, .int .i64 n] w fun r w' => r = .returned (.tuple #[.int .i64 0, .int .i64 0]) ∧ Below w.heap.size w w' := by
  have d1 : decide (n < 1) = false := by simp; omega
  have d2 : decide (64 < n) = false := by simp; omega
  have d3 : (n == 1) = false := by simp; omega
  have n1 := h.1
  have n2 := h.2
  go_enter Try.func11, Try.ntmps11
  go_wp2_with fail
  refine (takers_nil _).mono ?_
  rintro r w1 ⟨rfl, b1, c0⟩
  have B := hide b1
  clear b1
  go_wp2_with fail
  refine (take_none _ 0 none 0 _ c0).mono ?_
  rintro r w2 ⟨rfl, rfl⟩
  go_wp2_with fail
  go_ret2
  exact ⟨by simp, B.out⟩
theorem draw_none (C : Nat) (p : List Int) (n : Int) (w : World) (h : 2 ≤ n ∧ n ≤ 64) (hC : Cur w C p []) :
    Calls Try.prog 11 #[.pointer (some ⟨C, 0, none⟩), .int .i64 n] w fun r w' => r = .returned (.tuple #[.int .i64 0, .int .i64 0]) ∧ Below w.heap.size w w' := by
  obtain ⟨oa, ca, ob, cb, h0, _⟩ := hC
  have H := hide h0
  clear h0
  have d1 : decide (n < 1) = false := by simp; omega
  have d2 : decide (64 < n) = false := by simp; omega
  have d3 : (n == 1) = false := by simp; omega
  have n1 := h.1
  have n2 := h.2
  go_enter Try.func11, Try.ntmps11
  go_wp2_with fail
  refine (takers_any _ _).mono ?_
  rintro r w1 ⟨rfl, b1⟩
  have c0 := cell_of (heap_below H.out b1) 1
  have B := hide b1
  clear b1
  go_wp2_with fail
  refine (take_none C 1 ob cb _ c0).mono ?_
  rintro r w2 ⟨rfl, rfl⟩
  go_wp2_with fail
  go_ret2
  exact ⟨by simp, B.out⟩
theorem draw_some (C : Nat) (x : Int) (p d : List Int) (n : Int) (w : World) (h : 2 ≤ n ∧ n ≤ 64) (hx : 0 ≤ x) (hC : Cur w C p (x :: d)) :
    Calls Try.prog 11 #[.pointer (some ⟨C, 0, none⟩), .int .i64 n] w fun r w' => r = .returned (.tuple #[.int .i64 (x % n), .int .i64 0]) ∧ Cur w' C p d ∧ KB C w w' := by
  obtain ⟨oa, ca, ob, cb, h0, ⟨h1, h2, h4⟩, h5, h6, h8⟩ := hC
  obtain ⟨b, off, rfl, hc⟩ := h5.head
  have hbC := h8 _ rfl
  simp only at hbC
  have H := hide h0
  have H1 := hide h1
  have H5 := hide h5
  simp at h6
  clear h0 h1 h5 hc
  have d1 : decide (n < 1) = false := by simp; omega
  have d2 : decide (64 < n) = false := by simp; omega
  have d3 : (n == 1) = false := by simp; omega
  have n1 := h.1
  have n2 := h.2
  go_enter Try.func11, Try.ntmps11
  go_wp2_with fail
  refine (takers_any _ _).mono ?_
  rintro r w1 ⟨rfl, b1⟩
  have G1 := hide (heap_below H.out b1)
  have c0 := cell_of G1.out 1
  have f0 := frozen_of G1.out 1
  have A1 := hide (H1.out.below b1)
  have A5 := hide (H5.out.below b1)
  obtain ⟨_, _, e, hc⟩ := A5.out.head
  simp at e
  obtain ⟨rfl, rfl⟩ := e
  have B := hide b1
  clear b1
  go_wp2_with fail
  refine (take_some C 1 b off d.length cb x _ c0 f0 hc h6).mono ?_
  rintro r w2 ⟨rfl, off', ho, hw⟩
  have HW := hide hw
  have HO := hide ho
  clear hw ho
  go_wp2_with fail
  go_ret2
  refine ⟨rfl, ⟨oa, ca, some ⟨b, off', none⟩, cb - 1, ?_, ⟨?_, h2, h4⟩, at_tail A5.out hbC HO.out HW.out, by omega, fun a e => by cases e; exact hbC⟩, ?_⟩
  · rw [HW.out, Ba.heap_setCell_same G1.out]
    rfl
  · rw [HW.out]
    exact ((KB.refl C w1).setCell 1 _).at A1.out fun a e => by have := h4 a e; omega
  · rw [HW.out]
    exact (KB.of B.out).setCell 1 _

theorem left_nil (w : World) :
    Calls Try.prog 15 #[.pointer none] w fun r w' => r = .returned (.tuple #[.int .i64 0, .int .i64 0]) ∧ w' = w := by
  go_enter Try.func15, Try.ntmps15
  go_wp2_with fail
  go_ret2
  exact ⟨rfl, rfl⟩
theorem left_any (C : Nat) (p d : List Int) (w : World) (h : Cur w C p d) :
    Calls Try.prog 15 #[.pointer (some ⟨C, 0, none⟩)] w fun r w' => r = .returned (.tuple #[.int .i64 p.length, .int .i64 d.length]) ∧ Below w.heap.size w w' := by
  obtain ⟨oa, ca, ob, cb, h0, _⟩ := h
  have c0 := cell_of h0 0
  have c1 := cell_of h0 1
  simp at c0 c1
  clear h0
  go_enter Try.func15, Try.ntmps15
  go_wp2_with fail
  go_quiet (fail)
  go_wp2_with fail
  go_ret2
  exact ⟨rfl, by first | exact bdrew _ _ | exact Below.refl _ _⟩
end Pk
end Go.Proofs.Ytabbmfaklekojab
