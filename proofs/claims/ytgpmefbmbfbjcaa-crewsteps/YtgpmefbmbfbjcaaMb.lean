/- Package crew, over this seat's program: New, all, find, State, At, Len, change, Go, Park, Wake, Exit. -/
import Derived.Test.YtgpmefbmbfbjcaaMa
namespace Go.Proofs.Ytgpmefbmbfbjcaa
open Go.ChangeShapes Go.WideShapes Go.ChangeAt Go.RowKit
namespace Cr
open Ba

abbrev PC (w : World) (B : Nat) (F : Nat → Prop) (l : List Mb) : Prop := Cq 52 59 w B F l
theorem new_any (w : World) :
    Calls Try.prog 8 #[] w fun r w' => r = .returned (.pointer (some ⟨w.heap.size, 0, none⟩)) ∧ PC w' w.heap.size (fun k => k = w.heap.size) [] ∧ Below w.heap.size w w' := by
  go_enter Try.func8, Try.ntmps8
  go_wp2_with fail
  go_ret
  have hs := World.size_alloc w (.cells #[.slice none 0 0] 52)
  exact ⟨rfl, ⟨none, 0, heap_new _ _, World.ownsRow_nil _ _ _ _, rfl, fun g e => by simp [Value.ownBlock] at e, fun k (e : k = _) => by rw [hs]; omega, by simp⟩, below_alloc _ _⟩
theorem all_nil (w : World) :
    Calls Try.prog 28 #[.pointer none] w fun r w' => r = .returned (.slice none 0 0) ∧ w' = w := by
  go_enter Try.func28, Try.ntmps28
  go_wp2_with fail
  go_ret
  exact ⟨rfl, rfl⟩
theorem all_c (B : Nat) (oa : Option Addr) (n c : Nat) (w : World) (h : w.cell? ⟨B, 0, none⟩ = some (.slice oa n c)) :
    Calls Try.prog 28 #[.pointer (some ⟨B, 0, none⟩)] w fun r w' => r = .returned (.slice oa n c) ∧ w' = w := by
  go_enter Try.func28, Try.ntmps28
  go_wp2_with fail
  go_ret
  exact ⟨rfl, rfl⟩
theorem find_nil (g : Int) (w : World) :
    Calls Try.prog 27 #[.pointer none, .int .i64 g] w fun r w' => r = .returned (.pointer none) ∧ w' = w := by
  cases h1 : decide (g < 0)
  · have d2 : decide (0 ≤ g) = true := by simp at h1 ⊢; omega
    go_enter Try.func27, Try.ntmps27
    go_wp2_with fail
    refine (all_nil _).mono ?_
    rintro r w1 ⟨rfl, rfl⟩
    go_wp2_with fail
    go_ret
    exact ⟨rfl, rfl⟩
  · go_enter Try.func27, Try.ntmps27
    go_wp2_with fail
    refine (all_nil _).mono ?_
    rintro r w1 ⟨rfl, rfl⟩
    go_wp2_with fail
    go_ret
    exact ⟨rfl, rfl⟩
theorem find_out (B : Nat) (F : Nat → Prop) (l : List Mb) (g : Int) (w : World) (h : PC w B F l) (hg : gt l g = none) :
    Calls Try.prog 27 #[.pointer (some ⟨B, 0, none⟩), .int .i64 g] w fun r w' => r = .returned (.pointer none) ∧ w' = w := by
  obtain ⟨oa, c, h⟩ := h
  have AL := hide (all_c B oa l.length c w (cell_of h.hp 0))
  have hg' := gt_none hg
  clear h hg
  cases h1 : decide (g < 0)
  · have d2 : decide ((l.length : Int) ≤ g) = true := by simp at h1 ⊢; omega
    clear hg'
    go_enter Try.func27, Try.ntmps27
    go_wp2_with fail
    refine AL.out.mono ?_
    rintro r w1 ⟨rfl, rfl⟩
    go_wp2_with fail
    go_ret
    exact ⟨rfl, rfl⟩
  · clear hg'
    go_enter Try.func27, Try.ntmps27
    go_wp2_with fail
    refine AL.out.mono ?_
    rintro r w1 ⟨rfl, rfl⟩
    go_wp2_with fail
    go_ret
    exact ⟨rfl, rfl⟩
theorem find_in (B : Nat) (F : Nat → Prop) (b c : Nat) (l : List Mb) (k : Nat) (x : Mb) (w : World) (h : Cw 52 59 w B F (some ⟨b, 0, none⟩) c l) (hx : l[k]? = some x) :
    Calls Try.prog 27 #[.pointer (some ⟨B, 0, none⟩), .int .i64 (k : Int)] w fun r w' => r = .returned (.pointer (some ⟨b, k * 3, none⟩)) ∧ w' = w := by
  have AL := hide (all_c B (some ⟨b, 0, none⟩) l.length c w (cell_of h.hp 0))
  have hk := (List.getElem?_eq_some_iff.1 hx).1
  have hle := h.le
  clear h hx
  have d1 : decide ((k : Int) < 0) = false := decide_eq_false (by omega)
  have d2 : decide ((l.length : Int) ≤ (k : Int)) = false := decide_eq_false (by omega)
  have d3 : (k : Int) < (l.length : Int) := by omega
  go_enter Try.func27, Try.ntmps27
  go_wp2_with fail
  refine AL.out.mono ?_
  rintro r w1 ⟨rfl, rfl⟩
  go_wp2_with fail
  go_ret
  exact ⟨rfl, rfl⟩
theorem Cw.got {w : World} {B : Nat} {F : Nat → Prop} {oa : Option Addr} {c : Nat} {l : List Mb} {k : Nat} {x : Mb} (h : Cw 52 59 w B F oa c l) (hx : l[k]? = Option.some x) : ∃ b, oa = Option.some ⟨b, 0, none⟩ ∧ w.cell? ⟨b, k * 3, none⟩ = Option.some (.int .i64 x.p) ∧ w.cell? ⟨b, k * 3 + 1, none⟩ = Option.some (.int .i64 x.q) ∧ w.cell? ⟨b, k * 3 + 2, none⟩ = Option.some (.int .i64 x.s) := h.at.1 k x hx
theorem state_nil (g : Int) (w : World) :
    Calls Try.prog 11 #[.pointer none, .int .i64 g] w fun r w' => r = .returned (.tuple #[.int .i64 0, .bool false]) ∧ w' = w := by
  go_enter Try.func11, Try.ntmps11
  go_wp2_with fail
  refine (find_nil g _).mono ?_
  rintro r w1 ⟨rfl, rfl⟩
  go_wp2_with fail
  go_ret2
  exact ⟨rfl, rfl⟩
theorem state_any (B : Nat) (F : Nat → Prop) (l : List Mb) (g : Int) (w : World) (h : PC w B F l) :
    Calls Try.prog 11 #[.pointer (some ⟨B, 0, none⟩), .int .i64 g] w fun r w' => r = .returned (.tuple #[.int .i64 (one0 (gt l g)).s, .bool (thr l g)]) ∧ w' = w := by
  unfold thr
  cases hg : gt l g with
  | none =>
    have FO := hide (find_out B F l g w h hg)
    clear h hg
    go_enter Try.func11, Try.ntmps11
    go_wp2_with fail
    refine FO.out.mono ?_
    rintro r w1 ⟨rfl, rfl⟩
    go_wp2_with fail
    go_ret2
    exact ⟨rfl, rfl⟩
  | some x =>
    obtain ⟨k, rfl, hk, hx⟩ := gt_some hg
    obtain ⟨oa, c, h⟩ := h
    obtain ⟨b, rfl, q0, q1, q2⟩ := h.got hx
    have FI := hide (find_in B F b c l k x w h hx)
    clear h hg hx
    go_enter Try.func11, Try.ntmps11
    go_wp2_with fail
    refine FI.out.mono ?_
    rintro r w1 ⟨rfl, rfl⟩
    go_wp2_with fail
    go_ret2
    exact ⟨rfl, rfl⟩
theorem at_nil (g : Int) (w : World) :
    Calls Try.prog 12 #[.pointer none, .int .i64 g] w fun r w' => r = .returned (.tuple #[.int .i64 0, .int .i64 0, .bool false]) ∧ w' = w := by
  go_enter Try.func12, Try.ntmps12
  go_wp2_with fail
  refine (find_nil g _).mono ?_
  rintro r w1 ⟨rfl, rfl⟩
  go_wp2_with fail
  go_ret3
  exact ⟨rfl, rfl⟩
theorem at_any (B : Nat) (F : Nat → Prop) (l : List Mb) (g : Int) (w : World) (h : PC w B F l) :
    Calls Try.prog 12 #[.pointer (some ⟨B, 0, none⟩), .int .i64 g] w fun r w' => r = .returned (.tuple #[.int .i64 (one0 (gt l g)).p, .int .i64 (one0 (gt l g)).q, .bool (thr l g)]) ∧ Below w.heap.size w w' := by
  unfold thr
  cases hg : gt l g with
  | none =>
    have FO := hide (find_out B F l g w h hg)
    clear h hg
    go_enter Try.func12, Try.ntmps12
    go_wp2_with fail
    refine FO.out.mono ?_
    rintro r w1 ⟨rfl, rfl⟩
    go_wp2_with fail
    go_ret3
    exact ⟨rfl, Below.refl _ _⟩
  | some x =>
    obtain ⟨k, rfl, hk, hx⟩ := gt_some hg
    obtain ⟨oa, c, h⟩ := h
    obtain ⟨b, rfl, q0, q1, q2⟩ := h.got hx
    have FI := hide (find_in B F b c l k x w h hx)
    clear h hg hx
    go_enter Try.func12, Try.ntmps12
    go_wp2_with fail
    refine FI.out.mono ?_
    rintro r w1 ⟨rfl, rfl⟩
    go_wp2_with fail
    go_quiet (fail)
    go_wp2_with fail
    go_ret3
    exact ⟨rfl, bdrew _ _⟩
theorem len_nil (w : World) :
    Calls Try.prog 14 #[.pointer none] w fun r w' => r = .returned (.int .i64 0) ∧ w' = w := by
  go_enter Try.func14, Try.ntmps14
  go_wp2_with fail
  refine (all_nil _).mono ?_
  rintro r w1 ⟨rfl, rfl⟩
  go_wp2_with fail
  go_ret
  exact ⟨rfl, rfl⟩
theorem len_any (B : Nat) (F : Nat → Prop) (l : List Mb) (w : World) (h : PC w B F l) :
    Calls Try.prog 14 #[.pointer (some ⟨B, 0, none⟩)] w fun r w' => r = .returned (.int .i64 (l.length : Int)) ∧ w' = w := by
  obtain ⟨oa, c, h⟩ := h
  have AL := hide (all_c B oa l.length c w (cell_of h.hp 0))
  clear h
  go_enter Try.func14, Try.ntmps14
  go_wp2_with fail
  refine AL.out.mono ?_
  rintro r w1 ⟨rfl, rfl⟩
  go_wp2_with fail
  go_ret
  exact ⟨rfl, rfl⟩
end Cr
end Go.Proofs.Ytgpmefbmbfbjcaa
