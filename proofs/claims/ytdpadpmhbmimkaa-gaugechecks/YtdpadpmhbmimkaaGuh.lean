/- How many goroutines a trace without a spawn tells of; the law's exits, over this seat's program. -/
import Derived.Test.YtdpadpmhbmimkaaGug
namespace Go.Proofs.Ytdpadpmhbmimkaa
open Go.ChangeShapes Go.WideShapes Go.ChangeAt Go.RowKit
namespace Gu
open En Ba

theorem num_any (e : Ev) (w : World) : Calls Try.prog 24 #[evv e] w fun r w' => r = .returned (.tuple #[.int .i64 e.m, .bool (e.k == 1)]) ∧ Below w.heap.size w w' := by
  have B1 := hide (btr (below_alloc w (.cells #[.int .i64 e.k, .int .i64 e.g, .int .i64 e.c, .int .i64 e.a, .int .i64 e.v, .int .i64 e.m, .bool e.s, .bool e.o] 31)) (bdrew1 _))
  have E1 := heap_new w (.cells #[.int .i64 e.k, .int .i64 e.g, .int .i64 e.c, .int .i64 e.a, .int .i64 e.v, .int .i64 e.m, .bool e.s, .bool e.o] 31)
  have v0 : (w.alloc (.cells #[.int .i64 e.k, .int .i64 e.g, .int .i64 e.c, .int .i64 e.a, .int .i64 e.v, .int .i64 e.m, .bool e.s, .bool e.o] 31)).drew.cell? ⟨w.heap.size, 0, none⟩ = some (.int .i64 e.k) := cell_of E1 0
  have v5 : (w.alloc (.cells #[.int .i64 e.k, .int .i64 e.g, .int .i64 e.c, .int .i64 e.a, .int .i64 e.v, .int .i64 e.m, .bool e.s, .bool e.o] 31)).drew.cell? ⟨w.heap.size, 5, none⟩ = some (.int .i64 e.m) := cell_of E1 5
  clear E1
  unfold evv evc
  go_enter Try.func24, Try.ntmps24
  go_wp2_with fail
  generalize w.alloc (.cells #[.int .i64 e.k, .int .i64 e.g, .int .i64 e.c, .int .i64 e.a, .int .i64 e.v, .int .i64 e.m, .bool e.s, .bool e.o] 31) = W1 at *
  go_region
  all_goals
    go_wp2_with fail
    go_ret2
    exact ⟨rfl, B1.out⟩
set_option maxHeartbeats 1600000 in
theorem cnt_no (oa : Option Addr) (l : List Ev) (c : Nat) (w : World) (hA : EsAt w oa l) (hl : l.length ≤ 2000) (hk : ∀ (i : Nat) e, l[i]? = some e → e.k ≠ 1) :
    Calls Try.prog 23 #[.slice oa l.length c, .func (.func 24) #[] #[]] w fun r w' => r = .returned (.int .i64 0) ∧ Below w.heap.size w w' := by
  have HA := hide hA
  have HK := hide hk
  obtain ⟨M, hM⟩ : ∃ M, l.length = M := ⟨_, rfl⟩
  have HM := hide hM
  rw [hM] at hl ⊢
  clear hA hk hM
  go_enter Try.func23, Try.ntmps23
  go_wp2_with fail
  go_loopw [5, 12] (fun m i wr => ∃ k : Nat, k ≤ M ∧ m = .int .i64 0 ∧ i = .int .i64 (k : Int) ∧ Below w.heap.size w wr) (fun _ i _ => M - (intOf i).toNat)
  case atStart => exact ⟨0, Nat.zero_le _, rfl, rfl, Below.refl _ _⟩
  case round =>
    obtain ⟨k, hkM, rfl, rfl, bl⟩ := hrel
    have BL := hide bl
    have EA := hide (HA.out.below bl)
    clear bl
    by_cases hlt : k < M
    · have hlt' : (k : Int) < (M : Int) := by omega
      obtain ⟨e, he⟩ : ∃ e, l[k]? = some e := ⟨_, List.getElem?_eq_getElem (by rw [HM.out]; omega)⟩
      obtain ⟨b1, o1, rfl, -⟩ := EA.out k e he
      obtain ⟨p0, p1, p2, p3, p4, p5, p6, p7⟩ := EA.out.read he
      have hk1 := HK.out k e he
      have d1 : (e.k == 1) = false := by simp [hk1]
      have CN := hide (num_any e (wr.alloc (.cells #[.int .i64 e.k, .int .i64 e.g, .int .i64 e.c, .int .i64 e.a, .int .i64 e.v, .int .i64 e.m, .bool e.s, .bool e.o] 31)))
      unfold evv evc at CN
      rw [d1] at CN
      have BA := hide (btr BL.out (below_alloc wr (.cells #[.int .i64 e.k, .int .i64 e.g, .int .i64 e.c, .int .i64 e.a, .int .i64 e.v, .int .i64 e.m, .bool e.s, .bool e.o] 31)))
      clear he hk1
      go_wp2_with fail
      refine CN.out.mono ?_
      rintro r w1 ⟨rfl, b2⟩
      have B2 := hide (btr BA.out b2)
      clear b2
      go_wp2_with fail
      go_roundw
      case measure => simp [intOf]; omega
      case rel => exact ⟨k + 1, by omega, rfl, by simp, B2.out⟩
    · have dl : decide ((k : Int) < (M : Int)) = false := by simp; omega
      have dl2 : decide (k < M) = false := by simp; omega
      clear hlt
      go_wp2_with fail
      go_ret
      exact ⟨rfl, BL.out⟩
theorem gors_no (oa : Option Addr) (l : List Ev) (c : Nat) (w : World) (hA : EsAt w oa l) (hl : l.length ≤ 2000) (hk : ∀ (i : Nat) e, l[i]? = some e → e.k ≠ 1) :
    Calls Try.prog 7 #[.slice oa l.length c] w fun r w' => r = .returned (.int .i64 1) ∧ Below w.heap.size w w' := by
  have CN := hide (cnt_no oa l c w hA hl hk)
  generalize l.length = M at *
  clear hA hk
  go_enter Try.func7, Try.ntmps7
  go_wp2_with fail
  refine CN.out.mono ?_
  rintro r w1 ⟨rfl, b2⟩
  go_wp2_with fail
  go_ret
  exact ⟨rfl, b2⟩
def ex : Ev := ⟨11, 0, -1, -1, -1, -1, false, false⟩
theorem ex2 : Chk [ex, ex] 2 1 := .inl ⟨1, ex, rfl, by decide, by decide, rfl, fun j hj x hx => by
  have : j = 0 := by omega
  subst this
  cases hx
  decide⟩
theorem ex1 : Chk [ex] 0 0 := .inr ⟨fun j x hx => by
  have : j = 0 := by have := (List.getElem?_eq_some_iff.1 hx).1; simp at this; exact this
  subst this
  cases hx
  decide, by decide⟩
theorem ex_at {w : World} {B : Nat} (h : w.heap[B]? = some (.cells #[.int .i64 11, .int .i64 0, .int .i64 (-1), .int .i64 (-1), .int .i64 (-1), .int .i64 (-1), .bool false, .bool false] 31 (0, 0))) : EsAt w (some ⟨B, 0, none⟩) [ex] := fun i e he => by
  have : i = 0 := by have := (List.getElem?_eq_some_iff.1 he).1; simp at this; exact this
  subst this
  cases he
  refine ⟨B, 0, rfl, fun j hj => ?_⟩
  rw [cell_of h]
  match j, hj with
  | 0, _ => rfl
  | 1, _ => rfl
  | 2, _ => rfl
  | 3, _ => rfl
  | 4, _ => rfl
  | 5, _ => rfl
  | 6, _ => rfl
  | 7, _ => rfl
theorem ex_at2 {w : World} {B : Nat} (h : w.heap[B]? = some (.cells #[.int .i64 11, .int .i64 0, .int .i64 (-1), .int .i64 (-1), .int .i64 (-1), .int .i64 (-1), .bool false, .bool false, .int .i64 11, .int .i64 0, .int .i64 (-1), .int .i64 (-1), .int .i64 (-1), .int .i64 (-1), .bool false, .bool false] 31 (0, 0))) : EsAt w (some ⟨B, 0, none⟩) [ex, ex] := fun i e he => by
  have hi : i = 0 ∨ i = 1 := by have := (List.getElem?_eq_some_iff.1 he).1; simp at this; omega
  rcases hi with rfl | rfl
  · cases he
    refine ⟨B, 0, rfl, fun j hj => ?_⟩
    rw [cell_of h]
    match j, hj with
    | 0, _ => rfl
    | 1, _ => rfl
    | 2, _ => rfl
    | 3, _ => rfl
    | 4, _ => rfl
    | 5, _ => rfl
    | 6, _ => rfl
    | 7, _ => rfl
  · cases he
    refine ⟨B, 0, rfl, fun j hj => ?_⟩
    rw [cell_of h]
    match j, hj with
    | 0, _ => rfl
    | 1, _ => rfl
    | 2, _ => rfl
    | 3, _ => rfl
    | 4, _ => rfl
    | 5, _ => rfl
    | 6, _ => rfl
    | 7, _ => rfl
set_option maxRecDepth 100000 in
set_option maxHeartbeats 3200000 in
theorem exits_any (w : World) : Calls Try.prog 4 #[] w fun r w' => r = .returned (.bool true) ∧ Below w.heap.size w w' := by
  have A0 := below_alloc w (.cells #[.int .i64 11, .int .i64 0, .int .i64 (-1), .int .i64 (-1), .int .i64 (-1), .int .i64 (-1), .bool false, .bool false] 31)
  have h0 := heap_new w (.cells #[.int .i64 11, .int .i64 0, .int .i64 (-1), .int .i64 (-1), .int .i64 (-1), .int .i64 (-1), .bool false, .bool false] 31)
  have A1 := below_alloc (w.alloc (.cells #[.int .i64 11, .int .i64 0, .int .i64 (-1), .int .i64 (-1), .int .i64 (-1), .int .i64 (-1), .bool false, .bool false] 31)) (.cells #[.int .i64 11, .int .i64 0, .int .i64 (-1), .int .i64 (-1), .int .i64 (-1), .int .i64 (-1), .bool false, .bool false, .int .i64 11, .int .i64 0, .int .i64 (-1), .int .i64 (-1), .int .i64 (-1), .int .i64 (-1), .bool false, .bool false] 31)
  have h1 := heap_new (w.alloc (.cells #[.int .i64 11, .int .i64 0, .int .i64 (-1), .int .i64 (-1), .int .i64 (-1), .int .i64 (-1), .bool false, .bool false] 31)) (.cells #[.int .i64 11, .int .i64 0, .int .i64 (-1), .int .i64 (-1), .int .i64 (-1), .int .i64 (-1), .bool false, .bool false, .int .i64 11, .int .i64 0, .int .i64 (-1), .int .i64 (-1), .int .i64 (-1), .int .i64 (-1), .bool false, .bool false] 31)
  rw [World.size_alloc] at h1
  have C1 := hide (gcheck_any (some ⟨w.heap.size + 1, 0, none⟩) [ex, ex] 2 _ (ex_at2 h1) (by decide))
  have B1 := hide (btr A0 A1)
  have H1 := hide (heap_below h0 A1)
  clear A0 h0 A1 h1
  go_enter Try.func4, Try.ntmps4
  go_wp2_with fail
  refine C1.out.mono ?_
  rintro r w1 ⟨⟨n, a, rfl, hc⟩, b1⟩
  obtain ⟨rfl, rfl⟩ := hc.eq ex2
  have B2 := hide (btr B1.out b1)
  have H2 := hide (heap_below H1.out b1)
  clear b1 hc C1 B1 H1
  have v0 : w1.cell? ⟨w.heap.size, 0, none⟩ = some (.int .i64 11) := cell_of H2.out 0
  have v1 : w1.cell? ⟨w.heap.size, 1, none⟩ = some (.int .i64 0) := cell_of H2.out 1
  have v2 : w1.cell? ⟨w.heap.size, 2, none⟩ = some (.int .i64 (-1)) := cell_of H2.out 2
  have v3 : w1.cell? ⟨w.heap.size, 3, none⟩ = some (.int .i64 (-1)) := cell_of H2.out 3
  have v4 : w1.cell? ⟨w.heap.size, 4, none⟩ = some (.int .i64 (-1)) := cell_of H2.out 4
  have v5 : w1.cell? ⟨w.heap.size, 5, none⟩ = some (.int .i64 (-1)) := cell_of H2.out 5
  have v6 : w1.cell? ⟨w.heap.size, 6, none⟩ = some (.bool false) := cell_of H2.out 6
  have v7 : w1.cell? ⟨w.heap.size, 7, none⟩ = some (.bool false) := cell_of H2.out 7
  have C2 := hide (gcheck_any (some ⟨w1.heap.size, 0, none⟩) [ex] 1 _ (ex_at (heap_new w1 (.cells #[.int .i64 11, .int .i64 0, .int .i64 (-1), .int .i64 (-1), .int .i64 (-1), .int .i64 (-1), .bool false, .bool false] 31))) (by decide))
  have B3 := hide (btr B2.out (below_alloc w1 (.cells #[.int .i64 11, .int .i64 0, .int .i64 (-1), .int .i64 (-1), .int .i64 (-1), .int .i64 (-1), .bool false, .bool false] 31)))
  have H3 := hide (heap_below H2.out (below_alloc w1 (.cells #[.int .i64 11, .int .i64 0, .int .i64 (-1), .int .i64 (-1), .int .i64 (-1), .int .i64 (-1), .bool false, .bool false] 31)))
  go_wp2_with fail
  refine C2.out.mono ?_
  rintro r w2 ⟨⟨n, a, rfl, hc⟩, b2⟩
  obtain ⟨rfl, rfl⟩ := hc.eq ex1
  have B4 := hide (btr B3.out b2)
  have H4 := hide (heap_below H3.out b2)
  clear b2 hc C2 B3 H3 B2 H2 v0 v1 v2 v3 v4 v5 v6 v7
  have v0 : w2.cell? ⟨w.heap.size, 0, none⟩ = some (.int .i64 11) := cell_of H4.out 0
  have v1 : w2.cell? ⟨w.heap.size, 1, none⟩ = some (.int .i64 0) := cell_of H4.out 1
  have v2 : w2.cell? ⟨w.heap.size, 2, none⟩ = some (.int .i64 (-1)) := cell_of H4.out 2
  have v3 : w2.cell? ⟨w.heap.size, 3, none⟩ = some (.int .i64 (-1)) := cell_of H4.out 3
  have v4 : w2.cell? ⟨w.heap.size, 4, none⟩ = some (.int .i64 (-1)) := cell_of H4.out 4
  have v5 : w2.cell? ⟨w.heap.size, 5, none⟩ = some (.int .i64 (-1)) := cell_of H4.out 5
  have v6 : w2.cell? ⟨w.heap.size, 6, none⟩ = some (.bool false) := cell_of H4.out 6
  have v7 : w2.cell? ⟨w.heap.size, 7, none⟩ = some (.bool false) := cell_of H4.out 7
  have C3 := hide (gors_no (some ⟨w2.heap.size, 0, none⟩) [ex] 1 _ (ex_at (heap_new w2 (.cells #[.int .i64 11, .int .i64 0, .int .i64 (-1), .int .i64 (-1), .int .i64 (-1), .int .i64 (-1), .bool false, .bool false] 31))) (by decide) (fun i e he => by
    have : i = 0 := by have := (List.getElem?_eq_some_iff.1 he).1; simp at this; exact this
    subst this
    cases he
    decide))
  have B5 := hide (btr B4.out (below_alloc w2 (.cells #[.int .i64 11, .int .i64 0, .int .i64 (-1), .int .i64 (-1), .int .i64 (-1), .int .i64 (-1), .bool false, .bool false] 31)))
  go_wp2_with fail
  refine C3.out.mono ?_
  rintro r w3 ⟨rfl, b3⟩
  have B6 := hide (btr B5.out b3)
  go_wp2_with fail
  go_ret
  exact ⟨rfl, B6.out⟩
end Gu
end Go.Proofs.Ytdpadpmhbmimkaa
