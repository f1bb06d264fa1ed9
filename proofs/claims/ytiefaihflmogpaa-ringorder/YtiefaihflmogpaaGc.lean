/- Package ring: List, and the law's own two(), over this seat's program. -/
import Derived.Test.YtiefaihflmogpaaGb
import Derived.Test.YtiefaihflmogpaaBi
namespace Go.Proofs.Ytiefaihflmogpaa
open Go.ChangeShapes Go.WideShapes Go.ChangeAt Go.RowKit
namespace Rn
open Ba

theorem run_mk (w : World) (n : Nat) (hn : n ≤ 5000000) : (Instr.makeSlice 24 (.int .i64 (n : Int)) (.int .i64 (n : Int))).run Try.prog w = .ok (.slice (some ⟨w.heap.size, 0, none⟩) n n) (w.alloc (.cells (row (List.replicate n 0)) 3)) := by
  cases hi : Try.prog.info? 3 with
  | none => have := Ba.info_int; rw [hi] at this; cases this
  | some i =>
    have hx := Ba.info_int
    rw [hi] at hx
    simp at hx
    obtain ⟨hz, hs, hb⟩ := hx
    have := run_make (P := Try.prog) w 24 3 i (.int .i64 0) Try.underlying24 hi hz .i64 .i64 n n (by omega) (Int.le_refl _) (by rw [hb]; omega) (by omega)
    rw [hs, Int.toNat_natCast, Nat.mul_one] at this
    rw [this]
    have e : madeCells (Value.int .i64 0).cells n = row (List.replicate n 0) := by
      apply Array.ext
      · rw [size_madeCells, row_size, List.length_replicate]
      · intro j h1 h2
        simp [row, madeCells, Value.cells, Nat.mod_one]
    rw [e]
theorem row_set (m : List Int) (k : Nat) (x : Int) : (row m).setIfInBounds k (.int .i64 x) = row (m.set k x) := by
  apply Array.ext
  · simp [row]
  · intro j h1 h2
    simp [row, List.getElem_set]
theorem nth_set (m : List Int) (k j : Nat) (x : Int) (hk : k < m.length) : nth (m.set k x) j = if j = k then x else nth m j := by
  unfold nth
  simp [List.getD_eq_getElem?_getD, List.getElem?_set]
  by_cases e : k = j
  · subst e; simp [hk]
  · simp [e, Ne.symm e]
set_option maxRecDepth 100000 in
theorem list_nil (w : World) :
    Calls Try.prog 31 #[.pointer none] w fun r w' => r = .returned (.slice (some ⟨w.heap.size, 0, none⟩) 0 0) ∧ Below w.heap.size w w' := by
  have hm : (Instr.makeSlice 24 (.int .i64 0) (.int .i64 0)).run Try.prog w = _ := run_mk w 0 (by decide)
  go_enter Try.func31, Try.ntmps31
  go_wp2_with fail
  refine (len_nil _).mono ?_
  rintro r w1 ⟨rfl, rfl⟩
  have B := hide (below_alloc w1 (.cells (row (List.replicate 0 0)) 3))
  generalize (w1.alloc (.cells (row (List.replicate 0 0)) 3)) = w2 at hm B
  go_wp2_with fail
  go_loop [10] (fun i => i = .int .i64 0) (fun i => 0)
  case atStart => rfl
  case round =>
    subst hrel
    go_wp2_with fail
    go_ret
    exact ⟨rfl, B.out⟩
set_option maxHeartbeats 1600000 in
theorem list_any (R s : Nat) (l : List Int) (w : World) (h : Rg w R s l) :
    Calls Try.prog 31 #[.pointer (some ⟨R, 0, none⟩)] w fun r w' => r = .returned (.slice (some ⟨w.heap.size, 0, none⟩) l.length l.length) ∧ At w' (some ⟨w.heap.size, 0, none⟩) l ∧ Below w.heap.size w w' := by
  have hl4 : l.length ≤ 4 := by have := h.le; have := h.le4; omega
  have H := hide h
  clear h
  have hm := run_mk w l.length (by omega)
  go_enter Try.func31, Try.ntmps31
  go_wp2_with fail
  refine (len_any R s l _ H.out).mono ?_
  rintro r w1 ⟨rfl, rfl⟩
  have B2 := hide (below_alloc w1 (.cells (row (List.replicate l.length 0)) 3))
  have G2 := hide (heap_new w1 (.cells (row (List.replicate l.length 0)) 3))
  have hR := H.out.lt
  generalize (w1.alloc (.cells (row (List.replicate l.length 0)) 3)) = w2 at hm B2 G2
  generalize hL : w1.heap.size = L at hm G2 hR
  have HL := hide hL
  clear hL
  go_wp2_with fail
  go_loopw [10] (fun i wr => ∃ (k : Nat) (m : List Int), k ≤ l.length ∧ i = .int .i64 k ∧ (m.length = l.length ∧ ∀ j, j < k → nth m j = nth l j) ∧ wr.heap[L]? = some (.cells (row m) 3 (0, 0)) ∧ Below w1.heap.size w1 wr) (fun i _ => l.length - (intOf i).toNat)
  case atStart => exact ⟨0, _, Nat.zero_le _, rfl, ⟨by simp, fun j hj => absurd hj (Nat.not_lt_zero _)⟩, G2.out, B2.out⟩
  case round =>
    clear B2 G2 hm
    obtain ⟨k, m, hk, rfl, ⟨m1, m2⟩, g3, b3⟩ := hrel
    have M1 := hide m1
    have M2 := hide m2
    have G3 := hide g3
    have B3 := hide b3
    clear m1 m2 g3 b3
    by_cases hlt : k < l.length
    · have hlt' : (k : Int) < (l.length : Int) := by omega
      obtain ⟨v, f, h1, h2, h3, h4, h5⟩ := H.out.below B3.out
      have hq : (f + k) % 4 < 4 := Nat.mod_lt _ (by decide)
      have hcq := h5.cell _ hq
      have PL := hide (place_any R f k wr.drew h5.fst h1 (by omega))
      have HV := hide (h4 k hlt)
      clear h4 h5
      have hx := cell_of G3.out k
      rw [row_at m k (by have := M1.out; omega)] at hx
      have hz := frozen_of G3.out k
      generalize (f + k) % 4 = q at *
      go_wp2_with fail
      go_region_with (go_at_call 49; refine PL.out.mono ?_; rintro r w4 ⟨rfl, rfl⟩)
      all_goals
        go_wp2_with fail
        go_roundw
        case rel => exact ⟨k + 1, m.set k (nth l k), by omega, by go_num, ⟨by rw [List.length_set]; exact M1.out, fun j hj => by
          rw [nth_set _ _ _ _ (by have := M1.out; omega)]
          by_cases e : j = k
          · subst e; simp
          · rw [if_neg e]; exact M2.out j (by omega)⟩, by
          rw [← HV.out]
          refine ((Ba.heap_setCell_same G3.out _).trans ?_)
          rw [row_set], (KB.below (B3.out) ((KB.of (R := L) (bdrew1 wr)).setCell k _) (by have := HL.out; omega))⟩
        case measure => simp [intOf]; omega
    · have hlt' : ¬ ((k : Int) < (l.length : Int)) := by omega
      go_wp2_with fail
      go_ret
      refine ⟨by show Ending.returned _ = _; rw [HL.out]; rfl, ?_, B3.out⟩
      intro j hj
      refine ⟨_, 0, rfl, ?_⟩
      rw [Nat.zero_add, HL.out, cell_of G3.out j, row_at m j (by have := M1.out; omega), M2.out j (by omega)]
end Rn
end Go.Proofs.Ytiefaihflmogpaa
