/- Package sheet: copied, moved, putNumbers, putList, over this seat's program. -/
import Derived.Test.YtgnhophlnbpcgaaHc
import Derived.Test.YtgnhophlnbpcgaaBc
namespace Go.Proofs.Ytgnhophlnbpcgaa
open Go.ChangeShapes Go.WideShapes Go.ChangeAt Go.RowKit
namespace Sh
open De Ba Re

set_option maxRecDepth 100000 in
set_option maxHeartbeats 800000 in
theorem copied_int (oa : Option Addr) (l : List Int) (c : Nat) (w : World) (hA : At w oa l) (hl : l.length ≤ 1000000) :
    Calls Try.prog 54 #[.slice oa l.length c] w fun r w' => r = .returned (.slice (some ⟨w.heap.size, 0, none⟩) l.length l.length) ∧ w' = w.alloc (.cells (row l) 3) := by
  obtain ⟨i0, hi, hz0, hz1, hz2⟩ := info_parts Ba.info_int
  have hm := run_mkG Try.underlying36 hi hz0 w l.length (by rw [hz2]; omega) (by omega)
  have hcp := run_cpG (z := .int .i64 0) Try.underlying36 hi 3 w oa l.length c (l.map (Value.int .i64)) (by rw [hz1]; simp) (at_cs hA) (fun v hv => by
    obtain ⟨x, _, rfl⟩ := List.mem_map.1 hv
    rfl) (by rw [hz1]; decide)
  generalize madeCells (Value.cells (.int .i64 0)) (l.length * i0.size) = MC at hm hcp
  have hrow : (l.map (Value.int .i64)).toArray = row l := rfl
  rw [hrow] at hcp
  clear hA hrow
  go_enter Try.func54, Try.ntmps54
  go_wp2_with fail
  go_ret
  exact ⟨rfl, rfl⟩

/-- a list, moved by d -/
def mv (d : Int) (l : List Int) : List Int := l.map (· + d)
theorem mv_len (d : Int) (l : List Int) : (mv d l).length = l.length := by simp [mv]
theorem nth_mv (d : Int) (l : List Int) (k : Nat) (h : k < l.length) : nth (mv d l) k = nth l k + d := by
  rw [nth_lt _ k (by rw [mv_len]; exact h), nth_lt l k h]
  simp [mv]
theorem row_mv_step (d : Int) (l : List Int) (k : Nat) (h : k < l.length) : (row ((mv d l).take k ++ l.drop k)).setIfInBounds k (.int .i64 (nth l k + d)) = row ((mv d l).take (k + 1) ++ l.drop (k + 1)) := by
  apply Array.toList_inj.1
  rw [Array.toList_setIfInBounds]
  simp only [row]
  apply List.ext_getElem?
  intro j
  rw [List.getElem?_set]
  have hk : k < (mv d l).length := by rw [mv_len]; exact h
  by_cases e : k = j
  · subst e
    rw [if_pos rfl, if_pos (by simp; omega)]
    rw [List.getElem?_map, List.getElem?_append_left (by simp; omega), List.getElem?_take, if_pos (by omega), List.getElem?_eq_getElem hk]
    simp only [Option.map_some]
    rw [← nth_lt _ k hk, nth_mv d l k h]
  · rw [if_neg e, List.getElem?_map, List.getElem?_map]
    congr 1
    by_cases hj : j < k
    · rw [List.getElem?_append_left (by simp; omega), List.getElem?_append_left (by simp; omega), List.getElem?_take, List.getElem?_take, if_pos hj, if_pos (by omega)]
    · rw [List.getElem?_append_right (by simp; omega), List.getElem?_append_right (by simp; omega), List.getElem?_drop, List.getElem?_drop]
      congr 1
      simp
      omega
set_option maxHeartbeats 1600000 in
theorem moved_any (oa : Option Addr) (l : List Int) (c : Nat) (d : Int) (w : World) (hA : At w oa l) (hl : l.length ≤ 1000000) (hd : -10 ≤ d ∧ d ≤ 10) (hb : ∀ k, k < l.length → -1 ≤ nth l k ∧ nth l k ≤ 1099511627776) :
    Calls Try.prog 37 #[.slice oa l.length c, .int .i64 d] w fun r w' => r = .returned (.slice (some ⟨w.heap.size, 0, none⟩) l.length l.length) ∧ At w' (some ⟨w.heap.size, 0, none⟩) (mv d l) ∧ Below w.heap.size w w' := by
  have HA := hide hA
  have HB := hide hb
  obtain ⟨d1, d2⟩ := hd
  clear hA hb
  go_enter Try.func37, Try.ntmps37
  go_wp2_with fail
  refine (copied_int oa l c _ HA.out hl).mono ?_
  rintro r w1 ⟨rfl, rfl⟩
  go_wp2_with fail
  go_loopw [10] (fun i wr => ∃ k : Nat, k ≤ l.length ∧ i = .int .i64 k ∧ wr.heap[w.heap.size]? = some (.cells (row ((mv d l).take k ++ l.drop k)) 3 (0, 0)) ∧ Below w.heap.size w wr) (fun i _ => l.length - (intOf i).toNat)
  case atStart => exact ⟨0, Nat.zero_le _, rfl, by simpa using heap_new w (.cells (row l) 3), below_alloc _ _⟩
  case round =>
    obtain ⟨k, hk, rfl, h1, b1⟩ := hrel
    have H1 := hide h1
    have B1 := hide b1
    clear h1 b1
    by_cases hlt : k < l.length
    · have hlt' : (k : Int) < (l.length : Int) := by omega
      have hbk := HB.out k hlt
      have ck : wr.cell? ⟨w.heap.size, k, none⟩ = some (.int .i64 (nth l k)) := by
        rw [cell_of H1.out, row, List.getElem?_toArray, List.getElem?_map, List.getElem?_append_right (by simp [mv_len]; omega), List.getElem?_drop]
        simp only [List.length_take, mv_len]
        rw [show k + (k - min k l.length) = k by omega, List.getElem?_eq_getElem hlt, nth_lt l k hlt]
        rfl
      have fk := frozen_of H1.out k
      have ST := hide (row_mv_step d l k hlt)
      go_wp2_with fail
      go_roundw
      case rel =>
        refine ⟨k + 1, by omega, by go_num, ?_, B1.out.setCell (Nat.le_refl _) _⟩
        rw [Ba.heap_setCell_same H1.out, ST.out]
      case measure => simp [intOf]; omega
    · have hlt' : ¬ ((k : Int) < (l.length : Int)) := by omega
      obtain rfl : k = l.length := by omega
      have AT : Hid (At wr (some ⟨w.heap.size, 0, none⟩) (mv d l)) := by
        intro j hj
        refine ⟨w.heap.size, 0, rfl, ?_⟩
        rw [Nat.zero_add, cell_of H1.out, List.drop_length, List.append_nil, List.take_of_length_le (by rw [mv_len]; exact Nat.le_refl _), row_at _ j hj]
      go_wp2_with fail
      go_ret
      exact ⟨rfl, AT.out, B1.out⟩

theorem pls_cat (l m : List Int) : De.pls (l ++ m) = De.pls l ++ De.pls m := by simp [De.pls]
/-- a builder that holds the bytes L, below b all as it was -/
theorem write_bs (b : Nat) (L K : List Nat) (w : World) (h : BL w b (bs L)) (hlen : L.length + K.length ≤ 1000000000) (hb : b < w.heap.size) :
    Calls Try.prog 35 #[.pointer (some ⟨b, 0, none⟩), .string (bs K)] w fun r w' => (∃ n : Int, r = .returned (.tuple #[.int .i64 n, .nilIface])) ∧ BL w' b (bs (L ++ K)) ∧ BK b w w' := by
  refine (write_any b (bs L) (bs K) w h (by rw [bs_size, bs_size]; omega) (by omega)).mono ?_
  rintro r w' ⟨rfl, h1, h2⟩
  rw [bs_append] at h1
  exact ⟨⟨_, rfl⟩, h1, h2⟩
theorem BL.below {b : Nat} {s : ByteArray} {w w' : World} (h : BL w b s) (hb : Below w.heap.size w w') : BL w' b s := by
  rcases h with ⟨h1, v, h2, h3, h4⟩ | ⟨h1, v, h2, h3, h4⟩
  · refine .inl ⟨h1, v, heap_below h2 hb, ?_, h4⟩
    refine ⟨h3.1, ?_⟩
    rcases h3.2 with q | ⟨g, cap, cur, fz, q1, q2, q3, q4⟩
    · exact .inl q
    · exact .inr ⟨g, cap, cur, fz, q1, q2, heap_below q3 hb, q4⟩
  · refine .inr ⟨h1, v, heap_below h2 hb, ?_, h4⟩
    refine ⟨h3.1, ?_⟩
    rcases h3.2 with q | ⟨g, cap, cur, fz, q1, q2, q3, q4⟩
    · exact .inl q
    · exact .inr ⟨g, cap, cur, fz, q1, q2, heap_below q3 hb, q4⟩
set_option maxHeartbeats 1600000 in
theorem putNumbers_any (b : Nat) (L : List Nat) (g : Nat) (l : List Int) (c : Nat) (w : World) (hB : BL w b (bs L)) (hb : b < w.heap.size) (hg : w.heap[g]? = some (.cells (row l) 3 (0, 0))) (hgb : g ≠ b) (hl : l.length ≤ 3) (hr : ∀ k, k < l.length → 0 ≤ nth l k ∧ nth l k ≤ 1099511627776) (hS : L.length ≤ 10000000) :
    Calls Try.prog 34 #[.pointer (some ⟨b, 0, none⟩), .slice (some ⟨g, 0, none⟩) l.length c] w fun r w' => r = .returned (.tuple #[]) ∧ BL w' b (bs (L ++ De.pls l)) ∧ BK b w w' := by
  have HB := hide hB
  have HG := hide hg
  have HR := hide hr
  clear hB hg hr
  go_enter Try.func34, Try.ntmps34
  go_wp2_with fail
  go_loopw [10] (fun i wr => ∃ k : Nat, k ≤ l.length ∧ i = .int .i64 k ∧ BL wr b (bs (L ++ De.pls (l.take k))) ∧ BK b w wr) (fun i _ => l.length - (intOf i).toNat)
  case atStart => exact ⟨0, Nat.zero_le _, rfl, by
    rw [List.take_zero, show De.pls [] = [] from rfl, List.append_nil]
    exact HB.out, BK.refl _ _⟩
  case round =>
    obtain ⟨k, hk, rfl, h1, k1⟩ := hrel
    have H1 := hide h1
    have K1 := hide k1
    clear h1 k1
    by_cases hlt : k < l.length
    · have hlt' : (k : Int) < (l.length : Int) := by omega
      obtain ⟨n, hn⟩ := Int.eq_ofNat_of_zero_le (HR.out k hlt).1
      have hn2 : n ≤ 1099511627776 := by have := (HR.out k hlt).2; omega
      have G1 := hide (K1.out.oth g _ HG.out (fun e => hgb (Option.some.inj e)) (fun c fz e => by simp at e))
      have ck : wr.cell? ⟨g, k, none⟩ = some (.int .i64 (n : Int)) := by
        rw [cell_of G1.out, row_at l k hlt, hn]
      have s1 := K1.out.bel.size
      have PS := De.pls_take l k hlt
      rw [hn, Int.toNat_natCast] at PS
      have HPS := hide PS
      have hpl := De.pls_len (l.take k)
      rw [List.length_take] at hpl
      have hsl := (spl_len n).2
      have HN := hide hn
      clear hn PS
      go_wp2_with fail
      refine (put_ok n hn2 _).mono ?_
      rintro r w2 ⟨rfl, b2⟩
      have s2 := b2.size
      have K2 := hide (K1.out.trans (BK.of b2 (by omega)))
      have L2 := hide (H1.out.below b2)
      clear b2
      go_wp2_with fail
      refine (write_bs b _ _ _ L2.out (by rw [List.length_append]; omega) (by omega)).mono ?_
      rintro r w3 ⟨⟨m, rfl⟩, h3, k3⟩
      have K3 := hide (K2.out.trans k3)
      have L3 := hide h3
      clear h3 k3
      go_wp2_with fail
      go_roundw
      case rel => exact ⟨k + 1, by omega, by go_num, by
        rw [HPS.out, ← List.append_assoc]
        exact L3.out, K3.out⟩
      case measure => simp [intOf]; omega
    · have hlt' : ¬ ((k : Int) < (l.length : Int)) := by omega
      go_wp2_with fail
      go_end0
      rw [List.take_of_length_le (by omega)] at H1
      exact ⟨rfl, H1.out, K1.out⟩
theorem putList_any (b : Nat) (L : List Nat) (oa : Option Addr) (l : List Int) (c : Nat) (w : World) (hB : BL w b (bs L)) (hb : b < w.heap.size) (hA : At w oa l) (hl : l.length ≤ 2000) (hr : l.all okR = true) (hS : L.length ≤ 10000000) :
    Calls Try.prog 36 #[.pointer (some ⟨b, 0, none⟩), .slice oa l.length c] w fun r w' => r = .returned (.tuple #[]) ∧ BL w' b (bs (L ++ plist l)) ∧ BK b w w' := by
  have HB := hide hB
  have HA := hide hA
  have hp : (plist l).length ≤ 7 + 7 * l.length := by
    have h1 := Re.pls_len l
    have h2 := (spl_len l.length).2
    rw [plist, List.length_append]
    omega
  clear hB hA
  go_enter Try.func36, Try.ntmps36
  go_wp2_with fail
  refine (putlist_any oa l c _ HA.out hl).mono ?_
  rw [hr]
  rintro r w2 ⟨rfl, b2⟩
  have s2 := b2.size
  have K2 := hide (BK.of b2 (b := b) (by omega))
  have L2 := hide (HB.out.below b2)
  clear b2
  go_wp2_with fail
  refine (write_bs b _ _ _ L2.out (by omega) (by omega)).mono ?_
  rintro r w3 ⟨⟨m, rfl⟩, h3, k3⟩
  have K3 := hide (K2.out.trans k3)
  have L3 := hide h3
  clear h3 k3
  go_wp2_with fail
  go_end0
  exact ⟨rfl, L3.out, K3.out⟩
end Sh
end Go.Proofs.Ytgnhophlnbpcgaa
