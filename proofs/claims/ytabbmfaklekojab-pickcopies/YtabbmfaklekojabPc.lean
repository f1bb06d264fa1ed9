/- Package pick: fresh, New, Copy and the laws' own draws(), over this seat's program. -/
import Derived.Test.YtabbmfaklekojabPb
import Derived.Lib.AppendZeros
namespace Go.Proofs.Ytabbmfaklekojab
open Go.ChangeShapes Go.WideShapes Go.ChangeAt Go.RowKit
namespace Pk
open Ba

theorem info_int : (Try.prog.info? 3).map (fun i => (i.zero, i.size, i.bytes)) = some (some (.int .i64 0), 1, 8) := by kernel_rfl
theorem run_fresh (w : World) (oa : Option Addr) (l : List Int) (c : Nat) (ty : TypeId) (hA : At w oa l) (hl : l.length ≤ 1000) :
    ∃ ob d W, (Builtin.append_ #[51, 51] ty #[.slice none 0 0, .slice oa l.length c]).run Try.prog w = .ok (.slice ob l.length d) W ∧ l.length ≤ d ∧ At W ob l ∧ (∀ a, ob = some a → a.block < W.heap.size) ∧ Below w.heap.size w W := by
  cases hi : Try.prog.info? 3 with
  | none => have := info_int; rw [hi] at this; cases this
  | some i =>
    have hx := info_int
    rw [hi] at hx
    simp at hx
    obtain ⟨hz, hs, hb⟩ := hx
    by_cases h0 : l.length = 0
    · obtain rfl := List.eq_nil_of_length_eq_zero h0
      refine ⟨none, 0, w, ?_, Nat.le_refl _, At.nil _ _, fun a e => (by cases e), Below.refl _ _⟩
      have hs0 : (Builtin.firstCells 1 0 (.slice oa 0 c)).run Try.prog w = .ok #[] w := by
        cases oa with
        | none => exact run_firstCells_none w 1 0 0 c
        | some a => exact run_firstCells_some w 1 0 a 0 c [] rfl (fun j v h => by simp at h)
      simp [Builtin.append_, run_underlying Try.underlying51, sizeOf, typeInfo, hi, hs, Builtin.lenOf, hs0]
    · obtain ⟨b, off, rfl, _⟩ := hA 0 (by omega)
      have hnews : ∀ j u, (l.map (Value.int .i64))[j]? = some u → w.cell? ((⟨b, off, none⟩ : Addr).add j) = some u := by
        intro j u hu
        have hj : j < l.length := by
          rcases Nat.lt_or_ge j l.length with q | q
          · exact q
          · rw [List.getElem?_eq_none (by simpa using q)] at hu; cases hu
        obtain ⟨b', off', e, hc⟩ := hA j hj
        simp at e
        obtain ⟨rfl, rfl⟩ := e
        rw [List.getElem?_map, List.getElem?_eq_getElem hj] at hu
        simp at hu
        rw [← hu, ← nth_lt l j hj, Addr.add_lit]
        exact hc
      have src := Src.ofSlice (P := Try.prog) w (size := 1) Try.underlying51 ⟨b, off, none⟩ l.length c (l.map (Value.int .i64)) (by simp) hnews (fun u hu => by
        obtain ⟨x, _, rfl⟩ := List.mem_map.1 hu
        rfl)
      have hold : (Builtin.firstCells i.size 0 (.slice none 0 0)).run Try.prog w.drew = .ok ([] : List Value).toArray w.drew := run_firstCells_none w.drew i.size 0 0 0
      have hcap : Builtin.nextslicecap (0 + l.length) 0 * i.bytes ≤ 281474976710656 := by
        rw [Nat.zero_add, nextslicecap_zero (by omega), hb]
        omega
      have := run_append_grow_src (P := Try.prog) w 51 51 ty 3 i (.int .i64 0) Try.underlying51 hi hz none 0 0 [] hold (.slice (some ⟨b, off, none⟩) l.length c) l.length (l.map (Value.int .i64)) (by rw [hs]; exact src) (by omega) (by omega) hcap
      simp only [Nat.zero_add, List.nil_append] at this
      refine ⟨_, _, _, this, grownCap_ge _ _ _ _, ?_, fun a e => (by cases e; simp), btr (bdrew1 w) (below_alloc _ _)⟩
      intro k hk
      refine ⟨w.heap.size, 0, rfl, ?_⟩
      rw [Nat.zero_add]
      have hn := heap_new w.drew (.cells ((l.map (Value.int .i64)).toArray ++ Builtin.zeroCells (Value.cells (.int .i64 0)) (grownCap w l.length 0 3 - l.length)) 3)
      have := cell_of hn k
      rw [show w.drew.heap.size = w.heap.size from rfl] at this
      rw [this, Array.getElem?_append_left (by simpa using hk)]
      exact row_at l k hk

theorem fresh_any (oa : Option Addr) (l : List Int) (c : Nat) (w : World) (hA : At w oa l) (hl : l.length ≤ 1000) :
    Calls Try.prog 21 #[.slice oa l.length c] w fun r w' => ∃ ob d, r = .returned (.slice ob l.length d) ∧ l.length ≤ d ∧ At w' ob l ∧ (∀ a, ob = some a → a.block < w'.heap.size) ∧ Below w.heap.size w w' := by
  obtain ⟨ob, d, W, hr, h1, h2, h3, h4⟩ := run_fresh w oa l c 51 hA hl
  have HR := hide hr
  have H2 := hide h2
  have H4 := hide h4
  clear hr h2 h4 hA
  go_enter Try.func21, Try.ntmps21
  go_wp2_with (at_builtin; refine Lib.wpList_append_run _ rfl _ _ 51 51 rfl _ _ rfl rfl _ _ HR.out ?_)
  go_ret
  exact ⟨ob, d, rfl, h1, H2.out, h3, H4.out⟩

/-- what a new cursor is, or why there is none -/
def ne (p d : List Int) : Int := bif decide (200 < p.length) || decide (64 < d.length) then 2 else bif ab (-1) 1000 p && ab 0 1000 d then 0 else 4

theorem new_err (oa ob : Option Addr) (p d : List Int) (c e : Nat) (w : World) (hA : At w oa p) (hB : At w ob d) (hp : p.length ≤ maxLen) (hd : d.length ≤ maxLen) (x : Int) (hx : ne p d = x) (h0 : x ≠ 0) :
    Calls Try.prog 8 #[.slice oa p.length c, .slice ob d.length e] w fun r w' => r = .returned (.tuple #[.pointer none, .int .i64 x]) ∧ w' = w := by
  subst hx
  have HA := hide hA
  have HB := hide hB
  have HP := hide hp
  have HD := hide hd
  unfold maxLen at hp hd
  clear hA hB
  unfold ne at h0 ⊢
  cases h1 : decide (200 < p.length)
  · have g1 : decide (200 < (p.length : Int)) = false := by simp at h1 ⊢; omega
    cases h2 : decide (64 < d.length)
    · have g2 : decide (64 < (d.length : Int)) = false := by simp at h2 ⊢; omega
      rw [h1, h2] at h0
      simp only [Bool.or_false, cond_false] at h0 ⊢
      cases h3 : ab (-1) 1000 p
      · simp only [Bool.false_and, cond_false]
        clear h0
        go_enter Try.func8, Try.ntmps8
        go_wp2_with fail
        refine (between_any oa p c (-1) 1000 _ HA.out HP.out).mono ?_
        rw [h3]
        rintro r w1 ⟨rfl, rfl⟩
        go_wp2_with fail
        go_ret2
        exact ⟨rfl, rfl⟩
      · cases h4 : ab 0 1000 d
        · simp only [Bool.and_false, cond_false]
          clear h0
          go_enter Try.func8, Try.ntmps8
          go_wp2_with fail
          refine (between_any oa p c (-1) 1000 _ HA.out HP.out).mono ?_
          rw [h3]
          rintro r w1 ⟨rfl, rfl⟩
          go_wp2_with fail
          refine (between_any ob d e 0 1000 _ HB.out HD.out).mono ?_
          rw [h4]
          rintro r w1 ⟨rfl, rfl⟩
          go_wp2_with fail
          go_ret2
          exact ⟨rfl, rfl⟩
        · rw [h3, h4] at h0
          exact absurd rfl h0
    · have g2 : decide (64 < (d.length : Int)) = true := by simp at h2 ⊢; omega
      simp only [Bool.or_true, cond_true]
      clear h0
      go_enter Try.func8, Try.ntmps8
      go_wp2_with fail
      go_ret2
      exact ⟨rfl, rfl⟩
  · have g1 : decide (200 < (p.length : Int)) = true := by simp at h1 ⊢; omega
    simp only [Bool.true_or, cond_true]
    clear h0
    go_enter Try.func8, Try.ntmps8
    go_wp2_with fail
    go_ret2
    exact ⟨rfl, rfl⟩
theorem ne_zero {p d : List Int} (h : ne p d = 0) : p.length ≤ 200 ∧ d.length ≤ 64 ∧ ab (-1) 1000 p = true ∧ ab 0 1000 d = true := by
  unfold ne at h
  cases h1 : decide (200 < p.length) <;> cases h2 : decide (64 < d.length) <;> cases h3 : ab (-1) 1000 p <;> cases h4 : ab 0 1000 d <;> rw [h1, h2, h3, h4] at h <;> simp at h h1 h2 ⊢
  exact ⟨h1, h2⟩
theorem new_ok (oa ob : Option Addr) (p d : List Int) (c e : Nat) (w : World) (hA : At w oa p) (hB : At w ob d) (h0 : ne p d = 0) :
    Calls Try.prog 8 #[.slice oa p.length c, .slice ob d.length e] w fun r w' => ∃ C, r = .returned (.tuple #[.pointer (some ⟨C, 0, none⟩), .int .i64 0]) ∧ w.heap.size ≤ C ∧ Cur w' C p d ∧ Below w.heap.size w w' := by
  obtain ⟨hp, hd, h3, h4⟩ := ne_zero h0
  have HA := hide hA
  have HB := hide hB
  clear hA hB h0
  have g1 : decide (200 < (p.length : Int)) = false := by simp; omega
  have g2 : decide (64 < (d.length : Int)) = false := by simp; omega
  go_enter Try.func8, Try.ntmps8
  go_wp2_with fail
  refine (between_any oa p c (-1) 1000 _ HA.out (by unfold maxLen; omega)).mono ?_
  rw [h3]
  rintro r w1 ⟨rfl, rfl⟩
  go_wp2_with fail
  refine (between_any ob d e 0 1000 _ HB.out (by unfold maxLen; omega)).mono ?_
  rw [h4]
  rintro r w1 ⟨rfl, rfl⟩
  go_wp2_with fail
  refine (fresh_any oa p c _ HA.out (by omega)).mono ?_
  rintro r w2 ⟨o1, c1, rfl, k1, k2, k3, k4⟩
  have K2 := hide k2
  have K4 := hide k4
  clear k2 k4
  go_wp2_with fail
  refine (fresh_any ob d e _ (HB.out.below K4.out) (by omega)).mono ?_
  rintro r w3 ⟨o2, c2, rfl, l1, l2, l3, l4⟩
  have L2 := hide l2
  have L4 := hide l4
  clear l2 l4
  go_wp2_with fail
  go_ret2
  have s1 := K4.out.size
  have s2 := L4.out.size
  exact ⟨w3.heap.size, rfl, by omega, ⟨o1, c1, o2, c2, heap_new _ _, ⟨(K2.out.below L4.out).below (below_alloc _ _), k1, fun a e => by have := k3 a e; omega⟩, L2.out.below (below_alloc _ _), l1, l3⟩, btr (btr K4.out L4.out) (below_alloc _ _)⟩

theorem copy_nil (w : World) :
    Calls Try.prog 19 #[.pointer none] w fun r w' => r = .returned (.pointer none) ∧ w' = w := by
  go_enter Try.func19, Try.ntmps19
  go_wp2_with fail
  go_ret
  exact ⟨rfl, rfl⟩
end Pk
end Go.Proofs.Ytabbmfaklekojab
