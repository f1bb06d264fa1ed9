/- Layer 25 (matrix), over this seat's program: Set. -/
import Derived.Test.YtdfjcmlafhannaaNa3
namespace Go.Proofs.Ytdfjcmlafhannaa
open Go.ChangeShapes Go.WideShapes Go.ChangeAt Go.RowKit
namespace Mx
open Ba (KB btr heap_lt cell_of frozen_of ret_bool ret_int bdrew)

theorem heap_set {w : World} {b c k : Nat} {v : Value} (h : b ≠ c) : (w.setCell ⟨c, k, none⟩ v).heap[b]? = w.heap[b]? := Below.heap_setCell _ _ _ _ h
theorem mul_in {L i j a b : Nat} (hj : j < L) (hb : b < L) (h : i * L + j = a * L + b) : i = a ∧ j = b := by
  have h1 : (i * L + j) / L = i := by rw [Nat.mul_comm, Nat.mul_add_div (by omega)]; simp [Nat.div_eq_of_lt hj]
  have h2 : (a * L + b) / L = a := by rw [Nat.mul_comm, Nat.mul_add_div (by omega)]; simp [Nat.div_eq_of_lt hb]
  have : i = a := by rw [← h1, h, h2]
  subst this
  exact ⟨rfl, by omega⟩
/-- a word is written -/
theorem MW.put {w : World} {M R W n : Nat} {r : Rws} (m : MW w M R W n r) (i j x : Nat) (hi : i < n) (hj : j < ln n) {r' : Rws} (hb : Bd n r') (hx : wd (r' i) j = x) (ho : ∀ a b, a < n → b < ln n → (a = i ∧ b = j) ∨ wd (r' a) b = wd (r a) b) :
    MW (w.setCell ⟨W, i * ln n + j, none⟩ (.int .u64 (x : Int))) M R W n r' := by
  refine ⟨m.le, ?_, ?_, ?_, ?_, m.mw, m.rw, hb, by simp [World.setCell]; exact m.rl, by simp [World.setCell]; exact m.wl⟩
  · rw [heap_set m.mw]; exact m.hd
  · intro a ha
    rw [cell_kept (heap_set m.rw)]; exact m.row a ha
  · intro a b ha hbb
    by_cases e : a = i ∧ b = j
    · obtain ⟨rfl, rfl⟩ := e
      rw [hx]
      exact World.cell?_setCell_same _ _ _ (m.wrd a b ha hbb)
    · rcases ho a b ha hbb with q | q
      · exact absurd q e
      · rw [q, ← m.wrd a b ha hbb]
        refine World.cell?_setCell_other _ _ _ _ ?_
        intro q2
        simp only [Addr.mk.injEq, true_and, and_true] at q2
        exact e (mul_in hbb hj q2.symm)
  · intro k
    rw [World.frozen?_setCell]; exact m.frz k
set_option maxRecDepth 100000 in
set_option maxHeartbeats 1600000 in
theorem set_in {w : World} {M R W n : Nat} {r : Rws} (m : MW w M R W n r) (i k : Nat) (hi : i < n) (hk : k < n) :
    Calls Try.prog 11 #[.pointer (some ⟨M, 0, none⟩), .int .i64 (i : Int), .int .i64 (k : Int)] w fun e w' => e = .returned (.int .i64 0) ∧ MW w' M R W n (set1 r i k) ∧ KB W w w' := by
  have hj : k / 64 < ln n := by unfold ln; omega
  have SZ := hide (size_any m)
  have BI := hide (fun u => bit_any k u (by have := m.le; omega))
  have hle := m.le
  have hl := ln_le m.le
  have c0 := m.mcell
  have c1 := m.row i hi
  have c2 := m.wrd i (k / 64) hi hj
  have f2 := m.frz (i * ln n + k / 64)
  have OR := hide (or_bt (r i) k)
  have END : Hid (MW (w.setCell ⟨W, i * ln n + k / 64, none⟩ (.int .u64 ((wd (r i) (k / 64) ||| 2 ^ (k % 64) : Nat) : Int))).drew M R W n (set1 r i k) ∧ KB W w (w.setCell ⟨W, i * ln n + k / 64, none⟩ (.int .u64 ((wd (r i) (k / 64) ||| 2 ^ (k % 64) : Nat) : Int))).drew) := by
    refine ⟨?_, ((KB.refl W w).setCell _ _).trans (KB.of (Ba.bdrew1 _))⟩
    refine (MW.put m i (k / 64) _ hi hj (m.bd.set1 i k hk) ?_ ?_).keep rfl rfl rfl
    · simp only [set1, upd_same, wd_set, if_true]
    · intro a b ha hb
      by_cases e : a = i
      · subst e
        by_cases e2 : b = k / 64
        · exact .inl ⟨rfl, e2⟩
        · right; simp only [set1, upd_same, wd_set, e2, if_false]
      · right; simp only [set1, upd_ne _ _ _ _ e]
  have O2 := OR.out
  clear OR
  generalize wd (r i) (k / 64) ||| 2 ^ (k % 64) = y at *
  generalize hx : wd (r i) (k / 64) = x at *
  clear hx
  have hq : ((k : Int) / 64) = ((k / 64 : Nat) : Int) := by omega
  have hq2 : (k : Int).tdiv 64 = ((k / 64 : Nat) : Int) := by rw [Int.tdiv_eq_ediv_of_nonneg (by omega)]; exact hq
  have hq3 : IntKind.i64.wrap ((k / 64 : Nat) : Int) = ((k / 64 : Nat) : Int) := by rw [IntKind.wrap_i64]; omega
  generalize k / 64 = kq at *
  generalize i * ln n = il at *
  generalize ln n = L at *
  have a1 : decide ((i : Int) < 0) = false := by simp
  have a2 : decide ((k : Int) < 0) = false := by simp
  have a3 : decide ((n : Int) ≤ (i : Int)) = false := by simp; omega
  have a4 : decide ((n : Int) ≤ (k : Int)) = false := by simp; omega
  have a5 : (kq : Int) < (L : Int) := by omega
  have a6 : (i : Int) < (n : Int) := by omega
  clear m
  go_enter Try.func11, Try.ntmps11
  go_wp2_with fail
  refine SZ.out.mono ?_
  rintro e w1 ⟨rfl, e1⟩
  obtain rfl := e1.symm
  go_wp2_with fail
  refine SZ.out.mono ?_
  rintro e w1 ⟨rfl, e1⟩
  obtain rfl := e1.symm
  go_wp2_with fail
  go_region_with (go_at_call 24; refine (BI.out _).mono ?_; rintro e w1 ⟨rfl, rfl⟩)
  all_goals
    go_wp2
    go_ret
    exact ⟨rfl, END.out⟩
set_option maxHeartbeats 800000 in
theorem set_neg (p : Option Addr) (i k : Int) (h : i < 0 ∨ k < 0) (w : World) :
    Calls Try.prog 11 #[.pointer p, .int .i64 i, .int .i64 k] w fun e w' => e = .returned (.int .i64 1) ∧ w' = w := by
  by_cases h1 : i < 0
  · have a1 : decide (i < 0) = true := by simpa using h1
    clear h h1
    go_enter Try.func11, Try.ntmps11
    go_wp2
    go_ret
    exact ⟨rfl, rfl⟩
  · have a1 : decide (i < 0) = false := by simpa using h1
    have a2 : decide (k < 0) = true := by simp; omega
    clear h h1
    go_enter Try.func11, Try.ntmps11
    go_wp2
    go_ret
    exact ⟨rfl, rfl⟩
set_option maxHeartbeats 800000 in
theorem set_nil (i k : Int) (h1 : 0 ≤ i) (h2 : 0 ≤ k) (w : World) :
    Calls Try.prog 11 #[.pointer none, .int .i64 i, .int .i64 k] w fun e w' => e = .returned (.int .i64 7) ∧ w' = w := by
  have a1 : decide (i < 0) = false := by simpa using h1
  have a2 : decide (k < 0) = false := by simpa using h2
  clear h1 h2
  go_enter Try.func11, Try.ntmps11
  go_wp2
  go_ret
  exact ⟨rfl, rfl⟩
set_option maxHeartbeats 800000 in
theorem set_out {w : World} {M R W n : Nat} {r : Rws} (m : MW w M R W n r) (i k : Int) (h : inB n i k = false) :
    Calls Try.prog 11 #[.pointer (some ⟨M, 0, none⟩), .int .i64 i, .int .i64 k] w fun e w' => e = .returned (.int .i64 1) ∧ w' = w := by
  by_cases hn : i < 0 ∨ k < 0
  · exact set_neg _ i k hn w
  · have SZ := hide (size_any m)
    have a1 : decide (i < 0) = false := by simp; omega
    have a2 : decide (k < 0) = false := by simp; omega
    by_cases h3 : i < (n : Int)
    · have a3 : decide ((n : Int) ≤ i) = false := by simpa using h3
      have a4 : decide ((n : Int) ≤ k) = true := by
        cases e : decide ((n : Int) ≤ k)
        · exfalso
          have : inB n i k = true := (inB_iff n i k).2 (by simp at e; omega)
          rw [this] at h; cases h
        · rfl
      clear h hn h3 m
      go_enter Try.func11, Try.ntmps11
      go_wp2_with fail
      refine SZ.out.mono ?_
      rintro e w1 ⟨rfl, e1⟩
      obtain rfl := e1.symm
      go_wp2_with fail
      refine SZ.out.mono ?_
      rintro e w1 ⟨rfl, e1⟩
      obtain rfl := e1.symm
      go_wp2
      go_ret
      exact ⟨rfl, rfl⟩
    · have a3 : decide ((n : Int) ≤ i) = true := by simp; omega
      clear h hn h3 m
      go_enter Try.func11, Try.ntmps11
      go_wp2_with fail
      refine SZ.out.mono ?_
      rintro e w1 ⟨rfl, e1⟩
      obtain rfl := e1.symm
      go_wp2
      go_ret
      exact ⟨rfl, rfl⟩
/-- what Set answers -/
def setE (n : Nat) (i k : Int) : Int := if inB n i k then 0 else 1
def setR (n : Nat) (r : Rws) (i k : Int) : Rws := if 0 ≤ i ∧ i < n ∧ 0 ≤ k ∧ k < n then set1 r i.toNat k.toNat else r
theorem set_any {w : World} {M R W n : Nat} {r : Rws} (m : MW w M R W n r) (i k : Int) :
    Calls Try.prog 11 #[.pointer (some ⟨M, 0, none⟩), .int .i64 i, .int .i64 k] w fun e w' => e = .returned (.int .i64 (setE n i k)) ∧ MW w' M R W n (setR n r i k) ∧ KB W w w' := by
  cases h : inB n i k
  · refine (set_out m i k h).mono ?_
    rintro e w1 ⟨rfl, rfl⟩
    have hn : ¬ (0 ≤ i ∧ i < (n : Int) ∧ 0 ≤ k ∧ k < (n : Int)) := fun q => by
      have : inB n i k = true := (inB_iff n i k).2 (by omega)
      rw [this] at h; cases h
    refine ⟨by simp [setE, h], ?_, KB.refl _ _⟩
    unfold setR; rw [if_neg hn]; exact m
  · have hq := (inB_iff n i k).1 h
    obtain ⟨a, rfl⟩ := Int.eq_ofNat_of_zero_le hq.1
    obtain ⟨b, rfl⟩ := Int.eq_ofNat_of_zero_le hq.2.1
    refine (set_in m a b (by omega) (by omega)).mono ?_
    rintro e w1 ⟨rfl, m1, k1⟩
    refine ⟨by simp [setE, h], ?_, k1⟩
    unfold setR; rw [if_pos (by omega), Int.toNat_natCast, Int.toNat_natCast]; exact m1
end Mx
end Go.Proofs.Ytdfjcmlafhannaa
