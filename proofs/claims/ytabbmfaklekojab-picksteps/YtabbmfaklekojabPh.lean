/- The reference's New, over this seat's program. -/
import Derived.Test.YtabbmfaklekojabPg
namespace Go.Proofs.Ytabbmfaklekojab
open Go.ChangeShapes Go.WideShapes Go.ChangeAt Go.RowKit
namespace Pk
open Ba

theorem ab_no {lo hi : Int} {l : List Int} {k : Nat} (hk : k < l.length) (h : nth l k < lo ∨ hi < nth l k) : ab lo hi l = false := by
  rw [← Bool.not_eq_true]
  intro e
  have := ab_nth.1 e k hk
  omega
theorem ne_long {p d : List Int} (h : 200 < p.length ∨ 64 < d.length) : ne p d = 2 := by
  unfold ne
  have : (decide (200 < p.length) || decide (64 < d.length)) = true := by simp; omega
  rw [this]
  rfl
theorem ne_4 {p d : List Int} (h1 : p.length ≤ 200) (h2 : d.length ≤ 64) (h : ab (-1) 1000 p = false ∨ ab 0 1000 d = false) : ne p d = 4 := by
  unfold ne
  have : (decide (200 < p.length) || decide (64 < d.length)) = false := by simp; omega
  rw [this]
  rcases h with h | h <;> rw [h] <;> simp
theorem ne_0 {p d : List Int} (h1 : p.length ≤ 200) (h2 : d.length ≤ 64) (h3 : ab (-1) 1000 p = true) (h4 : ab 0 1000 d = true) : ne p d = 0 := by
  unfold ne
  have : (decide (200 < p.length) || decide (64 < d.length)) = false := by simp; omega
  rw [this, h3, h4]
  rfl

/-- what the reference's New answers -/
def RN (w : World) (N : Nat) (p d : List Int) (r : Ending) (w' : World) : Prop :=
  (ne p d ≠ 0 ∧ r = .returned (.tuple #[.pointer none, .int .i64 (ne p d)]) ∧ w' = w) ∨ (ne p d = 0 ∧ r = .returned (.tuple #[.pointer (some ⟨w.heap.size, 0, none⟩), .int .i64 0]) ∧ RCur w' w.heap.size N p d ∧ Below w.heap.size w w')

set_option maxHeartbeats 3200000 in
theorem rnew_any (oa ob : Option Addr) (p d : List Int) (c e N : Nat) (w : World) (nA : 0 < p.length → ∀ a, oa = some a → a.block < N) (nB : 0 < d.length → ∀ a, ob = some a → a.block < N) (hA : At w oa p) (hB : At w ob d) (hp : p.length ≤ maxLen) (hd : d.length ≤ maxLen) :
    Calls Try.prog 9 #[.slice oa p.length c, .slice ob d.length e] w fun r w' => RN w N p d r w' := by
  have HA := hide hA
  have HB := hide hB
  have NA := hide nA
  have NB := hide nB
  unfold maxLen at hp hd
  clear hA hB nA nB
  by_cases h1 : 200 < p.length
  · have g1 : decide (200 < (p.length : Int)) = true := by simp; omega
    have E := hide (ne_long (p := p) (d := d) (.inl h1))
    go_enter Try.func9, Try.ntmps9
    go_wp2_with fail
    go_ret2
    exact .inl ⟨by rw [E.out]; decide, by rw [E.out]; rfl, rfl⟩
  have g1 : decide (200 < (p.length : Int)) = false := by simp; omega
  by_cases h2 : 64 < d.length
  · have g2 : decide (64 < (d.length : Int)) = true := by simp; omega
    have E := hide (ne_long (p := p) (d := d) (.inr h2))
    go_enter Try.func9, Try.ntmps9
    go_wp2_with fail
    go_ret2
    exact .inl ⟨by rw [E.out]; decide, by rw [E.out]; rfl, rfl⟩
  have g2 : decide (64 < (d.length : Int)) = false := by simp; omega
  go_enter Try.func9, Try.ntmps9
  go_wp2_with fail
  go_loop [20] (fun i => ∃ k : Nat, k ≤ p.length ∧ i = .int .i64 k ∧ ∀ j, j < k → -1 ≤ nth p j ∧ nth p j ≤ 1000) (fun i => p.length - (intOf i).toNat)
  case atStart => exact ⟨0, Nat.zero_le _, rfl, fun j hj => absurd hj (Nat.not_lt_zero _)⟩
  case round =>
    obtain ⟨k, hk, rfl, hall⟩ := hrel
    have HE := hide hall
    clear hall
    by_cases hlt : k < p.length
    · obtain ⟨b1, o1, rfl, hc1⟩ := HA.out k hlt
      have hlt' : (k : Int) < (p.length : Int) := by omega
      cases e1 : decide (nth p k < -1)
      · cases e2 : decide (1000 < nth p k)
        · have HX : Hid (-1 ≤ nth p k ∧ nth p k ≤ 1000) := by show _ ∧ _; simp at e1 e2; omega
          go_wp2_with fail
          go_round
          case rel => exact ⟨k + 1, by omega, by go_num, fun j hj => by
            by_cases e : j = k
            · subst e; exact HX.out
            · exact HE.out j (by omega)⟩
          case measure => simp [intOf]; omega
        · have E : Hid (ne p d = 4) := ne_4 (by omega) (by omega) (.inl (ab_no hlt (.inr (by simpa using e2))))
          go_wp2_with fail
          go_ret2
          exact .inl ⟨by rw [E.out]; decide, by rw [E.out]; rfl, rfl⟩
      · have E : Hid (ne p d = 4) := ne_4 (by omega) (by omega) (.inl (ab_no hlt (.inl (by simpa using e1))))
        go_wp2_with fail
        go_ret2
        exact .inl ⟨by rw [E.out]; decide, by rw [E.out]; rfl, rfl⟩
    · have hlt' : ¬ ((k : Int) < (p.length : Int)) := by omega
      have AP : Hid (ab (-1) 1000 p = true) := ab_nth.2 fun j hj => HE.out j (by omega)
      clear HE
      go_wp2_with fail
      go_loop [33] (fun i => ∃ k : Nat, k ≤ d.length ∧ i = .int .i64 k ∧ ∀ j, j < k → 0 ≤ nth d j ∧ nth d j ≤ 1000) (fun i => d.length - (intOf i).toNat)
      case atStart => exact ⟨0, Nat.zero_le _, rfl, fun j hj => absurd hj (Nat.not_lt_zero _)⟩
      case round =>
        obtain ⟨i, hi, rfl, hall⟩ := hrel
        have HE := hide hall
        clear hall
        by_cases hil : i < d.length
        · obtain ⟨b1, o1, rfl, hc1⟩ := HB.out i hil
          have hil' : (i : Int) < (d.length : Int) := by omega
          cases e1 : decide (nth d i < 0)
          · cases e2 : decide (1000 < nth d i)
            · have HX : Hid (0 ≤ nth d i ∧ nth d i ≤ 1000) := by show _ ∧ _; simp at e1 e2; omega
              go_wp2_with fail
              go_round
              case rel => exact ⟨i + 1, by omega, by go_num, fun j hj => by
                by_cases e : j = i
                · subst e; exact HX.out
                · exact HE.out j (by omega)⟩
              case measure => simp [intOf]; omega
            · have E : Hid (ne p d = 4) := ne_4 (by omega) (by omega) (.inr (ab_no hil (.inr (by simpa using e2))))
              go_wp2_with fail
              go_ret2
              exact .inl ⟨by rw [E.out]; decide, by rw [E.out]; rfl, rfl⟩
          · have E : Hid (ne p d = 4) := ne_4 (by omega) (by omega) (.inr (ab_no hil (.inl (by simpa using e1))))
            go_wp2_with fail
            go_ret2
            exact .inl ⟨by rw [E.out]; decide, by rw [E.out]; rfl, rfl⟩
        · have hil' : ¬ ((i : Int) < (d.length : Int)) := by omega
          have AD : Hid (ab 0 1000 d = true) := ab_nth.2 fun j hj => HE.out j (by omega)
          clear HE
          go_wp2_with fail
          go_ret2
          refine .inr ⟨ne_0 (by omega) (by omega) AP.out AD.out, rfl, ?_, below_alloc _ _⟩
          exact ⟨oa, c, ob, e, 0, 0, p, d, heap_new _ _, ⟨HA.out.below (below_alloc _ _), Nat.zero_le _, rfl, by omega, NA.out⟩, HB.out.below (below_alloc _ _), Nat.zero_le _, rfl, by omega, NB.out⟩
end Pk
end Go.Proofs.Ytabbmfaklekojab
