/- Package pick: Nth, over this seat's program. -/
import Derived.Test.YtabbmfaklekojabPe
import Derived.Test.YtabbmfaklekojabBb
namespace Go.Proofs.Ytabbmfaklekojab
open Go.ChangeShapes Go.WideShapes Go.ChangeAt Go.RowKit
namespace Pk
open Ba

def ofx (p : Int) (l : List Int) : Int := if p < 0 then 0 else if l.length = 0 then 0 else nth l (p.toNat % l.length)
def ofe (p : Int) (l : List Int) : Int := if p < 0 then 1 else if l.length = 0 then 6 else 0
theorem of_any (p : Int) (oa : Option Addr) (l : List Int) (c : Nat) (w : World) (hA : At w oa l) (hm : l.length ≤ maxLen) :
    Calls Try.prog 16 #[.int .i64 p, .slice oa l.length c] w fun r w' => r = .returned (.tuple #[.int .i64 (ofx p l), .int .i64 (ofe p l)]) ∧ w' = w := by
  by_cases h : p < 0
  · simp only [ofx, ofe, if_pos h]
    exact of_neg p oa _ c w h
  · obtain ⟨n, rfl⟩ := Int.eq_ofNat_of_zero_le (show 0 ≤ p by omega)
    by_cases h0 : l.length = 0
    · simp only [ofx, ofe, if_neg h, h0, if_true]
      exact of_none n oa c w
    · simp only [ofx, ofe, if_neg h, if_neg h0, Int.toNat_natCast]
      exact of_ok n oa l c w hA (by omega) hm
theorem rof_any (p : Int) (oa : Option Addr) (l : List Int) (c : Nat) (w : World) (hA : At w oa l) (hm : l.length ≤ maxLen) :
    Calls Try.prog 17 #[.int .i64 p, .slice oa l.length c] w fun r w' => r = .returned (.tuple #[.int .i64 (ofx p l), .int .i64 (ofe p l)]) ∧ w' = w := by
  by_cases h : p < 0
  · simp only [ofx, ofe, if_pos h]
    exact rof_neg p oa _ c w h
  · obtain ⟨n, rfl⟩ := Int.eq_ofNat_of_zero_le (show 0 ≤ p by omega)
    by_cases h0 : l.length = 0
    · simp only [ofx, ofe, if_neg h, h0, if_true]
      exact rof_none n oa c w
    · simp only [ofx, ofe, if_neg h, if_neg h0, Int.toNat_natCast]
      exact rof_ok n oa l c w hA (by omega) hm

/-- how many of the first k are so -/
def cnt (l : List Bool) (k : Nat) : Nat := ((l.take k).filter id).length
theorem cnt_zero (l : List Bool) : cnt l 0 = 0 := by simp [cnt]
theorem cnt_t {l : List Bool} {k : Nat} (h : l[k]? = some true) : cnt l (k + 1) = cnt l k + 1 := by
  unfold cnt
  rw [List.take_add_one, h, List.filter_append]
  simp
theorem cnt_f {l : List Bool} {k : Nat} (h : l[k]? = some false) : cnt l (k + 1) = cnt l k := by
  unfold cnt
  rw [List.take_add_one, h, List.filter_append]
  simp
theorem cnt_le (l : List Bool) (k : Nat) : cnt l k ≤ k := by
  unfold cnt
  have h1 := List.length_filter_le id (l.take k)
  have h2 := List.length_take_le k l
  omega
theorem cnt_mono (l : List Bool) (k j : Nat) : cnt l k ≤ cnt l (k + j) := by
  induction j with
  | zero => exact Nat.le_refl _
  | succ j ih =>
    rw [← Nat.add_assoc]
    cases h : l[k + j]? with
    | none =>
      have : cnt l (k + j + 1) = cnt l (k + j) := by
        unfold cnt
        rw [List.take_add_one, h]
        simp
      omega
    | some b =>
      cases b
      · rw [cnt_f h]; exact ih
      · rw [cnt_t h]; omega
/-- what Nth answers -/
def NthIs (l : List Bool) (p : Int) (at_ : Int) (ok : Bool) : Prop :=
  (ok = true ∧ ∃ k : Nat, at_ = (k : Int) ∧ l[k]? = some true ∧ (cnt l k : Int) = p) ∨ (ok = false ∧ at_ = 0 ∧ ∀ k, l[k]? = some true → (cnt l k : Int) ≠ p)
def NthR (l : List Bool) (p : Int) (r : Ending) : Prop := ∃ at_ ok, r = .returned (.tuple #[.int .i64 at_, .bool ok]) ∧ NthIs l p at_ ok
theorem cnt_one {l : List Bool} {i j : Nat} (hi : l[i]? = some true) (hj : l[j]? = some true) (h : cnt l i = cnt l j) : i = j := by
  rcases Nat.lt_trichotomy i j with q | q | q
  · have := cnt_mono l (i + 1) (j - (i + 1))
    rw [show i + 1 + (j - (i + 1)) = j by omega, cnt_t hi] at this
    omega
  · exact q
  · have := cnt_mono l (j + 1) (i - (j + 1))
    rw [show j + 1 + (i - (j + 1)) = i by omega, cnt_t hj] at this
    omega

set_option maxHeartbeats 1600000 in
theorem nth_any (oa : Option Addr) (l : List Bool) (c : Nat) (p : Int) (w : World) (hA : BAt w oa l) (hm : l.length ≤ maxLen) :
    Calls Try.prog 18 #[.slice oa l.length c, .int .i64 p] w fun r w' => NthR l p r ∧ w' = w := by
  have HA := hide hA
  clear hA
  unfold maxLen at hm
  go_enter Try.func18, Try.ntmps18
  go_wp2_with fail
  go_loop [11, 6] (fun i n => ∃ k : Nat, k ≤ l.length ∧ i = .int .i64 k ∧ n = .int .i64 (cnt l k : Int) ∧ ∀ j, j < k → l[j]? = some true → (cnt l j : Int) ≠ p) (fun i _ => l.length - (intOf i).toNat)
  case atStart => exact ⟨0, Nat.zero_le _, rfl, by rw [cnt_zero]; rfl, fun j hj => absurd hj (Nat.not_lt_zero _)⟩
  case round =>
    obtain ⟨k, hk, rfl, rfl, hall⟩ := hrel
    have HE := hide hall
    have hcl := cnt_le l k
    clear hall
    by_cases hlt : k < l.length
    · have hlt' : (k : Int) < (l.length : Int) := by omega
      cases hb : l[k]? with
      | none => rw [List.getElem?_eq_none_iff] at hb; omega
      | some x =>
        obtain ⟨b1, o1, rfl, hc1⟩ := HA.out k x hb
        have HB := hide hb
        clear hb
        cases x
        · have HC := hide (cnt_f HB.out)
          go_wp2_with fail
          go_round
          case rel => exact ⟨k + 1, by omega, by go_num, by rw [HC.out], fun j hj hj2 => by
            by_cases e : j = k
            · subst e; rw [HB.out] at hj2; cases hj2
            · exact HE.out j (by omega) hj2⟩
          case measure => simp [intOf]; omega
        · have HC := hide (cnt_t HB.out)
          cases he : ((cnt l k : Int) == p)
          · have HN : Hid ((cnt l k : Int) ≠ p) := by show _ ≠ _; simpa using he
            go_wp2_with fail
            go_round
            case rel => exact ⟨k + 1, by omega, by go_num, by rw [HC.out]; go_num, fun j hj hj2 => by
              by_cases e : j = k
              · subst e; exact HN.out
              · exact HE.out j (by omega) hj2⟩
            case measure => simp [intOf]; omega
          · have HN : Hid ((cnt l k : Int) = p) := by show _ = _; simpa using he
            go_wp2_with fail
            go_ret2
            exact ⟨⟨_, _, rfl, .inl ⟨rfl, k, rfl, HB.out, HN.out⟩⟩, rfl⟩
    · have hlt' : ¬ ((k : Int) < (l.length : Int)) := by omega
      go_wp2_with fail
      go_ret2
      exact ⟨⟨_, _, rfl, .inr ⟨rfl, rfl, fun j hj => HE.out j (by have := (List.getElem?_eq_some_iff.1 hj).1; omega) hj⟩⟩, rfl⟩
end Pk
end Go.Proofs.Ytabbmfaklekojab
