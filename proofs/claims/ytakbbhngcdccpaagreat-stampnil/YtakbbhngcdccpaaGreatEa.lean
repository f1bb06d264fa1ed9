/- Package reel: a number's bytes; spell, over this seat's program. -/
import Derived.Test.YtakbbhngcdccpaaGreatBa
namespace Go.Proofs.YtakbbhngcdccpaaGreat
open Go.ChangeShapes Go.WideShapes Go.ChangeAt Go.RowKit
namespace Re
open Ba

/-- the k lowest bytes of n, the highest first -/
def dg : Nat → Nat → List Nat
  | 0, _ => []
  | k + 1, n => n / 256 ^ k % 256 :: dg k n
theorem dg_length (k n : Nat) : (dg k n).length = k := by induction k with | zero => rfl | succ k ih => simp [dg, ih]
/-- how many bytes hold it -/
def nb (n : Nat) : Nat := if n < 256 then 1 else if n < 65536 then 2 else if n < 16777216 then 3 else if n < 4294967296 then 4 else if n < 1099511627776 then 5 else 6
set_option maxRecDepth 100000 in
theorem nb_is (n j : Nat) (hj : j ≤ 5) (h1 : j = 0 ∨ 256 ^ j ≤ n) (h2 : n < 256 ^ (j + 1)) : nb n = j + 1 := by
  have p1 : 256 ^ 1 = 256 := rfl
  have p2 : 256 ^ (1 + 1) = 65536 := rfl
  have p3 : 256 ^ (2 + 1) = 16777216 := rfl
  have p4 : 256 ^ (3 + 1) = 4294967296 := rfl
  have p5 : 256 ^ (4 + 1) = 1099511627776 := rfl
  unfold nb
  match j, hj with
  | 0, _ => rw [Nat.zero_add, p1] at h2; rw [if_pos h2]
  | 1, _ => rw [p2] at h2; rw [p1] at h1; rw [if_neg (by omega), if_pos h2]
  | 2, _ => rw [p3] at h2; rw [show 256 ^ 2 = 65536 from rfl] at h1; rw [if_neg (by omega), if_neg (by omega), if_pos h2]
  | 3, _ => rw [p4] at h2; rw [show 256 ^ 3 = 16777216 from rfl] at h1; rw [if_neg (by omega), if_neg (by omega), if_neg (by omega), if_pos h2]
  | 4, _ => rw [p5] at h2; rw [show 256 ^ 4 = 4294967296 from rfl] at h1; rw [if_neg (by omega), if_neg (by omega), if_neg (by omega), if_neg (by omega), if_pos h2]
  | 5, _ => rw [show 256 ^ 5 = 1099511627776 from rfl] at h1; rw [if_neg (by omega), if_neg (by omega), if_neg (by omega), if_neg (by omega), if_neg (by omega)]
theorem nb_le (n : Nat) : nb n ≤ 6 := by unfold nb; repeat' split
                                         all_goals omega
theorem nb_pos (n : Nat) : 1 ≤ nb n := by unfold nb; repeat' split
                                          all_goals omega
/-- a number's bytes -/
def spl (n : Nat) : List Nat := bif decide (n < 240) then [n] else (240 + nb n) :: dg (nb n) n
theorem spl_lo (n : Nat) (h : n < 240) : spl n = [n] := by simp [spl, h]
theorem spl_hi (n : Nat) (h : 240 ≤ n) : spl n = (240 + nb n) :: dg (nb n) n := by
  have : ¬ n < 240 := by omega
  simp [spl, this]

theorem spl_len (n : Nat) : 1 ≤ (spl n).length ∧ (spl n).length ≤ 7 := by
  by_cases h : n < 240
  · rw [spl_lo n h]; exact ⟨Nat.le_refl _, by simp⟩
  · rw [spl_hi n (by omega), List.length_cons, dg_length]
    have := nb_le n
    omega

/-- seven bytes, L at their end -/
def rm (L : List Nat) : Array Value := (List.replicate (7 - L.length) (Value.int .u8 0) ++ L.map fun b : Nat => Value.int .u8 (b : Int)).toArray
theorem rm_size (L : List Nat) (h : L.length ≤ 7) : (rm L).size = 7 := by simp [rm]; omega
theorem rm_push (L : List Nat) (b : Nat) (h : L.length < 7) : (rm L).setIfInBounds (7 - L.length - 1) (.int .u8 (b : Int)) = rm (b :: L) := by
  apply Array.toList_inj.1
  have e : 7 - L.length = (7 - L.length - 1) + 1 := by omega
  generalize hq : 7 - L.length - 1 = q at e
  have e2 : 7 - (b :: L).length = q := by simp; omega
  simp only [rm, e, e2, Array.toList_setIfInBounds, List.replicate_succ']
  simp
theorem rm_at0 (L : List Nat) (q : Nat) (h : q < 7 - L.length) : (rm L)[q]? = some (.int .u8 0) := by
  simp [rm, List.getElem?_append, h]
theorem rm_one (L : List Nat) : (rm L).all (·.oneCell') = true := by
  simp only [rm, List.all_toArray, List.all_append, Bool.and_eq_true, List.all_eq_true]
  refine ⟨fun v hv => ?_, fun v hv => ?_⟩
  · rw [List.eq_of_mem_replicate hv]; rfl
  · obtain ⟨k, _, rfl⟩ := List.mem_map.1 hv; rfl
theorem rm_nil : (#[.int .u8 0, .int .u8 0, .int .u8 0, .int .u8 0, .int .u8 0, .int .u8 0, .int .u8 0] : Array Value) = rm [] := rfl

/-- behind the last byte: the one ahead of them, if there are several, and the answer -/
theorem last (n j : Nat) (hj : j ≤ 5) (h1 : j = 0 ∨ 256 ^ j ≤ n) (h2 : n < 256 ^ (j + 1)) : (240 ≤ n → spl n = (240 + (j + 1)) :: dg (j + 1) n) ∧ (n < 240 → spl n = dg (j + 1) n) := by
  have e := nb_is n j hj h1 h2
  refine ⟨fun h => by rw [spl_hi n h, e], fun h => ?_⟩
  have j0 : j = 0 := by
    rcases h1 with h1 | h1
    · exact h1
    · by_cases q : j = 0
      · exact q
      · have : 256 ^ 1 ≤ 256 ^ j := Nat.pow_le_pow_right (by decide) (by omega)
        omega
  subst j0
  rw [spl_lo n h]
  simp [dg]
  omega

end Re
end Go.Proofs.YtakbbhngcdccpaaGreat
