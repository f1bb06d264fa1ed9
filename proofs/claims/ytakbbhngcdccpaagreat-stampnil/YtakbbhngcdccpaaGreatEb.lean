/- Package reel: Put and Size, over this seat's program. -/
import Derived.Test.YtakbbhngcdccpaaGreatEa
import Derived.Laws.IdiomStrings
namespace Go.Proofs.YtakbbhngcdccpaaGreat
open Go.ChangeShapes Go.WideShapes Go.ChangeAt Go.RowKit
namespace Re
open Ba

/-- bytes as a string -/
def bs (L : List Nat) : ByteArray := ⟨(L.map fun b => UInt8.ofNat b).toArray⟩
def okR (n : Int) : Bool := decide (0 ≤ n) && decide (n ≤ 1099511627776)
theorem okR_iff (n : Int) : okR n = true ↔ 0 ≤ n ∧ n ≤ 1099511627776 := by simp [okR]

theorem okR_nat (n : Nat) (h : n ≤ 1099511627776) : okR (n : Int) = true := by rw [okR_iff]; omega

/-- the bytes that a room holds from a on -/
theorem rm_from (L : List Nat) (a k : Nat) (ha : a + L.length = 7) (hk : k < L.length) (hL : ∀ b ∈ L, b < 256) : (rm L)[a + k]? = some (.int .u8 ((UInt8.ofNat L[k]).toNat : Int)) := by
  have e : 7 - L.length = a := by omega
  have hb := hL L[k] (List.getElem_mem hk)
  have e2 : (UInt8.ofNat L[k]).toNat = L[k] := by simp; omega
  rw [e2]
  simp [rm, e, hk]
theorem dg_lt (k n : Nat) : ∀ b ∈ dg k n, b < 256 := by
  induction k with
  | zero => intro b hb; simp [dg] at hb
  | succ k ih =>
    intro b hb
    simp [dg] at hb
    rcases hb with rfl | hb
    · exact Nat.mod_lt _ (by decide)
    · exact ih b hb
theorem spl_lt (n : Nat) : ∀ b ∈ spl n, b < 256 := by
  intro b hb
  by_cases h : n < 240
  · rw [spl_lo n h] at hb; simp at hb; omega
  · rw [spl_hi n (by omega)] at hb
    simp at hb
    have := nb_le n
    rcases hb with rfl | hb
    · omega
    · exact dg_lt _ _ b hb
theorem size_byte : (Tryz.prog.info? 5).map (·.size) = some 1 := by kernel_rfl
theorem sz_byte (w : World) : (sizeOf 5).run Tryz.prog w = .ok 1 w := by
  have := size_byte
  cases hq : Tryz.prog.info? 5 with
  | none => rw [hq] at this; simp at this
  | some i =>
    rw [hq] at this
    simp at this
    simp [sizeOf, typeInfo, hq, this]
end Re
end Go.Proofs.YtakbbhngcdccpaaGreat
