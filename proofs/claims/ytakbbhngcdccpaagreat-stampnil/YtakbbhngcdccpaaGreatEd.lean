/- Package reel: Take, over this seat's program. -/
import Derived.Test.YtakbbhngcdccpaaGreatEc
namespace Go.Proofs.YtakbbhngcdccpaaGreat
open Go.ChangeShapes Go.WideShapes Go.ChangeAt Go.RowKit
namespace Re
open Ba

/-- bytes as numbers -/
def nbs (s : ByteArray) : List Nat := s.data.toList.map UInt8.toNat
/-- the number of bytes, the highest first -/
def vl (L : List Nat) : Nat := L.foldl (fun a b => 256 * a + b) 0
def szn (n : Nat) : Nat := if n ≤ 1099511627776 then (spl n).length else 0
/-- the number with which bytes begin, and how many are its own -/
def tk : List Nat → Option (Nat × Nat)
  | [] => none
  | b :: t => if b < 240 then some (b, 1) else
      if 1 ≤ b - 240 ∧ b - 240 ≤ 6 ∧ b - 240 ≤ t.length ∧ szn (vl (t.take (b - 240))) = 1 + (b - 240) then some (vl (t.take (b - 240)), 1 + (b - 240)) else none

theorem toList_is (s : ByteArray) : s.toList = s.data.toList := ByteArray.toList_eq s
theorem ne_empty (s : ByteArray) (h : 0 < s.size) : s.toList.isEmpty = false := by
  rw [toList_is]
  have : 0 < s.data.toList.length := h
  cases hs : s.data.toList with
  | nil => rw [hs] at this; simp at this
  | cons a t => rfl
/-- the k'th byte of a string -/
theorem ix_str (s : ByteArray) (k b : Nat) (hk : (nbs s)[k]? = some b) (w : World) : (Instr.index 9 (.string s) (.int .i64 (k : Int))).run Tryz.prog w = .ok (.int .u8 (b : Int)) w := by
  have hl : k < s.size := by
    have := (List.getElem?_eq_some_iff.1 hk).1
    simpa [nbs] using this
  rw [run_index_string (P := Tryz.prog) w 9 s .i64 (k : Int) Tryz.underlying9, dif_pos ⟨by omega, by omega⟩]
  have e : s[k].toNat = b := by
    have := (List.getElem?_eq_some_iff.1 hk).2
    simp [nbs] at this
    exact this
  rw [← e]
  rfl
end Re
end Go.Proofs.YtakbbhngcdccpaaGreat
