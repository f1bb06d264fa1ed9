/- The reference's Decode of whatever bytes, over this seat's program. -/
import Derived.Test.YtabbmfaklekojaaDv
namespace Go.Proofs.Ytabbmfaklekojaa
open Go.ChangeShapes Go.WideShapes Go.ChangeAt Go.RowKit
namespace De
open Ba Re

theorem rdecode_any (s : ByteArray) (p : Int) (w : World) (hp : okP p = true) (hs : s.size ≤ maxLen) :
    Calls Try.prog 10 #[.string s, .int .i64 p] w fun r w' => RD s p r w' ∧ Below w.heap.size w w' := by
  have one : ∀ n k : Nat, 1 ≤ n → n ≤ 9 → tk (nbs s) = some (n, k) → ((sA (n : Int) : Int) != 46) = true → ((sB (n : Int) : Int) != 46) = false → ((n : Int) == 6) = false → nf (n : Int) = 1 → Calls Try.prog 10 #[.string s, .int .i64 p] w fun r w' => RD s p r w' ∧ Below w.heap.size w w' := by
    intro n k h1 h9 ht hA hB h6 h0
    cases ha : tk ((nbs s).drop k) with
    | none => exact rdecode_1n s p w hp hs n k h1 h9 ht hA hB h6 h0 ha
    | some q =>
      obtain ⟨a, q⟩ := q
      exact rdecode_1 s p w hp hs n k h1 h9 ht hA hB h6 h0 a q ha
  have two : ∀ n k : Nat, 1 ≤ n → n ≤ 9 → tk (nbs s) = some (n, k) → ((sA (n : Int) : Int) != 46) = true → ((sB (n : Int) : Int) != 46) = true → ((n : Int) == 6) = false → nf (n : Int) = 2 → Calls Try.prog 10 #[.string s, .int .i64 p] w fun r w' => RD s p r w' ∧ Below w.heap.size w w' := by
    intro n k h1 h9 ht hA hB h6 h0
    cases ha : tk ((nbs s).drop k) with
    | none => exact rdecode_2n s p w hp hs n k h1 h9 ht hA hB h6 h0 ha
    | some q =>
      obtain ⟨a, q⟩ := q
      cases hb : tk ((nbs s).drop (k + q)) with
      | none => exact rdecode_2m s p w hp hs n k h1 h9 ht hA hB h6 h0 a q ha hb
      | some t =>
        obtain ⟨b, t⟩ := t
        exact rdecode_2 s p w hp hs n k h1 h9 ht hA hB h6 h0 a q ha b t hb
  cases ht : tk (nbs s) with
  | none => exact rdecode_n s p w hp hs ht
  | some q =>
    obtain ⟨n, k⟩ := q
    by_cases hx : n < 1 ∨ 9 < n
    · exact rdecode_x s p w hp hs n k ht hx
    · have h1 : 1 ≤ n := by omega
      have h9 : n ≤ 9 := by omega
      have hc : n = 1 ∨ n = 2 ∨ n = 3 ∨ n = 4 ∨ n = 5 ∨ n = 6 ∨ n = 7 ∨ n = 8 ∨ n = 9 := by omega
      rcases hc with rfl | rfl | rfl | rfl | rfl | rfl | rfl | rfl | rfl
      · exact one 1 k h1 h9 ht (by decide) (by decide) (by decide) (by decide)
      · exact two 2 k h1 h9 ht (by decide) (by decide) (by decide) (by decide)
      · exact two 3 k h1 h9 ht (by decide) (by decide) (by decide) (by decide)
      · exact one 4 k h1 h9 ht (by decide) (by decide) (by decide) (by decide)
      · exact one 5 k h1 h9 ht (by decide) (by decide) (by decide) (by decide)
      · exact rdecode_6 s p w hp hs k ht
      · exact one 7 k h1 h9 ht (by decide) (by decide) (by decide) (by decide)
      · exact one 8 k h1 h9 ht (by decide) (by decide) (by decide) (by decide)
      · exact rdecode_0 s p w hp hs 9 k h1 h9 ht (by decide) (by decide) (by decide) (by decide)
end De
end Go.Proofs.Ytabbmfaklekojaa
