/- Layer 16's law: does, whatever the step, over this seat's program. -/
import Derived.Test.YtfimfgffbfjkeaaWp
namespace Go.Proofs.Ytfimfgffbfjkeaa
open Go.ChangeShapes Go.WideShapes Go.ChangeAt Go.RowKit
namespace Wq
open Ck
open Wa (Wst)

/-- Whatever the step says, both sides are at one behind it, and what was there before is kept. -/
theorem does_any {Y0 : Nat → Prop} {B G : Nat} {w : World} {st : Wst} {h : Nat → Option (List Int)} {qs : Qst} (j : JW Y0 B G w st h qs) (r : Rw st h qs) (wh g k : Int) (hg : wfk g) (hk : wfk k) (oa : Option Addr) (n cap : Nat) (l : List Int) (hn : l.length = n) (hA : Ck.At w oa l) (hlc : n ≤ cap) (hcm : cap ≤ maxLen) :
    Calls Try.prog 9 #[.pointer (some ⟨B, 0, none⟩), .pointer (some ⟨G, 0, none⟩), .agg #[.int .i64 wh, .int .i64 g, .int .i64 k, .slice oa n cap]] w (DoW Y0 B G qs wh w) := by
  by_cases e0 : wh = 0
  · exact does_spawn j r wh (.inl (by rw [e0]; rfl)) g k hg hk oa n cap
  by_cases e1 : wh = 1
  · exact does_spawn j r wh (.inr ⟨by rw [e1]; rfl, by rw [e1]; rfl⟩) g k hg hk oa n cap
  by_cases e2 : wh = 2
  · rw [e2]; exact does_know j r g k hg oa n cap l hn hA hlc hcm
  by_cases e3 : wh = 3
  · rw [e3]; exact does_tell3 j r g k hg hk oa n cap
  by_cases e4 : wh = 4
  · rw [e4]; exact does_tell4 j r g k hg hk oa n cap
  by_cases e5 : wh = 5
  · rw [e5]; exact does_retire j r g k hg oa n cap
  exact does_else j r wh (beq_eq_false_iff_ne.mpr e0) (beq_eq_false_iff_ne.mpr e1) (beq_eq_false_iff_ne.mpr e2) (beq_eq_false_iff_ne.mpr e3) (beq_eq_false_iff_ne.mpr e4) (beq_eq_false_iff_ne.mpr e5) g k oa n cap
end Wq
end Go.Proofs.Ytfimfgffbfjkeaa
