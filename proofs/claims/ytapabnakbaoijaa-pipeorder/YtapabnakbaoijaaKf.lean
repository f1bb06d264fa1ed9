/- The laws' own does(): whatever the step, over this seat's program. -/
import Derived.Test.YtapabnakbaoijaaKd
import Derived.Test.YtapabnakbaoijaaKe
namespace Go.Proofs.Ytapabnakbaoijaa
open Go.ChangeShapes Go.WideShapes Go.ChangeAt Go.RowKit
namespace Rp
open Ba Pe _root_.Go.Proofs.Ytapabnakbaoijaa.Pi

/-- does, whatever the step -/
theorem does_any (B G : Nat) (F R : Nat → Prop) (st : St) (what : Int) (x : Wt) (w : World) (h : Pp w B F st) (r : Rr w G R st) (ap : ∀ x, F x → ¬ R x) (hs : st.sent < 1000000000) (hg : st.got < 1000000000) :
    Calls Try.prog 11 #[.pointer (some ⟨B, 0, none⟩), .pointer (some ⟨G, 0, none⟩), (.agg #[.int .i64 what, .int .i64 x.g, .int .i64 x.c, .int .i64 x.v])] w fun r w' => r = .returned (.bool true) ∧ Two w w' B G F R (stepS st what x) := by
  unfold stepS
  by_cases h1 : what = 0 ∨ what = 1
  · rw [if_pos h1]
    exact does_send B G F R st what x w h r ap hs hg h1
  rw [if_neg h1]
  by_cases h2 : what = 2 ∨ what = 3
  · rw [if_pos h2]
    exact does_recv B G F R st what x w h r ap hs hg h2
  rw [if_neg h2]
  by_cases h3 : what = 4
  · rw [if_pos h3]
    exact does_wait B G F R st what x w h r ap true h3
  rw [if_neg h3]
  by_cases h4 : what = 5
  · rw [if_pos h4]
    exact does_wait B G F R st what x w h r ap false h4
  rw [if_neg h4]
  by_cases h5 : what = 6
  · rw [if_pos h5]
    exact does_close B G F R st what x w h r ap h5
  rw [if_neg h5]
  by_cases h6 : what = 7
  · rw [if_pos h6]
    exact does_drop B G F R st what x w h r ap h6
  rw [if_neg h6]
  exact does_look B G F R st what x w h r ap ⟨by omega, by omega, by omega, by omega, h3, h4, h5, h6⟩
end Rp
end Go.Proofs.Ytapabnakbaoijaa
