/- What a channel answers, its numbers named. -/
import Derived.Test.YtapabnakbaoijaaKh
namespace Go.Proofs.Ytapabnakbaoijaa
open Go.ChangeShapes Go.WideShapes Go.ChangeAt Go.RowKit
namespace Rp
open Ba Pe _root_.Go.Proofs.Ytapabnakbaoijaa.Pi

theorem waiting_tn (B : Nat) (F : Nat → Prop) (st : St) (n : Nat) (w : World) (h : Pp w B F st) (hn : st.snd.length = n) :
    Calls Try.prog 19 #[.pointer (some ⟨B, 0, none⟩), .bool true] w fun r w' => ∃ oa c, r = .returned (.slice oa n c) ∧ WAt w' oa st.snd ∧ Below w.heap.size w w' := by
  subst hn
  exact waiting_any B F st true w h
theorem waiting_fn (B : Nat) (F : Nat → Prop) (st : St) (n : Nat) (w : World) (h : Pp w B F st) (hn : st.rcv.length = n) :
    Calls Try.prog 19 #[.pointer (some ⟨B, 0, none⟩), .bool false] w fun r w' => ∃ oa c, r = .returned (.slice oa n c) ∧ WAt w' oa st.rcv ∧ Below w.heap.size w w' := by
  subst hn
  exact waiting_any B F st false w h
theorem len_is (B : Nat) (F : Nat → Prop) (st : St) (n : Nat) (w : World) (h : Pp w B F st) (hn : st.buf.length = n) :
    Calls Try.prog 13 #[.pointer (some ⟨B, 0, none⟩)] w fun r w' => r = .returned (.int .i64 (n : Int)) ∧ w' = w := by
  subst hn
  exact Pi.len_any B F st w h
theorem closed_is (B : Nat) (F : Nat → Prop) (st : St) (b : Bool) (w : World) (h : Pp w B F st) (hn : st.closed = b) :
    Calls Try.prog 15 #[.pointer (some ⟨B, 0, none⟩)] w fun r w' => r = .returned (.bool b) ∧ w' = w := by
  subst hn
  exact Pi.closed_any B F st w h
end Rp
end Go.Proofs.Ytapabnakbaoijaa
