/- The reference's Put, over this seat's program. -/
import Derived.Test.YtakbbhngcdccpaaGreatEb
namespace Go.Proofs.YtakbbhngcdccpaaGreat
open Go.ChangeShapes Go.WideShapes Go.ChangeAt Go.RowKit
namespace Re
open Ba

theorem bs_cons (x : Nat) (L : List Nat) : bs [x] ++ bs L = bs (x :: L) := by
  unfold bs
  rw [ByteArray.mk_append_mk]
  simp
theorem bs_append (K L : List Nat) : bs K ++ bs L = bs (K ++ L) := by
  unfold bs
  rw [ByteArray.mk_append_mk]
  simp
theorem bs_size (L : List Nat) : (bs L).size = L.length := by
  show (List.toArray _).size = _
  simp
theorem add_str (a b : ByteArray) (w : World) (h : a.size + b.size ≤ 9223372036854775807) : (Op.stringOp .add a b).run Tryz.prog w = .ok (.string (a ++ b)) w := by
  exact run_string_add_sum w a b h

end Re
end Go.Proofs.YtakbbhngcdccpaaGreat
