/- Package clock: List, New, and the laws' own Ints, over this seat's program. -/
import Derived.Test.YtbceiakihplbcaaCm
namespace Go.Proofs.Ytbceiakihplbcaa
open Go.ChangeShapes Go.WideShapes Go.ChangeAt Go.RowKit
namespace Ck

theorem eq_of_nth {l m : List Int} (hl : l.length = m.length) (h : ∀ j, j < l.length → nth l j = nth m j) : l = m := by
  apply List.ext_getElem hl
  intro i h1 h2
  have := h i h1
  rwa [nth_lt l i h1, nth_lt m i h2] at this

end Ck
end Go.Proofs.Ytbceiakihplbcaa
