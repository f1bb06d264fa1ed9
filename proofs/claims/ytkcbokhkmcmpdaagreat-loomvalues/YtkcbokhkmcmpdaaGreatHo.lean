/- The laws' own large(), over this seat's program. -/
import Derived.Test.YtkcbokhkmcmpdaaGreatZjLoom10
import Derived.Test.YtkcbokhkmcmpdaaGreatHn
namespace Go.Proofs.YtkcbokhkmcmpdaaGreat
open Go.ChangeShapes Go.WideShapes Go.ChangeAt Go.RowKit
namespace Sh
open De Ba Re

/-- what large answers: if it is not, all is small -/
def LR (ps : List (List OpD)) (pl dr : List Int) (r : Ending) : Prop := ∃ b, r = .returned (.bool b) ∧ (b = false → Small ps pl dr)
/-- no operation holds more cases than memory has room for -/
def Held (ps : List (List OpD)) : Prop := ∀ q ∈ ps, ∀ o ∈ q, o.cases.length ≤ 140737488355328
end Sh
end Go.Proofs.YtkcbokhkmcmpdaaGreat
