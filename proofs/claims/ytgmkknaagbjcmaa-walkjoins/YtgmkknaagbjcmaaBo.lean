/- A list of int among a law's arguments, opened. -/
import Derived.Test.YtgmkknaagbjcmaaBa
import Derived.Deep.Slices
import Derived.ShutString
import Derived.ChangeOld
namespace Go.Proofs.Ytgmkknaagbjcmaa
open Go.ChangeShapes Go.WideShapes Go.ChangeAt Go.RowKit
namespace Ba

section
variable {H : Type} {enc : TypeId × Value → H} {w : World}
end
end Ba
end Go.Proofs.Ytgmkknaagbjcmaa
