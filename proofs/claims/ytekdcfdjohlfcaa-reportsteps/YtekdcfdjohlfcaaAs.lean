/- Layer 18's laws, over this seat's program: a step of both (does), of a right clock. -/
import Derived.Test.YtekdcfdjohlfcaaAr
import Derived.Deep.Cut
namespace Go.Proofs.Ytekdcfdjohlfcaa
open Go.ChangeShapes Go.WideShapes Go.ChangeAt Go.RowKit
namespace Ce
open Ck
open Ba (KF Bd Nw)
open Ep (tidOf clkOf ownB rdN rdT rdt rdc rdk)

theorem cl_trm (l : List Int) : Cl (trm l) (nth l) := fun k _ => (nth_trm l k).symm
end Ce
end Go.Proofs.Ytekdcfdjohlfcaa
