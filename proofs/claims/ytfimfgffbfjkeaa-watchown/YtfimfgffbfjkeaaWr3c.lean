/- Layer 16's reference, over this seat's program: records that are built. -/
import Derived.Test.YtfimfgffbfjkeaaWr2
namespace Go.Proofs.Ytfimfgffbfjkeaa
open Go.ChangeShapes Go.WideShapes Go.ChangeAt Go.RowKit
namespace Wq
open Ck
open Ba (KF Bd Nw)

set_option maxRecDepth 100000 in
theorem built_on1 (F : Nat → Int) : Try.prog.built 62 [(2, .agg (ra F))] = some (onA ⟨0, 0, F⟩) := by kernel_rfl
set_option maxRecDepth 100000 in
theorem built_on3 (g : Int) (t : Int) (F : Nat → Int) : Try.prog.built 62 [(0, .int .i64 g), (1, .int .i64 t), (2, .agg (ra F))] = some (#[.int .i64 g, .int .i64 t] ++ ra F) := by kernel_rfl
theorem built_w (t m : Int) (oa : Option Addr) (n c : Nat) : Try.prog.built 39 [(0, .int .i64 t), (1, .int .i64 m), (2, .slice oa n c)] = some #[.int .i64 t, .int .i64 m, .slice oa n c] := by kernel_rfl
end Wq
end Go.Proofs.Ytfimfgffbfjkeaa
