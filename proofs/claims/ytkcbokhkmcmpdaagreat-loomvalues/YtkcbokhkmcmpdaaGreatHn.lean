/- The laws' own Script, over this seat's program. -/
import Derived.Test.YtkcbokhkmcmpdaaGreatZjLoom10
import Derived.Test.YtkcbokhkmcmpdaaGreatHm
import Derived.Deep.RegionHeld3
namespace Go.Proofs.YtkcbokhkmcmpdaaGreat
open Go.ChangeShapes Go.WideShapes Go.ChangeAt Go.RowKit
namespace Sh
open De Ba Re

/-- a bool that says whether p -/
def SR (p : Prop) (r : Ending) : Prop := ∃ b, r = .returned (.bool b) ∧ (b = true ↔ p)
theorem mem_ops {w : World} {oa : Option Addr} {l : List OpD} (h : OAt w oa l) {k : Nat} {o : OpD} (hk : l[k]? = some o) : ∃ b off ca cc, oa = some ⟨b, off, none⟩ ∧ (w.cell? ⟨b, off + k * 5, none⟩ = some (.int .i64 o.kind) ∧ w.cell? ⟨b, off + k * 5 + 1, none⟩ = some (.int .i64 o.a) ∧ w.cell? ⟨b, off + k * 5 + 2, none⟩ = some (.int .i64 o.b) ∧ w.cell? ⟨b, off + k * 5 + 3, none⟩ = some (.slice ca o.cases.length cc) ∧ w.cell? ⟨b, off + k * 5 + 4, none⟩ = some (.bool o.def_)) ∧ CAt w ca o.cases ∧ o.cases.length ≤ maxLen := h k o hk

end Sh
end Go.Proofs.YtkcbokhkmcmpdaaGreat
