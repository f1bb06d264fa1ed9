/- The reference's clock (an array of 256 numbers) in memory: Get, Set, Tick, over this seat's program. -/
import Derived.Test.YtakbbhngcdccpaaGreatCt
import Derived.Deep.MidRow
import Derived.Deep.WholeRow
namespace Go.Proofs.YtakbbhngcdccpaaGreat
open Go.ChangeShapes Go.WideShapes Go.ChangeAt Go.RowKit
namespace Ck

/-- the 256 numbers F lie in block b from off on, and may be written -/
def RA (w : World) (b off : Nat) (F : Nat → Int) : Prop := ∀ k, k < 256 → w.cell? ⟨b, off + k, none⟩ = some (.int .i64 (F k)) ∧ w.frozen? ⟨b, off + k, none⟩ = false

/-- a tid's number -/
def rg (F : Nat → Int) (t : Int) : Int := if 0 ≤ t ∧ t < 256 then F t.toNat else 0
theorem rg_out (F : Nat → Int) (t : Int) (h : t < 0 ∨ 256 ≤ t) : rg F t = 0 := by
  have : ¬ (0 ≤ t ∧ t < 256) := by omega
  simp [rg, this]
theorem rg_nat (F : Nat → Int) (k : Nat) (h : k < 256) : rg F (k : Int) = F k := by
  have : 0 ≤ (k : Int) ∧ (k : Int) < 256 := by omega
  simp only [rg, if_pos this, Int.toNat_natCast]

end Ck
end Go.Proofs.YtakbbhngcdccpaaGreat
