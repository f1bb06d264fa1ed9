/- A list of int among a law's arguments, opened. -/
import Derived.Test.YtakbbhngcdccpaaGreatBa
import Derived.Deep.Slices
import Derived.ShutString
import Derived.ChangeOld
namespace Go.Proofs.YtakbbhngcdccpaaGreat
open Go.ChangeShapes Go.WideShapes Go.ChangeAt Go.RowKit
namespace Ba

section
variable {H : Type} {enc : TypeId × Value → H} {w : World}
theorem ints_open {fuel : Nat} {oa : Option Addr} {len cap : Nat} {x : DataW H × List MemPlace} (h : DataW.trod enc Tryz.prog w 0 (fun _ => true) true fuel 27 [.slice oa len cap] = some x) : ∃ l, l.length = len ∧ At w oa l ∧ len ≤ cap ∧ cap ≤ maxLen := by
  rcases open_ints Tryz.underlying27 Tryz.underlying3 (by kernel_rfl) h with ⟨hcs, _⟩ | ⟨x, l, c, zs, hcs, _, hl, hm, hz, _, hcell, hwz⟩
  · simp at hcs
    obtain ⟨rfl, rfl, rfl⟩ := hcs
    exact ⟨[], rfl, At.nil _ _, Nat.le_refl _, Nat.zero_le _⟩
  · simp at hcs
    obtain ⟨rfl, rfl, rfl⟩ := hcs
    simp at hz
    refine ⟨zs.take len, by simp; omega, fun k hk => ?_, hl, hm⟩
    have hk' : k < len ∧ k < zs.length := by simp at hk; omega
    obtain ⟨b, off, spot⟩ := x
    have hspot : spot = none := by simpa [Addr.add] using World.cell?_spot (hcell 0 (by omega))
    subst hspot
    have hc := hcell k hk'.2
    refine ⟨b, off, rfl, ?_⟩
    rw [nth_take zs len k hk'.1]
    rw [Addr.add_lit] at hc
    exact hc
end
end Ba
end Go.Proofs.YtakbbhngcdccpaaGreat
