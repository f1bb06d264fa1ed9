/- Package clock, what only reads: Get and Within of clocks that lie in memory, over this seat's program. -/
import Derived.Test.YtakbbhngcdccpaaGreatRows
import Derived.WalkKit
import Derived.ProofKit
import Derived.OpenShut
import Derived.WalkLawsBesides
import Derived.WalkSpells
import Derived.Below
namespace Go.Proofs.YtakbbhngcdccpaaGreat
open Go.ChangeShapes Go.WideShapes Go.ChangeAt Go.RowKit
namespace Ck

/-- the k'th number of a list, 0 behind its end -/
def nth (l : List Int) (k : Nat) : Int := l.getD k 0
theorem nth_out (l : List Int) (k : Nat) (h : l.length ≤ k) : nth l k = 0 := by simp [nth, h]
theorem nth_lt (l : List Int) (k : Nat) (h : k < l.length) : nth l k = l[k] := by simp [nth, h]
/-- a tid's number -/
def gt (l : List Int) (t : Int) : Int := if t < 0 then 0 else nth l t.toNat
theorem gt_neg (l : List Int) (t : Int) (h : t < 0) : gt l t = 0 := by simp [gt, h]
theorem gt_nat (l : List Int) (k : Nat) : gt l (k : Int) = nth l k := by
  have : ¬ ((k : Int) < 0) := by omega
  simp [gt, this]

/-- the cells from oa on hold l -/
def At (w : World) (oa : Option Addr) (l : List Int) : Prop :=
  ∀ k, k < l.length → ∃ b off, oa = some ⟨b, off, none⟩ ∧ w.cell? ⟨b, off + k, none⟩ = some (.int .i64 (nth l k))

theorem At.ways {w : World} {oa : Option Addr} {l : List Int} (h : At w oa l) :
    l = [] ∨ ∃ b off, oa = some ⟨b, off, none⟩ ∧ ∀ k, k < l.length → w.cell? ⟨b, off + k, none⟩ = some (.int .i64 (nth l k)) := by
  by_cases h0 : l.length = 0
  · left; exact List.eq_nil_of_length_eq_zero h0
  · right
    obtain ⟨b, off, rfl, _⟩ := h 0 (by omega)
    refine ⟨b, off, rfl, fun k hk => ?_⟩
    obtain ⟨b', off', he, hc⟩ := h k hk
    simp at he
    obtain ⟨rfl, rfl⟩ := he
    exact hc

/-- a clock of the numbers l lies in block b: what a reader sees -/
def CK (w : World) (b : Nat) (l : List Int) : Prop :=
  ∃ oa c s, w.cell? ⟨b, 0, none⟩ = some (.slice oa l.length c) ∧ w.cell? ⟨b, 1, none⟩ = some (.bool s) ∧ At w oa l ∧ l.length ≤ 256

theorem At.below {w w' : World} {oa : Option Addr} {l : List Int} (h : At w oa l) (hb : Below w.heap.size w w') : At w' oa l := by
  intro k hk
  obtain ⟨b, off, he, hc⟩ := h k hk
  exact ⟨b, off, he, (hb.cell (World.block_lt_of_cell? w _ hc)).trans hc⟩

theorem CK.below {w w' : World} {b : Nat} {l : List Int} (h : CK w b l) (hb : Below w.heap.size w w') : CK w' b l := by
  obtain ⟨oa, c, s, h0, h1, h2, h3⟩ := h
  exact ⟨oa, c, s, (hb.cell (World.block_lt_of_cell? w _ h0)).trans h0, (hb.cell (World.block_lt_of_cell? w _ h1)).trans h1, h2.below hb, h3⟩

theorem CK.lt {w : World} {b : Nat} {l : List Int} (h : CK w b l) : b < w.heap.size := by
  obtain ⟨oa, c, s, h0, _⟩ := h
  exact World.block_lt_of_cell? w _ h0

set_option maxHeartbeats 400000 in
theorem get_nil (t : Int) (w : World) :
    Calls Tryz.prog 37 #[.pointer none, .int .i64 t] w fun r w' => r = .returned (.int .i64 0) ∧ w' = w := by
  go_enter Tryz.func37, Tryz.ntmps37
  go_wp2
  go_ret
  exact ⟨rfl, rfl⟩

theorem ret_int {a b : Int} (h : a = b) : Ending.returned (.int .i64 a) = .returned (.int .i64 b) := by rw [h]

set_option maxHeartbeats 400000 in
theorem get_any (b : Nat) (l : List Int) (t : Int) (w : World) (h : CK w b l) :
    Calls Tryz.prog 37 #[.pointer (some ⟨b, 0, none⟩), .int .i64 t] w fun r w' => r = .returned (.int .i64 (gt l t)) ∧ w' = w := by
  obtain ⟨oa, c, s, h0, _, h2, h3⟩ := h
  by_cases ht : t < 0
  · rw [gt_neg l t ht]
    go_enter Tryz.func37, Tryz.ntmps37
    go_wp2
    go_ret
    exact ⟨rfl, rfl⟩
  obtain ⟨k, rfl⟩ := Int.eq_ofNat_of_zero_le (by omega : 0 ≤ t)
  rw [gt_nat]
  clear ht
  by_cases hk : k < l.length
  · obtain ⟨b', off, rfl, hc⟩ := h2 k hk
    have hk' : (k : Int) < (l.length : Int) := by omega
    go_enter Tryz.func37, Tryz.ntmps37
    go_wp2
    go_ret
    exact ⟨rfl, rfl⟩
  · rw [nth_out l k (by omega)]
    have hk' : (l.length : Int) ≤ (k : Int) := by omega
    go_enter Tryz.func37, Tryz.ntmps37
    go_wp2
    go_ret
    exact ⟨rfl, rfl⟩

def within (l m : List Int) : Bool := decide (∀ k, k < l.length → nth l k ≤ nth m k)
theorem within_no (l m : List Int) (k : Nat) (hk : k < l.length) (h : nth m k < nth l k) : within l m = false := by
  simp only [within, decide_eq_false_iff_not]
  intro hh
  have := hh k hk
  omega
theorem within_yes (l m : List Int) (h : ∀ k, k < l.length → nth l k ≤ nth m k) : within l m = true := by simpa [within] using h
theorem ret_bool {a b : Bool} (h : a = b) : Ending.returned (.bool a) = .returned (.bool b) := by rw [h]

end Ck
end Go.Proofs.YtakbbhngcdccpaaGreat
