/- Layer 18's laws, over this seat's program: what any 64 bits are (split), new clocks beside a cell. -/
import Derived.Test.YtekdcfdjohlfcaaAh
import Derived.Deep.RegionHeld3
namespace Go.Proofs.Ytekdcfdjohlfcaa
open Go.ChangeShapes Go.WideShapes Go.ChangeAt Go.RowKit
namespace Ce
open Ck
open Ba (KF Bd Nw hide)
open Ep (tidOf clkOf ownB rdN rdT rdt rdc rdk)

theorem rread_any (e : Int) (a0 : 0 ≤ e) (a1 : e ≤ 18446744073709551615) (w : World) :
    Calls Try.prog 55 #[.int .i64 (e / 4294967296), .int .i64 (e % 4294967296)] w fun r w' => r = .returned (.tuple #[.agg #[.bool (rdN e), .bool (rdT e), .int .i64 (rdt e), .int .i64 (rdc e)], .bool (rdk e)]) ∧ w' = w.alloc (.cells #[.bool (rdN e), .bool (rdT e), .int .i64 (rdt e), .int .i64 (rdc e)] 127) := by
  by_cases hn : e = 0
  · subst hn
    obtain ⟨e1, e2, e3, e4, e5⟩ := Ep.rd_none
    rw [e1, e2, e3, e4, e5]; exact Ep.rread_none w
  by_cases ht : e = 18446744073709551615
  · subst ht
    obtain ⟨e1, e2, e3, e4, e5⟩ := Ep.rd_tail
    rw [e1, e2, e3, e4, e5]; exact Ep.rread_tail w
  cases ho : ownB e
  · obtain ⟨e1, e2, e3, e4, e5⟩ := Ep.rd_bad e ho hn ht
    rw [e1, e2, e3, e4, e5]
    exact Ep.rread_bad _ _ (by omega) (by omega) (Ep.not_bd e ho) w
  · obtain ⟨e1, e2, e3, e4, e5⟩ := Ep.rd_own e ho
    rw [e1, e2, e3, e4, e5]
    obtain ⟨h0, h1, h2, h3⟩ := Ep.own_bd e ho
    exact Ep.rread_own _ _ h0 h1 h2 h3 w
/-- an epoch, opened -/
def rdV (e : Int) : Array Value := #[.bool (rdN e), .bool (rdT e), .int .i64 (rdt e), .int .i64 (rdc e)]
/-- what split gives -/
def SplR (e : Int) (w : World) (r : Ending) (w' : World) : Prop := r = .returned (.tuple #[.agg (rdV e), .bool (ownB e)]) ∧ Below w.heap.size w w'

/-- Y, and what is new -/
def Yp (Y : Nat → Prop) (w w' : World) : Nat → Prop := fun k => Y k ∨ (w.heap.size ≤ k ∧ k < w'.heap.size)
theorem CW.new {Y : Nat → Prop} {X : Nat} {w w' : World} {st : Cst} (h : CW Y X w st) (hb : Below w.heap.size w w') : CW (Yp Y w w') X w' st :=
  h.more hb (fun k q => q.imp id And.left) (fun k q => by
    rcases q with q | q
    · exact Nat.lt_of_lt_of_le (h.yl k q) hb.size
    · exact q.2)
theorem clk_new {Z : Nat → Prop} {w : World} {b g n c : Nat} {l : List Int} {s : Bool} (h1 : w.heap[b]? = some (.cells #[.slice (some ⟨g, 0, none⟩) n c, .bool s] 103 (0, 0))) (h2 : w.heap[g]? = some (.cells (row l) 3 (0, 0))) (hn : l.length = n) (zb : Z b) (zg : Z g) (hl : l.length ≤ 256) : CL Z w b l := by
  subst hn
  intro W k
  have e1 := (k.block b zb).trans h1
  have e2 := (k.block g zg).trans h2
  refine ⟨_, c, s, by rw [cell_of e1]; rfl, by rw [cell_of e1]; rfl, fun j hj => ⟨g, 0, rfl, ?_⟩, hl⟩
  rw [Nat.zero_add, cell_of e2]
  exact row_at l j hj
theorem clk_nil {Z : Nat → Prop} {w : World} {b : Nat} {s : Bool} (h1 : w.heap[b]? = some (.cells #[.slice none 0 0, .bool s] 103 (0, 0))) (zb : Z b) : CL Z w b [] := by
  intro W k
  have e1 := (k.block b zb).trans h1
  exact ⟨none, 0, s, by rw [cell_of e1]; rfl, by rw [cell_of e1]; rfl, fun j hj => absurd hj (Nat.not_lt_zero _), by simp⟩
/-- what Of gives of a right list -/
def OfR (w : World) (l : List Int) (r : Ending) (w' : World) : Prop := ∃ b, r = .returned (.tuple #[.pointer (some ⟨b, 0, none⟩), .int .i64 0]) ∧ Below w.heap.size w w' ∧ ∀ Y, CL (Yp Y w w') w' b (trm l)
theorem of_y (oa : Option Addr) (l : List Int) (n c : Nat) (hn : l.length = n) (w : World) (hA : At w oa l) (hl : n ≤ 256) (hlc : n ≤ c) (hc : c ≤ maxLen) (hv : Valid l) :
    Calls Try.prog 8 #[.slice oa n c] w (OfR w l) := by
  subst hn
  refine (of_ok oa l c w hA hl hlc hc hv).mono ?_
  rintro r w' ⟨rfl, rfl⟩
  have h1 : ((w.alloc (.cells (row (trm l)) 3)).alloc (.cells #[.slice (some ⟨w.heap.size, 0, none⟩) (tlen l) (tlen l), .bool false] 103)).heap[w.heap.size + 1]? = some (.cells #[.slice (some ⟨w.heap.size, 0, none⟩) (tlen l) (tlen l), .bool false] 103 (0, 0)) := by
    have := heap_new (w.alloc (.cells (row (trm l)) 3)) (.cells #[.slice (some ⟨w.heap.size, 0, none⟩) (tlen l) (tlen l), .bool false] 103)
    rwa [World.size_alloc] at this
  have h2 : ((w.alloc (.cells (row (trm l)) 3)).alloc (.cells #[.slice (some ⟨w.heap.size, 0, none⟩) (tlen l) (tlen l), .bool false] 103)).heap[w.heap.size]? = some (.cells (row (trm l)) 3 (0, 0)) := by
    rw [Below.heap_alloc _ _ _ (by rw [World.size_alloc]; omega)]; exact heap_new _ _
  refine ⟨w.heap.size + 1, rfl, btr (Ba.below_alloc _ _) (Ba.below_alloc _ _), fun Y => clk_new h1 h2 (trm_length l) ?_ ?_ (by rw [trm_length]; exact Nat.le_trans (tlen_le l) hl)⟩
  · refine .inr ⟨by omega, ?_⟩
    rw [World.size_alloc, World.size_alloc]; omega
  · refine .inr ⟨by omega, ?_⟩
    rw [World.size_alloc, World.size_alloc]; omega
def CnR (w : World) (r : Ending) (w' : World) : Prop := ∃ b, r = .returned (.pointer (some ⟨b, 0, none⟩)) ∧ Below w.heap.size w w' ∧ ∀ Y, CL (Yp Y w w') w' b []
theorem cnew_any (w : World) : Calls Try.prog 52 #[] w (CnR w) := by
  have FIN : Hid (CnR w (.returned (.pointer (some ⟨w.heap.size, 0, none⟩))) (w.alloc (.cells #[.slice none 0 0, .bool false] 103))) :=
    ⟨w.heap.size, rfl, Ba.below_alloc _ _, fun Y => clk_nil (heap_new _ _) (.inr ⟨Nat.le_refl _, by rw [World.size_alloc]; omega⟩)⟩
  go_enter Try.func52, Try.ntmps52
  go_wp2_with fail
  go_ret
  exact FIN.out
theorem Yp.sub {Y : Nat → Prop} {w w' : World} {k : Nat} (h : Y k) : Yp Y w w' k := .inl h

end Ce
end Go.Proofs.Ytekdcfdjohlfcaa
