/- Layer 18's laws, over this seat's program: what any 64 bits are (split), new clocks beside a cell. -/
import Derived.Test.YtodppbahihjegaaAh
import Derived.Deep.RegionHeld3
namespace Go.Proofs.Ytodppbahihjegaa
open Go.ChangeShapes Go.WideShapes Go.ChangeAt Go.RowKit
namespace Ce
open Ck
open Ba (KF Bd Nw hide)
open Ep (tidOf clkOf ownB rdN rdT rdt rdc rdk)

theorem rread_any (e : Int) (a0 : 0 ≤ e) (a1 : e ≤ 18446744073709551615) (w : World) :
    Calls Try.prog 30 #[.int .i64 (e / 4294967296), .int .i64 (e % 4294967296)] w fun r w' => r = .returned (.tuple #[.agg #[.bool (rdN e), .bool (rdT e), .int .i64 (rdt e), .int .i64 (rdc e)], .bool (rdk e)]) ∧ w' = w.alloc (.cells #[.bool (rdN e), .bool (rdT e), .int .i64 (rdt e), .int .i64 (rdc e)] 87) := by
  by_cases hn : e = 0
  · subst hn
    obtain ⟨e1, e2, e3, e4, e5⟩ := Ep.rd_none
    rw [e1, e2, e3, e4, e5]; exact Ep.rread_none w
  by_cases ht : e = 18446744073709551615
  · subst ht
    obtain ⟨e1, e2, e3, e4, e5⟩ := Ep.rd_tail
    rw [e1, e2, e3, e4, e5]; exact Ep.rread_tail w
  cases ho : ownB e
  · obtain ⟨e1, e2, e3, e4, e5⟩ := Ep.rd_bad e ho hn ht
    rw [e1, e2, e3, e4, e5]
    exact Ep.rread_bad _ _ (by omega) (by omega) (Ep.not_bd e ho) w
  · obtain ⟨e1, e2, e3, e4, e5⟩ := Ep.rd_own e ho
    rw [e1, e2, e3, e4, e5]
    obtain ⟨h0, h1, h2, h3⟩ := Ep.own_bd e ho
    exact Ep.rread_own _ _ h0 h1 h2 h3 w
/-- an epoch, opened -/
def rdV (e : Int) : Array Value := #[.bool (rdN e), .bool (rdT e), .int .i64 (rdt e), .int .i64 (rdc e)]
/-- what split gives -/
def SplR (e : Int) (w : World) (r : Ending) (w' : World) : Prop := r = .returned (.tuple #[.agg (rdV e), .bool (ownB e)]) ∧ Below w.heap.size w w'

/-- Y, and what is new -/
def Yp (Y : Nat → Prop) (w w' : World) : Nat → Prop := fun k => Y k ∨ (w.heap.size ≤ k ∧ k < w'.heap.size)
theorem CW.new {Y : Nat → Prop} {X : Nat} {w w' : World} {st : Cst} (h : CW Y X w st) (hb : Below w.heap.size w w') : CW (Yp Y w w') X w' st :=
  h.more hb (fun k q => q.imp id And.left) (fun k q => by
    rcases q with q | q
    · exact Nat.lt_of_lt_of_le (h.yl k q) hb.size
    · exact q.2)
theorem clk_new {Z : Nat → Prop} {w : World} {b g n c : Nat} {l : List Int} {s : Bool} (h1 : w.heap[b]? = some (.cells #[.slice (some ⟨g, 0, none⟩) n c, .bool s] 100 (0, 0))) (h2 : w.heap[g]? = some (.cells (row l) 3 (0, 0))) (hn : l.length = n) (zb : Z b) (zg : Z g) (hl : l.length ≤ 256) : CL Z w b l := by
  subst hn
  intro W k
  have e1 := (k.block b zb).trans h1
  have e2 := (k.block g zg).trans h2
  refine ⟨_, c, s, by rw [cell_of e1]; rfl, by rw [cell_of e1]; rfl, fun j hj => ⟨g, 0, rfl, ?_⟩, hl⟩
  rw [Nat.zero_add, cell_of e2]
  exact row_at l j hj
theorem clk_nil {Z : Nat → Prop} {w : World} {b : Nat} {s : Bool} (h1 : w.heap[b]? = some (.cells #[.slice none 0 0, .bool s] 100 (0, 0))) (zb : Z b) : CL Z w b [] := by
  intro W k
  have e1 := (k.block b zb).trans h1
  exact ⟨none, 0, s, by rw [cell_of e1]; rfl, by rw [cell_of e1]; rfl, fun j hj => absurd hj (Nat.not_lt_zero _), by simp⟩
/-- what Of gives of a right list -/
def OfR (w : World) (l : List Int) (r : Ending) (w' : World) : Prop := ∃ b, r = .returned (.tuple #[.pointer (some ⟨b, 0, none⟩), .int .i64 0]) ∧ Below w.heap.size w w' ∧ ∀ Y, CL (Yp Y w w') w' b (trm l)
theorem of_y (oa : Option Addr) (l : List Int) (n c : Nat) (hn : l.length = n) (w : World) (hA : At w oa l) (hl : n ≤ 256) (hlc : n ≤ c) (hc : c ≤ maxLen) (hv : Valid l) :
    Calls Try.prog 12 #[.slice oa n c] w (OfR w l) := by
  subst hn
  refine (of_ok oa l c w hA hl hlc hc hv).mono ?_
  rintro r w' ⟨rfl, rfl⟩
  have h1 : ((w.alloc (.cells (row (trm l)) 3)).alloc (.cells #[.slice (some ⟨w.heap.size, 0, none⟩) (tlen l) (tlen l), .bool false] 100)).heap[w.heap.size + 1]? = some (.cells #[.slice (some ⟨w.heap.size, 0, none⟩) (tlen l) (tlen l), .bool false] 100 (0, 0)) := by
    have := heap_new (w.alloc (.cells (row (trm l)) 3)) (.cells #[.slice (some ⟨w.heap.size, 0, none⟩) (tlen l) (tlen l), .bool false] 100)
    rwa [World.size_alloc] at this
  have h2 : ((w.alloc (.cells (row (trm l)) 3)).alloc (.cells #[.slice (some ⟨w.heap.size, 0, none⟩) (tlen l) (tlen l), .bool false] 100)).heap[w.heap.size]? = some (.cells (row (trm l)) 3 (0, 0)) := by
    rw [Below.heap_alloc _ _ _ (by rw [World.size_alloc]; omega)]; exact heap_new _ _
  refine ⟨w.heap.size + 1, rfl, btr (Ba.below_alloc _ _) (Ba.below_alloc _ _), fun Y => clk_new h1 h2 (trm_length l) ?_ ?_ (by rw [trm_length]; exact Nat.le_trans (tlen_le l) hl)⟩
  · refine .inr ⟨by omega, ?_⟩
    rw [World.size_alloc, World.size_alloc]; omega
  · refine .inr ⟨by omega, ?_⟩
    rw [World.size_alloc, World.size_alloc]; omega
def CnR (w : World) (r : Ending) (w' : World) : Prop := ∃ b, r = .returned (.pointer (some ⟨b, 0, none⟩)) ∧ Below w.heap.size w w' ∧ ∀ Y, CL (Yp Y w w') w' b []
theorem cnew_any (w : World) : Calls Try.prog 32 #[] w (CnR w) := by
  have FIN : Hid (CnR w (.returned (.pointer (some ⟨w.heap.size, 0, none⟩))) (w.alloc (.cells #[.slice none 0 0, .bool false] 100))) :=
    ⟨w.heap.size, rfl, Ba.below_alloc _ _, fun Y => clk_nil (heap_new _ _) (.inr ⟨Nat.le_refl _, by rw [World.size_alloc]; omega⟩)⟩
  go_enter Try.func32, Try.ntmps32
  go_wp2_with fail
  go_ret
  exact FIN.out
theorem Yp.sub {Y : Nat → Prop} {w w' : World} {k : Nat} (h : Y k) : Yp Y w w' k := .inl h

set_option maxRecDepth 100000 in
set_option maxHeartbeats 3200000 in
theorem races_any (w : World) : Calls Try.prog 8 #[] w fun r w' => r = .returned (.bool true) ∧ Below w.heap.size w w' := by
  go_enter Try.func8, Try.ntmps8
  go_wp2_with fail
  refine (new_any w).mono ?_
  rintro r w1 ⟨rfl, c1, b1⟩
  have C1 := hide c1
  have B1 := hide b1
  clear c1 b1
  obtain ⟨X, hX⟩ : ∃ X, w.heap.size = X := ⟨_, rfl⟩
  have HX := hide hX
  rw [hX] at C1 B1 ⊢
  clear hX
  go_wp2_with fail
  refine (Ep.pack_ok 0 1 (by decide) (by decide) (by decide) (by decide) _).mono ?_
  rintro r w0 ⟨rfl, e0⟩
  obtain rfl := e0.symm
  go_wp2_with fail
  refine (Ep.pack_ok 1 1 (by decide) (by decide) (by decide) (by decide) _).mono ?_
  rintro r w0 ⟨rfl, e0⟩
  obtain rfl := e0.symm
  go_wp2_with fail
  refine (cnew_any _).mono ?_
  rintro r w2 ⟨nb, rfl, b2, n2⟩
  have C2 := hide (C1.out.new b2)
  have N2 := hide (n2 (Lw w))
  have B2 := hide b2
  clear b2 n2
  go_wp2_with fail
  refine (of_y _ [1] 1 1 rfl (w2.alloc (.cells #[.int .i64 1] 3)) (At.new w2 [1] 3) (by decide) (by decide) (by decide) (by intro k hk; match k, hk with | 0, _ => rfl)).mono ?_
  rintro r w3 ⟨sb, rfl, b3, n3⟩
  obtain ⟨Y, c4, n4, s4, sub⟩ : ∃ Y : Nat → Prop, CW Y X w3 ⟨0, [], false⟩ ∧ CL Y w3 nb [] ∧ CL Y w3 sb (trm [1]) ∧ ∀ k, Lw w k → Y k := by
    have b23 := btr (Ba.below_alloc w2 (.cells #[.int .i64 1] 3)) b3
    refine ⟨_, (C2.out.new (Ba.below_alloc w2 (.cells #[.int .i64 1] 3))).new b3, ?_, n3 _, fun k hk => .inl (.inl (.inl hk))⟩
    exact (N2.out.keep (KY.of b23 C2.out.yl)).mono fun k hk => .inl (.inl hk)
  have C4 := hide c4
  have N4 := hide n4
  have S4 := hide s4
  have B4 : Hid (KY (Lw w) w w3) := KY.of (btr (btr (btr (by rw [HX.out]; exact B1.out) B2.out) (Ba.below_alloc w2 (.cells #[.int .i64 1] 3))) b3) fun _ h => h
  have SUB := hide sub
  clear c4 n4 s4 sub b3 n3 C1 C2 N2 B1 B2
  go_wp2_with fail
  refine (write_ok C4.out 4294967297 (by decide) nb [] N4.out).mono ?_
  rintro r w4 ⟨rfl, c5, k5⟩
  have C5 := hide c5
  have N5 := hide (N4.out.keep k5)
  have S5 := hide (S4.out.keep k5)
  have B5 := hide (B4.out.trans (k5.mono SUB.out))
  have q1 : wrR ⟨0, [], false⟩ 4294967297 [] = 0 := by decide
  rw [q1]
  clear c5 k5 C4 N4 S4 B4 q1
  go_wp2_with fail
  refine (read_ok C5.out 8589934593 (by decide) nb [] N5.out).mono ?_
  rintro r w5 ⟨rfl, c6, k6⟩
  have C6 := hide c6
  have S6 := hide (S5.out.keep k6)
  have B6 := hide (B5.out.trans (k6.mono SUB.out))
  have q1 : rdR (wrS 4294967297) 8589934593 [] = 1 := by decide
  rw [q1]
  clear c6 k6 C5 N5 S5 B5 q1
  go_wp2_with fail
  refine (read_ok C6.out 8589934593 (by decide) sb (trm [1]) S6.out).mono ?_
  rintro r w6 ⟨rfl, c7, k7⟩
  have B7 := hide (B6.out.trans (k7.mono SUB.out))
  have q1 : rdR (rdS (wrS 4294967297) 8589934593 []) 8589934593 (trm [1]) = 0 := by decide
  rw [q1]
  clear c7 k7 C6 S6 B6 q1
  go_wp2_with fail
  go_ret
  exact ⟨rfl, KY.lw B7.out⟩
end Ce
end Go.Proofs.Ytodppbahihjegaa
