/- Package sheet: Bare, over this seat's program. -/
import Derived.Test.YtkcbokhkmcmpdaaGreatZjLoom10
import Derived.Test.YtkcbokhkmcmpdaaGreatHl
namespace Go.Proofs.YtkcbokhkmcmpdaaGreat
open Go.ChangeShapes Go.WideShapes Go.ChangeAt Go.RowKit
namespace Sh
open De Ba Re

/-- what Bare answers -/
def BRes (w : World) (T M : Int) (ps : List (List OpD)) (pl dr : List Int) (r : Ending) (w' : World) : Prop :=
  ∃ G L D arr, r = .returned (.agg #[.int .i64 T, .int .i64 M, .slice (some ⟨G, 0, none⟩) ps.length ps.length, .slice (some ⟨L, 0, none⟩) (bar pl).length pl.length, .slice (some ⟨D, 0, none⟩) dr.length dr.length]) ∧ (w'.heap[G]? = some (.cells arr 72 (0, 0)) ∧ PF w' (w.heap.size + 1) arr ps ∧ w.heap.size < G) ∧ (At w' (some ⟨L, 0, none⟩) (bar pl) ∧ G < L) ∧ w'.heap[D]? = some (.cells (row dr) 3 (0, 0)) ∧ L < D
theorem sc_frozen {w : World} {B : Nat} {v0 v1 v2 v3 v4 : Value} {t : TypeId} (h : w.heap[B]? = some (.cells #[v0, v1, v2, v3, v4] t (0, 0))) : w.frozen? ⟨B, 0, none⟩ = false ∧ w.frozen? ⟨B, 1, none⟩ = false ∧ w.frozen? ⟨B, 2, none⟩ = false ∧ w.frozen? ⟨B, 3, none⟩ = false ∧ w.frozen? ⟨B, 4, none⟩ = false :=
  ⟨frozen_of h 0, frozen_of h 1, frozen_of h 2, frozen_of h 3, frozen_of h 4⟩
theorem row_only {pl : List Int} {i : Nat} {v : Value} (h : (row pl)[i]? = some v) : ∃ n, v = .int .i64 n := by
  rw [row, List.getElem?_toArray, List.getElem?_map] at h
  cases hx : pl[i]? with
  | none => rw [hx] at h; cases h
  | some n => rw [hx] at h; exact ⟨n, (Option.some.inj h).symm⟩
theorem OF.kb_row {w w' : World} {N g L : Nat} {l : List OpD} {pl : List Int} {t : TypeId} {fr : Nat × Nat} (h : OF w N g l) (k : De.KB L w w') (hL : w.heap[L]? = some (.cells (row pl) t fr)) : OF w' N g l := by
  intro i o hi
  obtain ⟨ca, cc, ⟨q0, q1, q2, q3, q4⟩, hC, hN, h3⟩ := h i o hi
  have hg : g ≠ L := by
    rintro rfl
    rw [cell_of hL] at q3
    obtain ⟨n, e⟩ := row_only q3
    cases e
  refine ⟨ca, cc, ⟨kb_cell k q0 hg, kb_cell k q1 hg, kb_cell k q2 hg, kb_cell k q3 hg, kb_cell k q4 hg⟩, cat_kb' k hC ?_, hN, h3⟩
  intro a e hne hb
  cases hc : o.cases with
  | nil => exact hne hc
  | cons x xs =>
    obtain ⟨b, off, e2, y0, _⟩ := hC 0 x (by rw [hc]; rfl)
    rw [e] at e2
    cases e2
    simp only at hb
    subst hb
    rw [cell_of hL] at y0
    obtain ⟨n, e⟩ := row_only y0
    cases e
theorem PF.kb_row {w w' : World} {N L : Nat} {arr : Array Value} {ps : List (List OpD)} {pl : List Int} {t : TypeId} {fr : Nat × Nat} (h : PF w N arr ps) (k : De.KB L w w') (hL : w.heap[L]? = some (.cells (row pl) t fr)) : PF w' N arr ps := by
  intro i q hi
  obtain ⟨g, c, h1, h2, h3, h4⟩ := h i q hi
  exact ⟨g, c, h1, h2.kb_row k hL, h3, h4⟩
set_option maxRecDepth 100000 in
set_option maxHeartbeats 3200000 in
theorem bare_any (T M : Int) (ps : List (List OpD)) (pl dr : List Int) (pa la da : Option Addr) (pc lc dc : Nat) (w : World) (hS : SAt w ⟨T, M, ps, pl, dr⟩ pa la da) (hm : Small ps pl dr) :
    Calls Tryz.prog 30 #[.agg #[.int .i64 T, .int .i64 M, .slice pa ps.length pc, .slice la pl.length lc, .slice da dr.length dc]] w fun r w' => BRes w T M ps pl dr r w' ∧ Below w.heap.size w w' := by
  have hp := hm.p
  have HM := hide hm
  have B0 := hide (btr (below_alloc w (.cells #[.int .i64 T, .int .i64 M, .slice pa ps.length pc, .slice la pl.length lc, .slice da dr.length dc] 25)) (below_alloc (w.alloc (.cells #[.int .i64 T, .int .i64 M, .slice pa ps.length pc, .slice la pl.length lc, .slice da dr.length dc] 25)) (.cells #[.int .i64 0, .int .i64 0, .slice none 0 0, .slice none 0 0, .slice none 0 0] 25)))
  have X0 := hide (heap_below (heap_new w (.cells #[.int .i64 T, .int .i64 M, .slice pa ps.length pc, .slice la pl.length lc, .slice da dr.length dc] 25)) (below_alloc (w.alloc (.cells #[.int .i64 T, .int .i64 M, .slice pa ps.length pc, .slice la pl.length lc, .slice da dr.length dc] 25)) (.cells #[.int .i64 0, .int .i64 0, .slice none 0 0, .slice none 0 0, .slice none 0 0] 25)))
  have Z0 : Hid (((w.alloc (.cells #[.int .i64 T, .int .i64 M, .slice pa ps.length pc, .slice la pl.length lc, .slice da dr.length dc] 25)).alloc (.cells #[.int .i64 0, .int .i64 0, .slice none 0 0, .slice none 0 0, .slice none 0 0] 25)).heap[w.heap.size + 1]? = some (.cells #[.int .i64 0, .int .i64 0, .slice none 0 0, .slice none 0 0, .slice none 0 0] 25 (0, 0))) := by
    have := heap_new (w.alloc (.cells #[.int .i64 T, .int .i64 M, .slice pa ps.length pc, .slice la pl.length lc, .slice da dr.length dc] 25)) (.cells #[.int .i64 0, .int .i64 0, .slice none 0 0, .slice none 0 0, .slice none 0 0] 25)
    rw [World.size_alloc] at this
    exact this
  have s0 : ((w.alloc (.cells #[.int .i64 T, .int .i64 M, .slice pa ps.length pc, .slice la pl.length lc, .slice da dr.length dc] 25)).alloc (.cells #[.int .i64 0, .int .i64 0, .slice none 0 0, .slice none 0 0, .slice none 0 0] 25)).heap.size = w.heap.size + 1 + 1 := by rw [World.size_alloc, World.size_alloc]
  have HS0 := hide s0
  have S0 := hide (hS.below B0.out)
  obtain ⟨x0, x1, x2, x3, x4⟩ := sc_cells X0.out
  clear hS hm s0
  go_enter Tryz.func30, Tryz.ntmps30
  go_wp2_with fail
  generalize (w.alloc (.cells #[.int .i64 T, .int .i64 M, .slice pa ps.length pc, .slice la pl.length lc, .slice da dr.length dc] 25)).alloc (.cells #[.int .i64 0, .int .i64 0, .slice none 0 0, .slice none 0 0, .slice none 0 0] 25) = W0 at B0 X0 Z0 HS0 S0 x0 x1 x2 x3 x4 ⊢
  refine (copy_any T M ps pl dr pa la da pc lc dc _ S0.out HM.out).mono ?_
  rintro r w1 ⟨⟨G, L, D, arr, rfl, ⟨g1, p1, n1⟩, ⟨l1, n2⟩, d1, n3⟩, b1⟩
  rw [HS0.out] at n1 p1
  have X1 := hide (heap_below X0.out b1)
  have Z1 := hide (heap_below Z0.out b1)
  have B1 := hide (btr B0.out b1)
  obtain ⟨y0, y1, y2, y3, y4⟩ := sc_cells X1.out
  obtain ⟨f0, f1, f2, f3, f4⟩ := sc_frozen X1.out
  have KB1 := (((((De.KB.refl w.heap.size w1).setCell 0 (.int .i64 T)).setCell 1 (.int .i64 M)).setCell 2 (.slice (some ⟨G, 0, none⟩) ps.length ps.length)).setCell 3 (.slice (some ⟨L, 0, none⟩) pl.length pl.length)).setCell 4 (.slice (some ⟨D, 0, none⟩) dr.length dr.length)
  have X2 := hide (five_set X1.out (.int .i64 T) (.int .i64 M) (.slice (some ⟨G, 0, none⟩) ps.length ps.length) (.slice (some ⟨L, 0, none⟩) pl.length pl.length) (.slice (some ⟨D, 0, none⟩) dr.length dr.length))
  have Z2 := hide (KB1.heap Z1.out (by omega))
  have G2 := hide (KB1.heap g1 (by omega))
  have L2 := hide (KB1.heap l1 (by omega))
  have D2 := hide (KB1.heap d1 (by omega))
  have P2 := hide (p1.kb KB1 (by omega))
  have B2 := hide (De.KB.below B1.out KB1 (Nat.le_refl _))
  clear g1 p1 l1 d1 b1 KB1 x0 x1 x2 x3 x4
  go_wp2_with fail
  generalize ((((w1.setCell ⟨w.heap.size, 0, none⟩ (.int .i64 T)).setCell ⟨w.heap.size, 1, none⟩ (.int .i64 M)).setCell ⟨w.heap.size, 2, none⟩ (.slice (some ⟨G, 0, none⟩) ps.length ps.length)).setCell ⟨w.heap.size, 3, none⟩ (.slice (some ⟨L, 0, none⟩) pl.length pl.length)).setCell ⟨w.heap.size, 4, none⟩ (.slice (some ⟨D, 0, none⟩) dr.length dr.length) = W2 at X2 Z2 G2 L2 D2 P2 B2 ⊢
  clear y0 y1 y2 y3 y4 f0 f1 f2 f3 f4 X0 Z0 B0 X1 Z1 B1 S0
  refine (delete_any L pl _ L2.out (by omega)).mono ?_
  rintro r w3 ⟨rfl, a3, k3⟩
  have X3 := hide (k3.heap X2.out (by omega))
  have Z3 := hide (k3.heap Z2.out (by omega))
  have G3 := hide (k3.heap G2.out (by omega))
  have D3 := hide (k3.heap D2.out (by omega))
  have P3 := hide (P2.out.kb_row k3 L2.out)
  have B3 := hide (De.KB.below B2.out k3 (by omega))
  have A3 := hide a3
  obtain ⟨y0, y1, y2, y3, y4⟩ := sc_cells X3.out
  have f3 := frozen_of X3.out 3
  have K4 := (De.KB.refl w.heap.size w3).setCell 3 (.slice (some ⟨L, 0, none⟩) (bar pl).length pl.length)
  have X4 : Hid ((w3.setCell ⟨w.heap.size, 3, none⟩ (.slice (some ⟨L, 0, none⟩) (bar pl).length pl.length)).heap[w.heap.size]? = some (.cells #[.int .i64 T, .int .i64 M, (.slice (some ⟨G, 0, none⟩) ps.length ps.length), .slice (some ⟨L, 0, none⟩) (bar pl).length pl.length, (.slice (some ⟨D, 0, none⟩) dr.length dr.length)] 25 (0, 0))) := Ba.heap_setCell_same X3.out (i := 3) _
  have Z4 := hide (K4.heap Z3.out (by omega))
  have G4 := hide (K4.heap G3.out (by omega))
  have D4 := hide (K4.heap D3.out (by omega))
  have P4 := hide (P3.out.kb K4 (by omega))
  have B4 := hide (De.KB.below B3.out K4 (Nat.le_refl _))
  have A4 := hide (kb_at K4 A3.out (fun a e => by cases e; show L ≠ w.heap.size; omega))
  obtain ⟨u0, u1, u2, u3, u4⟩ := sc_cells X4.out
  obtain ⟨r0, r1, r2, r3, r4⟩ := sc_cells Z4.out
  obtain ⟨q0, q1, q2, q3, q4⟩ := sc_frozen Z4.out
  clear a3 k3 K4
  go_wp2_with fail
  have KZ := fun (u0 u1 u2 u3 u4 : Value) => (((((De.KB.refl (w.heap.size + 1) (w3.setCell ⟨w.heap.size, 3, none⟩ (.slice (some ⟨L, 0, none⟩) (bar pl).length pl.length))).setCell 0 u0).setCell 1 u1).setCell 2 u2).setCell 3 u3).setCell 4 u4
  exact bodyPost_ret (results_row1 Tryz.results30 _ _ _ _ rfl (loadVar_sc (five_set Z4.out _ _ _ _ _) rfl)) rfl ⟨⟨G, L, D, arr, rfl, ⟨(KZ _ _ _ _ _).heap G4.out (by omega), (P4.out.kb (KZ _ _ _ _ _) (by omega)).mono (by omega), by omega⟩, ⟨kb_at (KZ _ _ _ _ _) A4.out (fun a e => by cases e; show L ≠ w.heap.size + 1; omega), n2⟩, (KZ _ _ _ _ _).heap D4.out (by omega), n3⟩, De.KB.below B4.out (KZ _ _ _ _ _) (by omega)⟩
end Sh
end Go.Proofs.YtkcbokhkmcmpdaaGreat
