/- For every script, the law SheetCopies returns true, so a copy is the same and shares nothing, and a bare one has no Compact entries and all others in their order: under no condition. -/
import Derived.Test.YtgnhophlnbpcgaaHy
import Derived.Test.YtgnhophlnbpcgaaHw
import Derived.Test.YtgnhophlnbpcgaaHo
import Derived.Test.YtgnhophlnbpcgaaHr
import Derived.ShutString
import Derived.ChangeOld
import Derived.Below
namespace Go.Proofs.Ytgnhophlnbpcgaa.sheetCopies
open Go.ChangeShapes Go.WideShapes Go.ChangeAt Go.RowKit
open Go.ChangeMaps (open_string shut_string)
open Sh De Ba Re

theorem own : ownKnob Try.prog.godebug = none := by kernel_rfl
theorem laidOut : laidOutB Try.prog = true := by kernel_rfl

set_option maxHeartbeats 6400000

set_option maxRecDepth 100000 in
theorem core {w : World} (T M : Int) (ps : List (List OpD)) (pl dr : List Int) (pa la da : Option Addr) (pc lc dc : Nat) (hS : SAt w ⟨T, M, ps, pl, dr⟩ pa la da) (hH : Held ps) :
    Calls Try.prog 7 #[.agg #[.int .i64 T, .int .i64 M, .slice pa ps.length pc, .slice la pl.length lc, .slice da dr.length dc]] w fun r w' => r = .returned (.bool true) ∧ Below w.heap.size w w' := by
  have SS := hide hS
  have S0 := hide (hS.below (below_alloc w (.cells #[.int .i64 T, .int .i64 M, .slice pa ps.length pc, .slice la pl.length lc, .slice da dr.length dc] 38)))
  have B0 := hide (below_alloc w (.cells #[.int .i64 T, .int .i64 M, .slice pa ps.length pc, .slice la pl.length lc, .slice da dr.length dc] 38))
  have X0 := hide (heap_new w (.cells #[.int .i64 T, .int .i64 M, .slice pa ps.length pc, .slice la pl.length lc, .slice da dr.length dc] 38))
  clear hS
  go_enter Try.func7, Try.ntmps7
  go_wp2_with fail
  generalize w.alloc (.cells #[.int .i64 T, .int .i64 M, .slice pa ps.length pc, .slice la pl.length lc, .slice da dr.length dc] 38) = W at S0 B0 X0 ⊢
  refine (large_any T M ps pl dr _ _ _ _ _ _ _ S0.out hH).mono ?_
  rintro r w1 ⟨⟨b, rfl, hb⟩, b1⟩
  have S1 := hide (S0.out.below b1)
  have B1 := hide (btr B0.out b1)
  have X1 := hide (heap_below X0.out b1)
  clear b1 S0 B0 X0
  cases b
  case true =>
    go_wp2_with fail
    refine (exits_any _).mono ?_
    rintro r w2 ⟨rfl, b2⟩
    have B2 := hide (btr B1.out b2)
    clear b2
    go_wp2_with fail
    go_ret
    exact ⟨rfl, B2.out⟩
  have SM := hide (hb rfl)
  clear hb
  have SX := hide SM.out.bar
  obtain ⟨X, hX⟩ : ∃ X, bar pl = X := ⟨_, rfl⟩
  have HX := hide hX
  rw [hX] at SX
  clear hX
  have N0 : Hid (w.heap.size < w1.heap.size) := De.heap_lt X1.out
  obtain ⟨x0, x1, x2, x3, x4⟩ := sc_cells X1.out
  go_wp2_with fail
  refine (copy_nf T M ps pl dr _ _ _ _ _ _ _ S1.out SM.out).mono ?_
  rintro r w2 ⟨⟨⟨G, L, D, arr, rfl, ⟨hG, hP, hN⟩, ⟨hL, hGL⟩, hD, hLD⟩, hF⟩, b2⟩
  have GC := hide hG
  have PC := hide hP
  have LC := hide hL
  have DC := hide hD
  have FC := hide hF
  have NC := hide (And.intro hN (And.intro hGL hLD))
  have S2 := hide ((S1.out.below b2).below (below_alloc w2 (.cells #[.int .i64 T, .int .i64 M, .slice (some ⟨G, 0, none⟩) ps.length ps.length, .slice (some ⟨L, 0, none⟩) pl.length pl.length, .slice (some ⟨D, 0, none⟩) dr.length dr.length] 38)))
  have B2 := hide (btr (btr B1.out b2) (below_alloc w2 (.cells #[.int .i64 T, .int .i64 M, .slice (some ⟨G, 0, none⟩) ps.length ps.length, .slice (some ⟨L, 0, none⟩) pl.length pl.length, .slice (some ⟨D, 0, none⟩) dr.length dr.length] 38)))
  have X2 := hide (heap_below (heap_below X1.out b2) (below_alloc w2 (.cells #[.int .i64 T, .int .i64 M, .slice (some ⟨G, 0, none⟩) ps.length ps.length, .slice (some ⟨L, 0, none⟩) pl.length pl.length, .slice (some ⟨D, 0, none⟩) dr.length dr.length] 38)))
  have Y2 := hide (heap_new w2 (.cells #[.int .i64 T, .int .i64 M, .slice (some ⟨G, 0, none⟩) ps.length ps.length, .slice (some ⟨L, 0, none⟩) pl.length pl.length, .slice (some ⟨D, 0, none⟩) dr.length dr.length] 38))
  have BC := hide (below_alloc w2 (.cells #[.int .i64 T, .int .i64 M, .slice (some ⟨G, 0, none⟩) ps.length ps.length, .slice (some ⟨L, 0, none⟩) pl.length pl.length, .slice (some ⟨D, 0, none⟩) dr.length dr.length] 38))
  have SZ : Hid ((w2.alloc (.cells #[.int .i64 T, .int .i64 M, .slice (some ⟨G, 0, none⟩) ps.length ps.length, .slice (some ⟨L, 0, none⟩) pl.length pl.length, .slice (some ⟨D, 0, none⟩) dr.length dr.length] 38)).heap.size = w2.heap.size + 1) := World.size_alloc _ _
  have N2 : Hid (w1.heap.size ≤ w2.heap.size) := b2.size
  clear b2 hG hP hL hD hF hN hGL hLD S1 B1 X1 x0 x1 x2 x3 x4
  obtain ⟨x0, x1, x2, x3, x4⟩ := sc_cells X2.out
  go_wp2_with fail
  generalize w2.alloc (.cells #[.int .i64 T, .int .i64 M, .slice (some ⟨G, 0, none⟩) ps.length ps.length, .slice (some ⟨L, 0, none⟩) pl.length pl.length, .slice (some ⟨D, 0, none⟩) dr.length dr.length] 38) = W2 at S2 B2 X2 Y2 BC SZ x0 x1 x2 x3 x4 ⊢
  refine (copy_nf T M ps pl dr _ _ _ _ _ _ _ S2.out SM.out).mono ?_
  rintro r w3 ⟨⟨⟨G3, L3, D3, arr3, rfl, ⟨hG, hP, hN⟩, ⟨hL, hGL⟩, hD, hLD⟩, _⟩, b3⟩
  have GD := hide (heap_below hG (below_alloc w3 (.cells #[.int .i64 T, .int .i64 M, .slice (some ⟨G3, 0, none⟩) ps.length ps.length, .slice (some ⟨L3, 0, none⟩) pl.length pl.length, .slice (some ⟨D3, 0, none⟩) dr.length dr.length] 38)))
  have PD := hide (hP.below (below_alloc w3 (.cells #[.int .i64 T, .int .i64 M, .slice (some ⟨G3, 0, none⟩) ps.length ps.length, .slice (some ⟨L3, 0, none⟩) pl.length pl.length, .slice (some ⟨D3, 0, none⟩) dr.length dr.length] 38)) (by omega))
  have LD := hide (heap_below hL (below_alloc w3 (.cells #[.int .i64 T, .int .i64 M, .slice (some ⟨G3, 0, none⟩) ps.length ps.length, .slice (some ⟨L3, 0, none⟩) pl.length pl.length, .slice (some ⟨D3, 0, none⟩) dr.length dr.length] 38)))
  have DD := hide (heap_below hD (below_alloc w3 (.cells #[.int .i64 T, .int .i64 M, .slice (some ⟨G3, 0, none⟩) ps.length ps.length, .slice (some ⟨L3, 0, none⟩) pl.length pl.length, .slice (some ⟨D3, 0, none⟩) dr.length dr.length] 38)))
  have ND := hide (And.intro hN (And.intro hGL hLD))
  have S3 := hide ((S2.out.below b3).below (below_alloc w3 (.cells #[.int .i64 T, .int .i64 M, .slice (some ⟨G3, 0, none⟩) ps.length ps.length, .slice (some ⟨L3, 0, none⟩) pl.length pl.length, .slice (some ⟨D3, 0, none⟩) dr.length dr.length] 38)))
  have B3 := hide (btr (btr B2.out b3) (below_alloc w3 (.cells #[.int .i64 T, .int .i64 M, .slice (some ⟨G3, 0, none⟩) ps.length ps.length, .slice (some ⟨L3, 0, none⟩) pl.length pl.length, .slice (some ⟨D3, 0, none⟩) dr.length dr.length] 38)))
  have X3 := hide (heap_below (heap_below X2.out b3) (below_alloc w3 (.cells #[.int .i64 T, .int .i64 M, .slice (some ⟨G3, 0, none⟩) ps.length ps.length, .slice (some ⟨L3, 0, none⟩) pl.length pl.length, .slice (some ⟨D3, 0, none⟩) dr.length dr.length] 38)))
  have Y3 := hide (heap_below (heap_below Y2.out b3) (below_alloc w3 (.cells #[.int .i64 T, .int .i64 M, .slice (some ⟨G3, 0, none⟩) ps.length ps.length, .slice (some ⟨L3, 0, none⟩) pl.length pl.length, .slice (some ⟨D3, 0, none⟩) dr.length dr.length] 38)))
  have Z3 := hide (heap_new w3 (.cells #[.int .i64 T, .int .i64 M, .slice (some ⟨G3, 0, none⟩) ps.length ps.length, .slice (some ⟨L3, 0, none⟩) pl.length pl.length, .slice (some ⟨D3, 0, none⟩) dr.length dr.length] 38))
  have BC3 := hide (btr (btr BC.out b3) (below_alloc w3 (.cells #[.int .i64 T, .int .i64 M, .slice (some ⟨G3, 0, none⟩) ps.length ps.length, .slice (some ⟨L3, 0, none⟩) pl.length pl.length, .slice (some ⟨D3, 0, none⟩) dr.length dr.length] 38)))
  have N3 : Hid (w2.heap.size + 1 ≤ w3.heap.size) := by have := b3.size; rw [SZ.out] at this; exact this
  clear b3 hG hP hL hD hN hGL hLD S2 B2 X2 Y2 BC x0 x1 x2 x3 x4
  obtain ⟨x0, x1, x2, x3, x4⟩ := sc_cells X3.out
  go_wp2_with fail
  generalize w3.alloc (.cells #[.int .i64 T, .int .i64 M, .slice (some ⟨G3, 0, none⟩) ps.length ps.length, .slice (some ⟨L3, 0, none⟩) pl.length pl.length, .slice (some ⟨D3, 0, none⟩) dr.length dr.length] 38) = W3 at GD PD LD DD S3 B3 X3 Y3 Z3 BC3 x0 x1 x2 x3 x4 ⊢
  refine (bare_s T M ps pl dr _ _ _ _ _ _ _ S3.out SM.out X HX.out).mono ?_
  rintro r w4 ⟨⟨G4, L4, D4, pc4, lc4, dc4, rfl, hA⟩, b4⟩
  have A4 := hide hA
  have GD4 := hide (heap_below GD.out b4)
  have PD4 := hide (PD.out.below b4 (by omega))
  have LD4 := hide (heap_below LD.out b4)
  have DD4 := hide (heap_below DD.out b4)
  have S4 := hide (S3.out.below b4)
  have B4 := hide (btr B3.out b4)
  have X4 := hide (heap_below X3.out b4)
  have Y4 := hide (heap_below Y3.out b4)
  have Z4 := hide (heap_below Z3.out b4)
  have BC4 := hide (btr BC3.out b4)
  have N4 : Hid (w3.heap.size < w4.heap.size) := De.heap_lt Z4.out
  clear b4 hA GD PD LD DD S3 B3 X3 Y3 Z3 BC3 x0 x1 x2 x3 x4
  have CA : Hid (SAt w4 ⟨T, M, ps, pl, dr⟩ (some ⟨G, 0, none⟩) (some ⟨L, 0, none⟩) (some ⟨D, 0, none⟩)) := SAt.below ⟨PC.out.at GC.out, at_heap LC.out, at_heap DC.out, S4.out.h1, S4.out.h2, S4.out.h3⟩ BC4.out
  have DA : Hid (SAt w4 ⟨T, M, ps, pl, dr⟩ (some ⟨G3, 0, none⟩) (some ⟨L3, 0, none⟩) (some ⟨D3, 0, none⟩)) := ⟨PD4.out.at GD4.out, at_heap LD4.out, at_heap DD4.out, S4.out.h1, S4.out.h2, S4.out.h3⟩
  have BB := hide (below_alloc w4 (.cells #[.int .i64 T, .int .i64 M, .slice (some ⟨G4, 0, none⟩) ps.length pc4, .slice (some ⟨L4, 0, none⟩) X.length lc4, .slice (some ⟨D4, 0, none⟩) dr.length dc4] 38))
  have ZB := hide (heap_new w4 (.cells #[.int .i64 T, .int .i64 M, .slice (some ⟨G4, 0, none⟩) ps.length pc4, .slice (some ⟨L4, 0, none⟩) X.length lc4, .slice (some ⟨D4, 0, none⟩) dr.length dc4] 38))
  go_wp2_with fail
  generalize w4.alloc (.cells #[.int .i64 T, .int .i64 M, .slice (some ⟨G4, 0, none⟩) ps.length pc4, .slice (some ⟨L4, 0, none⟩) X.length lc4, .slice (some ⟨D4, 0, none⟩) dr.length dc4] 38) = W4 at BB ZB ⊢
  have hpl := SM.out.p
  have hpn := SM.out.n
  have hXl := SX.out.p
  obtain ⟨x0, x1, x2, x3, x4⟩ := sc_cells (heap_below X4.out BB.out)
  obtain ⟨y0, y1, y2, y3, y4⟩ := sc_cells (heap_below Y4.out BB.out)
  obtain ⟨z0, z1, z2, z3, z4⟩ := sc_cells ZB.out
  clear z0 z1 z2 z4
  go_region_held3 (fun w' => w'.cell? ⟨w.heap.size, 0, none⟩ = some (.int .i64 T) ∧ w'.cell? ⟨w.heap.size, 1, none⟩ = some (.int .i64 M) ∧ w'.cell? ⟨w.heap.size, 2, none⟩ = some (.slice pa ps.length pc) ∧ w'.cell? ⟨w.heap.size, 3, none⟩ = some (.slice la pl.length lc) ∧ w'.cell? ⟨w.heap.size, 4, none⟩ = some (.slice da dr.length dc) ∧ w'.cell? ⟨w2.heap.size, 0, none⟩ = some (.int .i64 T) ∧ w'.cell? ⟨w2.heap.size, 1, none⟩ = some (.int .i64 M) ∧ w'.cell? ⟨w2.heap.size, 2, none⟩ = some (.slice (some ⟨G, 0, none⟩) ps.length ps.length) ∧ w'.cell? ⟨w2.heap.size, 3, none⟩ = some (.slice (some ⟨L, 0, none⟩) pl.length pl.length) ∧ w'.cell? ⟨w2.heap.size, 4, none⟩ = some (.slice (some ⟨D, 0, none⟩) dr.length dr.length) ∧ w'.cell? ⟨w4.heap.size, 3, none⟩ = some (.slice (some ⟨L4, 0, none⟩) X.length lc4))
    (first
      | go_keep
      | (go_split_ands
         first
           | (refine ⟨?_, ?_, ?_, ?_, ?_, ?_, ?_, ?_, ?_, ?_, ?_⟩ <;> (refine cellB ?_ c3; assumption))
           | (refine ⟨?_, ?_, ?_, ?_, ?_, ?_, ?_, ?_, ?_, ?_, ?_⟩ <;> (refine cellB ?_ c2; assumption))
           | (refine ⟨?_, ?_, ?_, ?_, ?_, ?_, ?_, ?_, ?_, ?_, ?_⟩ <;> (refine cellB ?_ c1; assumption))))
    (first
      | (go_at_call 21; refine (script_any T M ps pl dr T M ps pl dr _ _ _ _ _ _ _ _ _ _ _ _ _ ((CA.out.below BB.out).below (bdrew1 _)) ((S4.out.below BB.out).below (bdrew1 _)) SM.out SM.out).mono ?_; rintro r u1 ⟨⟨bb, rfl, hbb⟩, c1⟩; obtain rfl : bb = true := hbb.2 rfl)
      | (go_at_call 25; refine (rbare_any la pl lc _ ((((S4.out.below BB.out).below (bdrew1 _)).below c1).pl) hpl).mono ?_; rw [HX.out]; rintro r u2 ⟨⟨oq, cq, rfl, hq⟩, c2⟩)
      | (go_at_call 24; refine (ints_is _ _ X X _ _ _ _ true (by simp) rfl rfl _ (((((A4.out.below BB.out).below (bdrew1 _)).below c1).below c2).pl) hq (by omega) (by omega)).mono ?_; rintro r u3 ⟨rfl, c3⟩))
  have BU := hide (btr BB.out (btr (bdrew1 _) (btr c1 (btr c2 c3))))
  have ZU := hide (heap_below ZB.out (btr (bdrew1 _) (btr c1 (btr c2 c3))))
  clear c1 c2 c3 hq BB ZB hbb x0 x1 x2 x3 x4 y0 y1 y2 y3 y4 z3
  obtain ⟨x0, x1, x2, x3, x4⟩ := sc_cells (heap_below X4.out BU.out)
  obtain ⟨z0, z1, z2, z3, z4⟩ := sc_cells ZU.out
  have zf := frozen_of ZU.out 3
  have d3 := (sc_cells (heap_below Z4.out BU.out)).2.2.2.1
  have e1 : w.heap.size ≠ w4.heap.size := by have := N0.out; have := N2.out; have := N3.out; have := N4.out; omega
  have BV : Hid (Below w4.heap.size w4 (u3.setCell ⟨w4.heap.size, 3, none⟩ (.slice (some ⟨L3, 0, none⟩) pl.length pl.length))) := BU.out.setCell (Nat.le_refl _) _
  go_wp2_with fail
  generalize u3.setCell ⟨w4.heap.size, 3, none⟩ (.slice (some ⟨L3, 0, none⟩) pl.length pl.length) = V at BV ⊢
  clear x0 x1 x2 x3 x4 z0 z1 z2 z3 z4 zf d3 BU ZU
  have BA : Hid (SAt V ⟨T, M, ps, pl, dr⟩ (some ⟨G4, 0, none⟩) (some ⟨L3, 0, none⟩) (some ⟨D4, 0, none⟩)) := ⟨(A4.out.below BV.out).ps, (DA.out.below BV.out).pl, (A4.out.below BV.out).dr, S4.out.h1, S4.out.h2, S4.out.h3⟩
  refine (script_any T M ps pl dr T M ps pl dr _ _ _ _ _ _ _ _ _ _ _ _ _ BA.out (S4.out.below BV.out) SM.out SM.out).mono ?_
  rintro r wd ⟨⟨bb, rfl, hbb⟩, b5⟩
  obtain rfl : bb = true := hbb.2 rfl
  have BD := hide (btr BV.out b5)
  have BW := hide (btr B4.out BD.out)
  have BX := hide (btr BC4.out BD.out)
  clear b5 hbb BV BA
  have C2 := (sc_cells (heap_below Y4.out BD.out)).2.2.1
  have C3 := (sc_cells (heap_below Y4.out BD.out)).2.2.2.1
  have C4 := (sc_cells (heap_below Y4.out BD.out)).2.2.2.2
  have HC2 := hide C2
  have HC3 := hide C3
  have HC4 := hide C4
  clear C3 C4
  go_wp2_with fail
  clear C2
  go_loopw [43] (fun i wr => ∃ (k : Nat), k ≤ ps.length ∧ i = .int .i64 k ∧ Sim w1.heap.size w2.heap.size wd wr) (fun i _ => ps.length - (intOf i).toNat)
  case atStart => exact ⟨0, Nat.zero_le _, rfl, Sim.refl _ _ _⟩
  case round =>
    rename World => wa
    obtain ⟨k, hk, rfl, sm⟩ := hrel
    have SI := hide sm
    clear sm
    have g2 := SI.out.sl HC2.out
    by_cases hlt : k < ps.length
    · have hlt' : (k : Int) < (ps.length : Int) := by omega
      obtain ⟨q, hq⟩ : ∃ q, ps[k]? = some q := ⟨ps[k], by simp [hlt]⟩
      obtain ⟨g, cg, har, hof, hng, hq1⟩ := PC.out k q hq
      have rk := (cell_of GC.out k).trans har
      have RK := hide (cellB rk BX.out)
      have rka := SI.out.sl RK.out
      have OF2 := hide hof
      clear hq har rk hof
      go_wp2_with fail
      clear g2 rka
      go_loopw [52] (fun i wr => ∃ (j : Nat), j ≤ q.length ∧ i = .int .i64 j ∧ Sim w1.heap.size w2.heap.size wd wr) (fun i _ => q.length - (intOf i).toNat)
      case atStart => exact ⟨0, Nat.zero_le _, rfl, SI.out⟩
      case round =>
        clear SI
        rename World => wb
        obtain ⟨j, hj, rfl, sm⟩ := hrel
        have SI := hide sm
        clear sm
        have g2 := SI.out.sl HC2.out
        have rkb := SI.out.sl RK.out
        by_cases hjl : j < q.length
        · have hjl' : (j : Int) < (q.length : Int) := by omega
          obtain ⟨o, ho⟩ : ∃ o, q[j]? = some o := ⟨q[j], by simp [hjl]⟩
          obtain ⟨ca, cc, ⟨y0, -, -, y3, -⟩, hC, hca, hl3⟩ := OF2.out j o ho
          have hgb := World.block_lt_of_cell? w2 _ y0
          simp only at hgb
          have Y0 := hide (cellB y0 BX.out)
          have Y3c := hide (cellB y3 BX.out)
          have FG : Hid (∀ i, wd.frozen? ⟨g, i, none⟩ = false) := fun i => (BX.out.frozen (p := ⟨g, i, none⟩) hgb).trans (FC.out g i (by omega))
          have HC := hide hC
          have HCA := hide hca
          have y3b := SI.out.sl Y3c.out
          clear ho hC hca y0 y3
          go_wp2_with fail
          clear g2 rkb y3b
          go_loopw [65] (fun i wr => ∃ (m : Nat), m ≤ o.cases.length ∧ i = .int .i64 m ∧ Sim w1.heap.size w2.heap.size wd wr) (fun i _ => o.cases.length - (intOf i).toNat)
          case atStart => exact ⟨0, Nat.zero_le _, rfl, SI.out⟩
          case round =>
            clear SI
            obtain ⟨m, hm, rfl, sm⟩ := hrel
            have SI := hide sm
            clear sm
            have g2 := SI.out.sl HC2.out
            have rkc := SI.out.sl RK.out
            have y3c := SI.out.sl Y3c.out
            by_cases hml : m < o.cases.length
            · have hml' : (m : Int) < (o.cases.length : Int) := by omega
              obtain ⟨x, hx⟩ : ∃ x, o.cases[m]? = some x := ⟨o.cases[m], by simp [hml]⟩
              obtain ⟨cb, co, rfl, -, r1, -⟩ := HC.out m x hx
              have hcb := World.block_lt_of_cell? w2 _ r1
              simp only at hcb
              have hcn := HCA.out _ rfl
              simp only at hcn
              have R1 := hide (cellB r1 BX.out)
              obtain ⟨yv, ry⟩ := SI.out.int R1.out
              have rf : wr.frozen? ⟨cb, co + m * 3 + 1, none⟩ = false := (SI.out.fro _ _).trans ((BX.out.frozen (p := ⟨cb, co + m * 3 + 1, none⟩) hcb).trans (FC.out cb _ (by omega)))
              have SN := hide (SI.out.set (y := -7) (by omega) hcb R1.out)
              clear hx r1
              go_wp2_with fail
              go_roundw
              case rel => exact ⟨m + 1, by omega, by go_num, SN.out⟩
              case measure => simp [intOf]; omega
            · have hml' : ¬ ((m : Int) < (o.cases.length : Int)) := by omega
              obtain ⟨yv, ry⟩ := SI.out.int Y0.out
              have rf : wr.frozen? ⟨g, j * 5, none⟩ = false := (SI.out.fro _ _).trans (FG.out _)
              have SN := hide (SI.out.set (y := -7) (by omega) hgb Y0.out)
              go_wp2_with fail
              go_roundw
              case rel => exact ⟨j + 1, by omega, by go_num, SN.out⟩
              case measure => simp [intOf]; omega
        · have hjl' : ¬ ((j : Int) < (q.length : Int)) := by omega
          go_wp2_with fail
          go_roundw
          case rel => exact ⟨k + 1, by omega, by go_num, SI.out⟩
          case measure => simp [intOf]; omega
    · have hlt' : ¬ ((k : Int) < (ps.length : Int)) := by omega
      have g3 := SI.out.sl HC3.out
      have hdr := SM.out.d
      go_wp2_with fail
      clear g2 g3
      go_loopw [94] (fun i wr => ∃ (k : Nat), k ≤ pl.length ∧ i = .int .i64 k ∧ Sim w1.heap.size w2.heap.size wd wr) (fun i _ => pl.length - (intOf i).toNat)
      case atStart => exact ⟨0, Nat.zero_le _, rfl, SI.out⟩
      case round =>
        clear SI
        rename World => wb
        obtain ⟨j, hj, rfl, sm⟩ := hrel
        have SI := hide sm
        clear sm
        by_cases hjl : j < pl.length
        · have hjl' : (j : Int) < (pl.length : Int) := by omega
          have g3 := SI.out.sl HC3.out
          have r1 := (cell_of LC.out j).trans (row_at pl j hjl)
          have hLb := World.block_lt_of_cell? w2 _ r1
          simp only at hLb
          have R1 := hide (cellB r1 BX.out)
          obtain ⟨yv, ry⟩ := SI.out.int R1.out
          have hnl : w1.heap.size ≤ L := by have := NC.out; omega
          have rf : wb.frozen? ⟨L, j, none⟩ = false := (SI.out.fro _ _).trans ((BX.out.frozen (p := ⟨L, j, none⟩) hLb).trans (FC.out L _ hnl))
          have SN := hide (SI.out.set (y := -7) hnl hLb R1.out)
          clear r1
          go_wp2_with fail
          go_roundw
          case rel => exact ⟨j + 1, by omega, by go_num, SN.out⟩
          case measure => simp [intOf]; omega
        · have hjl' : ¬ ((j : Int) < (pl.length : Int)) := by omega
          have g4 := SI.out.sl HC4.out
          go_wp2_with fail
          clear g4
          go_loopw [105] (fun i wr => ∃ (k : Nat), k ≤ dr.length ∧ i = .int .i64 k ∧ Sim w1.heap.size w2.heap.size wd wr) (fun i _ => dr.length - (intOf i).toNat)
          case atStart => exact ⟨0, Nat.zero_le _, rfl, SI.out⟩
          case round =>
            clear SI
            obtain ⟨m, hm, rfl, sm⟩ := hrel
            have SI := hide sm
            clear sm
            by_cases hml : m < dr.length
            · have hml' : (m : Int) < (dr.length : Int) := by omega
              have g4 := SI.out.sl HC4.out
              have r1 := (cell_of DC.out m).trans (row_at dr m hml)
              have hDb := World.block_lt_of_cell? w2 _ r1
              simp only at hDb
              have R1 := hide (cellB r1 BX.out)
              obtain ⟨yv, ry⟩ := SI.out.int R1.out
              have hnd : w1.heap.size ≤ D := by have := NC.out; omega
              have rf : wr.frozen? ⟨D, m, none⟩ = false := (SI.out.fro _ _).trans ((BX.out.frozen (p := ⟨D, m, none⟩) hDb).trans (FC.out D _ hnd))
              have SN := hide (SI.out.set (y := -7) hnd hDb R1.out)
              clear r1
              go_wp2_with fail
              go_roundw
              case rel => exact ⟨m + 1, by omega, by go_num, SN.out⟩
              case measure => simp [intOf]; omega
            · have hml' : ¬ ((m : Int) < (dr.length : Int)) := by omega
              have n0 := N0.out
              have n2 := N2.out
              have n3 := N3.out
              have n4 := N4.out
              have BF := hide (SI.out.below BW.out (Nat.le_of_lt n0))
              have nd := ND.out
              rw [SZ.out] at nd
              have PF6 := hide (SI.out.pf (PD4.out.below BD.out (by omega)) (by rw [SZ.out]; omega))
              have DF : Hid (SAt wr ⟨T, M, ps, pl, dr⟩ (some ⟨G3, 0, none⟩) (some ⟨L3, 0, none⟩) (some ⟨D3, 0, none⟩)) := ⟨PF6.out.at ((SI.out.out G3 (.inr (by omega))).trans (heap_below GD4.out BD.out)), at_heap ((SI.out.out L3 (.inr (by omega))).trans (heap_below LD4.out BD.out)), at_heap ((SI.out.out D3 (.inr (by omega))).trans (heap_below DD4.out BD.out)), S4.out.h1, S4.out.h2, S4.out.h3⟩
              have SF := hide (SS.out.below BF.out)
              obtain ⟨x0, x1, x2, x3, x4⟩ := sc_cells ((SI.out.out w.heap.size (.inl n0)).trans (heap_below X4.out BD.out))
              obtain ⟨z0, z1, z2, z3, z4⟩ := sc_cells ((SI.out.out w3.heap.size (.inr (by omega))).trans (heap_below Z4.out BD.out))
              go_wp2_with fail
              refine (script_any T M ps pl dr T M ps pl dr _ _ _ _ _ _ _ _ _ _ _ _ _ DF.out SF.out SM.out SM.out).mono ?_
              rintro r w8 ⟨⟨bb, rfl, hbb⟩, b8⟩
              obtain rfl : bb = true := hbb.2 rfl
              have B8 := hide (btr BF.out b8)
              clear b8 hbb
              go_wp2_with fail
              refine (exits_any _).mono ?_
              rintro r w9 ⟨rfl, b9⟩
              have B9 := hide (btr B8.out b9)
              clear b9
              go_wp2_with fail
              go_ret
              exact ⟨rfl, B9.out⟩

/-! ### the row -/
set_option maxRecDepth 100000 in
theorem lifted (os : Os) (started : os.Started) (H : Type) (enc : TypeId × Value → H) :
    ReturnsInHanded {} Try.checked os 7 .any (Rows.sheetCopiesSpec.pre6 enc Try.prog Try.f7 Rows.sheetCopiesRow.domain false) (Rows.sheetCopiesSpec.post enc Try.prog Try.f7 false true false false) := by
  refine returnsInHanded_of_change_sized (C := Try.checked) own started (by kernel_rfl) Try.func7
    (ChangeSpec.witness6 (enc := enc) (C := Try.checked) false ⟨#[], #[.agg #[.int .i64 0, .int .i64 0, .slice none 0 0, .slice none 0 0, .slice none 0 0]], []⟩ 8 (by kernel_rfl) (by kernel_rfl) (by kernel_rfl) (by kernel_rfl)) ?_
  intro W base args ds gs before hval0 hW hcnd hsz0 _
  have hval : ∀ (j : Nat) t v, Try.f7.params[j]? = some t → args[j]? = some v → Value.okWide Try.prog W .any base t v := hval0
  have hW' := hW
  obtain ⟨p, q, hA0, hV, rfl, hfz, hnd⟩ := hW
  have hA : DataW.TrodAll enc Try.prog W 0 (fun _ => true) true Try.f7.params.toList args.toList ds p := hA0
  rw [Try.params7] at hA hval
  have hsz : (DataW.weightsEach Try.prog (Try.f7.params.toList ++ Rows.sheetCopiesSpec.plain.varTypes Try.prog) (ds ++ gs)).all (· ≤ reachBytes) = true := hsz0
  clear hsz0
  rw [Try.params7] at hsz
  obtain ⟨v0, vs0, d0, ds0, p0, q0, hargs, rfl, rfl, h0, r0⟩ := trodAll_cons hA
  obtain ⟨rfl, rfl, rfl⟩ := trodAll_nil r0
  obtain rfl : args = #[v0] := by cases args; simp_all
  obtain ⟨rfl, rfl⟩ := trodVars_none hV
  have k0 := h0
  have lt0 : ∀ x ∈ p0, x.block < W.heap.size := by obtain ⟨m, hm⟩ := k0; exact DataW.trod_lt m _ _ _ hm
  have z0 : WL 38 d0 := fun m hm => by
    have := List.all_eq_true.1 hsz _ (DataW.weights_mem_each (j := 0) (t := 38) (d := d0) rfl rfl m hm)
    simpa using this
  obtain ⟨T0, M0, ps0, pl0, dr0, pa0, la0, da0, pc0, lc0, dc0, rfl, S0, H0⟩ := h0.elim fun _ hf => script_open hf z0
  clear hA0 hval0
  refine (core (w := W) T0 M0 ps0 pl0 dr0 pa0 la0 da0 pc0 lc0 dc0 S0 H0).mono fun e W' ⟨he, bel⟩ => ?_
  subst he
  exact ⟨_, rfl, _, _, _, [], _, [], hW', trodAll_mk1 (shut_bool Try.underlying4 _), (trodAll_cons_mk (Below.trod laidOut (by kernel_rfl) (of_decide_eq_true (by kernel_rfl)) k0 bel lt0) trodAll_mk0), rfl, bel.frame _, fun h => by cases h⟩

theorem over : Rows.sheetCopiesRow.holds Try.pinned (OpenSpec.ofChange Rows.sheetCopiesSpec) :=
  OpenClaim.holds_of_wide 7 Try.f7 rfl rfl rfl rfl rfl rfl rfl ⟨rfl, rfl, rfl, rfl, rfl⟩ rfl rfl rfl rfl rfl (by kernel_rfl) Try.func7 (by kernel_rfl)
    (of_decide_eq_true (by kernel_rfl)) (by unfold Func.isWrapper; first | (rw [if_pos (by decide +kernel)]; kernel_rfl) | (rw [if_neg (by decide +kernel)]; exact ⟨rfl, rfl⟩))
    (fun os started H enc _ => lifted os started H enc)

/-- the statement -/
theorem proved : Rows.SheetCopiesSaid := over
#print axioms proved
end Go.Proofs.Ytgnhophlnbpcgaa.sheetCopies
