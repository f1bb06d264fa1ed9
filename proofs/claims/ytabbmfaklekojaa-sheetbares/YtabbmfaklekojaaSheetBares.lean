/- For every script, the law SheetBares returns true, so a right script's bare one is right, has no Compact entries, and is its own bare one: under no condition of ours. -/
import Derived.Test.YtabbmfaklekojaaHs
import Derived.ShutString
import Derived.ChangeOld
import Derived.Below
namespace Go.Proofs.Ytabbmfaklekojaa.sheetBares
open Go.ChangeShapes Go.WideShapes Go.ChangeAt Go.RowKit
open Go.ChangeMaps (open_string shut_string)
open Sh De Ba Re

theorem own : ownKnob Try.prog.godebug = none := by kernel_rfl
theorem laidOut : laidOutB Try.prog = true := by kernel_rfl

set_option maxHeartbeats 3200000

set_option maxRecDepth 100000 in
theorem core {w : World} (T M : Int) (ps : List (List OpD)) (pl dr : List Int) (pa la da : Option Addr) (pc lc dc : Nat) (hS : SAt w ⟨T, M, ps, pl, dr⟩ pa la da) (hH : Held ps) :
    Calls Try.prog 8 #[.agg #[.int .i64 T, .int .i64 M, .slice pa ps.length pc, .slice la pl.length lc, .slice da dr.length dc]] w fun r w' => r = .returned (.bool true) ∧ Below w.heap.size w w' := by
  have S0 := hide (hS.below (below_alloc w (.cells #[.int .i64 T, .int .i64 M, .slice pa ps.length pc, .slice la pl.length lc, .slice da dr.length dc] 38)))
  have B0 := hide (below_alloc w (.cells #[.int .i64 T, .int .i64 M, .slice pa ps.length pc, .slice la pl.length lc, .slice da dr.length dc] 38))
  have X0 := hide (heap_new w (.cells #[.int .i64 T, .int .i64 M, .slice pa ps.length pc, .slice la pl.length lc, .slice da dr.length dc] 38))
  clear hS
  go_enter Try.func8, Try.ntmps8
  go_wp2_with fail
  generalize w.alloc (.cells #[.int .i64 T, .int .i64 M, .slice pa ps.length pc, .slice la pl.length lc, .slice da dr.length dc] 38) = W at S0 B0 X0 ⊢
  refine (large_any T M ps pl dr _ _ _ _ _ _ _ S0.out hH).mono ?_
  rintro r w1 ⟨⟨b, rfl, hb⟩, b1⟩
  have S1 := hide (S0.out.below b1)
  have B1 := hide (btr B0.out b1)
  have X1 := hide (heap_below X0.out b1)
  clear b1 S0 B0 X0
  cases b
  case true =>
    go_wp2_with fail
    refine (exits_any _).mono ?_
    rintro r w2 ⟨rfl, b2⟩
    have B2 := hide (btr B1.out b2)
    clear b2
    go_wp2_with fail
    go_ret
    exact ⟨rfl, B2.out⟩
  have SM := hide (hb rfl)
  clear hb
  have SX := hide SM.out.bar
  have HC := hide (fun h => schk_bar (T := T) (M := M) (ps := ps) (pl := pl) (dr := dr) h)
  have HN := hide (bar_nth pl)
  have HB := hide (bar_bar pl)
  obtain ⟨X, hX⟩ : ∃ X, bar pl = X := ⟨_, rfl⟩
  have HX := hide hX
  rw [hX] at SX HC HN HB
  clear hX
  obtain ⟨x0, x1, x2, x3, x4⟩ := sc_cells X1.out
  go_wp2_with fail
  refine (bare_s T M ps pl dr _ _ _ _ _ _ _ S1.out SM.out X HX.out).mono ?_
  rintro r w2 ⟨⟨G, L, D, pc2, lc2, dc2, rfl, hA⟩, b2⟩
  have S2 := hide ((S1.out.below b2).below (below_alloc w2 (.cells #[.int .i64 T, .int .i64 M, .slice (some ⟨G, 0, none⟩) ps.length pc2, .slice (some ⟨L, 0, none⟩) X.length lc2, .slice (some ⟨D, 0, none⟩) dr.length dc2] 38)))
  have B2 := hide (btr (btr B1.out b2) (below_alloc w2 (.cells #[.int .i64 T, .int .i64 M, .slice (some ⟨G, 0, none⟩) ps.length pc2, .slice (some ⟨L, 0, none⟩) X.length lc2, .slice (some ⟨D, 0, none⟩) dr.length dc2] 38)))
  have X2 := hide (heap_below (heap_below X1.out b2) (below_alloc w2 (.cells #[.int .i64 T, .int .i64 M, .slice (some ⟨G, 0, none⟩) ps.length pc2, .slice (some ⟨L, 0, none⟩) X.length lc2, .slice (some ⟨D, 0, none⟩) dr.length dc2] 38)))
  have Y2 := hide (heap_new w2 (.cells #[.int .i64 T, .int .i64 M, .slice (some ⟨G, 0, none⟩) ps.length pc2, .slice (some ⟨L, 0, none⟩) X.length lc2, .slice (some ⟨D, 0, none⟩) dr.length dc2] 38))
  have A2 := hide (hA.below (below_alloc w2 (.cells #[.int .i64 T, .int .i64 M, .slice (some ⟨G, 0, none⟩) ps.length pc2, .slice (some ⟨L, 0, none⟩) X.length lc2, .slice (some ⟨D, 0, none⟩) dr.length dc2] 38)))
  clear b2 hA S1 B1 X1 x0 x1 x2 x3 x4
  obtain ⟨y0, y1, y2, y3, y4⟩ := sc_cells Y2.out
  go_wp2_with fail
  generalize w2.alloc (.cells #[.int .i64 T, .int .i64 M, .slice (some ⟨G, 0, none⟩) ps.length pc2, .slice (some ⟨L, 0, none⟩) X.length lc2, .slice (some ⟨D, 0, none⟩) dr.length dc2] 38) = W2 at S2 B2 X2 Y2 A2 y0 y1 y2 y3 y4 ⊢
  refine (bare_s T M ps X dr _ _ _ _ _ _ _ A2.out SX.out X HB.out).mono ?_
  rintro r w3 ⟨⟨G3, L3, D3, pc3, lc3, dc3, rfl, hC⟩, b3⟩
  have S3 := hide ((S2.out.below b3).below (below_alloc w3 (.cells #[.int .i64 T, .int .i64 M, .slice (some ⟨G3, 0, none⟩) ps.length pc3, .slice (some ⟨L3, 0, none⟩) X.length lc3, .slice (some ⟨D3, 0, none⟩) dr.length dc3] 38)))
  have B3 := hide (btr (btr B2.out b3) (below_alloc w3 (.cells #[.int .i64 T, .int .i64 M, .slice (some ⟨G3, 0, none⟩) ps.length pc3, .slice (some ⟨L3, 0, none⟩) X.length lc3, .slice (some ⟨D3, 0, none⟩) dr.length dc3] 38)))
  have X3 := hide (heap_below (heap_below X2.out b3) (below_alloc w3 (.cells #[.int .i64 T, .int .i64 M, .slice (some ⟨G3, 0, none⟩) ps.length pc3, .slice (some ⟨L3, 0, none⟩) X.length lc3, .slice (some ⟨D3, 0, none⟩) dr.length dc3] 38)))
  have Y3 := hide (heap_below (heap_below Y2.out b3) (below_alloc w3 (.cells #[.int .i64 T, .int .i64 M, .slice (some ⟨G3, 0, none⟩) ps.length pc3, .slice (some ⟨L3, 0, none⟩) X.length lc3, .slice (some ⟨D3, 0, none⟩) dr.length dc3] 38)))
  have Z3 := hide (heap_new w3 (.cells #[.int .i64 T, .int .i64 M, .slice (some ⟨G3, 0, none⟩) ps.length pc3, .slice (some ⟨L3, 0, none⟩) X.length lc3, .slice (some ⟨D3, 0, none⟩) dr.length dc3] 38))
  have A3 := hide ((A2.out.below b3).below (below_alloc w3 (.cells #[.int .i64 T, .int .i64 M, .slice (some ⟨G3, 0, none⟩) ps.length pc3, .slice (some ⟨L3, 0, none⟩) X.length lc3, .slice (some ⟨D3, 0, none⟩) dr.length dc3] 38)))
  have C3 := hide (hC.below (below_alloc w3 (.cells #[.int .i64 T, .int .i64 M, .slice (some ⟨G3, 0, none⟩) ps.length pc3, .slice (some ⟨L3, 0, none⟩) X.length lc3, .slice (some ⟨D3, 0, none⟩) dr.length dc3] 38)))
  clear b3 hC S2 B2 X2 Y2 A2 y0 y1 y2 y3 y4
  obtain ⟨x0, x1, x2, x3, x4⟩ := sc_cells X3.out
  go_wp2_with fail
  generalize w3.alloc (.cells #[.int .i64 T, .int .i64 M, .slice (some ⟨G3, 0, none⟩) ps.length pc3, .slice (some ⟨L3, 0, none⟩) X.length lc3, .slice (some ⟨D3, 0, none⟩) dr.length dc3] 38) = W3 at S3 B3 X3 Y3 Z3 A3 C3 x0 x1 x2 x3 x4 ⊢
  refine (scheck_any T M ps pl dr _ _ _ _ _ _ _ S3.out).mono ?_
  obtain ⟨c, hc⟩ : ∃ c, schk ⟨T, M, ps, pl, dr⟩ = c := ⟨_, rfl⟩
  rw [hc]
  have EC := hide hc
  clear hc
  rintro r w4 ⟨rfl, b4⟩
  have B4 := hide (btr B3.out b4)
  have Y4 := hide (heap_below Y3.out b4)
  have Z4 := hide (heap_below Z3.out b4)
  have A4 := hide (A3.out.below b4)
  have C4 := hide (C3.out.below b4)
  clear b4 S3 B3 X3 Y3 Z3 A3 C3 x0 x1 x2 x3 x4
  obtain ⟨y0, y1, y2, y3, y4⟩ := sc_cells Y4.out
  have hl := SX.out.p
  by_cases h0 : c = 0
  · subst h0
    have hc0 := HC.out EC.out
    have EX := hide hc0
    clear hc0
    go_wp2_with fail
    refine (scheck_any T M ps X dr _ _ _ _ _ _ _ A4.out).mono ?_
    rw [EX.out]
    rintro r w5 ⟨rfl, b5⟩
    have B5 := hide (btr B4.out b5)
    have Y5 := hide (heap_below Y4.out b5)
    have Z5 := hide (heap_below Z4.out b5)
    have A5 := hide (A4.out.below b5)
    have C5 := hide (C4.out.below b5)
    clear b5 B4 Y4 Z4 A4 C4 y0 y1 y2 y3 y4
    obtain ⟨y0, y1, y2, y3, y4⟩ := sc_cells Y5.out
    go_wp2_with fail
    go_loop [27] (fun i => ∃ k : Nat, k ≤ X.length ∧ i = .int .i64 k) (fun i => X.length - (intOf i).toNat)
    case atStart => exact ⟨0, Nat.zero_le _, rfl⟩
    case round =>
      obtain ⟨k, hk, rfl⟩ := hrel
      by_cases hlt : k < X.length
      · have hlt' : (k : Int) < (X.length : Int) := by omega
        obtain ⟨b1, o1, e, hc1⟩ := A5.out.pl k hlt
        cases e
        have hne := HN.out k hlt
        obtain ⟨x, hx⟩ : ∃ x, nth X k = x := ⟨_, rfl⟩
        rw [hx] at hne
        rw [hx, Nat.zero_add] at hc1
        clear hx
        have hne' : (x == -1) = false := by simpa using hne
        have hne2 : decide (x = -1) = false := by simpa using hne
        go_wp2_with fail
        go_round
        case rel => exact ⟨k + 1, by omega, by go_num⟩
        case measure => simp [intOf]; omega
      · have hlt' : ¬ ((k : Int) < (X.length : Int)) := by omega
        obtain ⟨z0, z1, z2, z3, z4⟩ := sc_cells Z5.out
        go_wp2_with fail
        refine (script_any T M ps X dr T M ps X dr _ _ _ _ _ _ _ _ _ _ _ _ _ A5.out C5.out SX.out SX.out).mono ?_
        rintro r w6 ⟨⟨b, rfl, hb⟩, b6⟩
        obtain rfl : b = true := hb.2 rfl
        have B6 := hide (btr B5.out b6)
        clear b6 hb
        go_wp2_with fail
        refine (exits_any _).mono ?_
        rintro r w7 ⟨rfl, b7⟩
        have B7 := hide (btr B6.out b7)
        clear b7
        go_wp2_with fail
        go_ret
        exact ⟨rfl, B7.out⟩
  · have h0' : (c == 0) = false := by simpa using h0
    go_wp2_with fail
    go_loop [27] (fun i => ∃ k : Nat, k ≤ X.length ∧ i = .int .i64 k) (fun i => X.length - (intOf i).toNat)
    case atStart => exact ⟨0, Nat.zero_le _, rfl⟩
    case round =>
      obtain ⟨k, hk, rfl⟩ := hrel
      by_cases hlt : k < X.length
      · have hlt' : (k : Int) < (X.length : Int) := by omega
        obtain ⟨b1, o1, e, hc1⟩ := A4.out.pl k hlt
        cases e
        have hne := HN.out k hlt
        obtain ⟨x, hx⟩ : ∃ x, nth X k = x := ⟨_, rfl⟩
        rw [hx] at hne
        rw [hx, Nat.zero_add] at hc1
        clear hx
        have hne' : (x == -1) = false := by simpa using hne
        have hne2 : decide (x = -1) = false := by simpa using hne
        go_wp2_with fail
        go_round
        case rel => exact ⟨k + 1, by omega, by go_num⟩
        case measure => simp [intOf]; omega
      · have hlt' : ¬ ((k : Int) < (X.length : Int)) := by omega
        obtain ⟨z0, z1, z2, z3, z4⟩ := sc_cells Z4.out
        go_wp2_with fail
        refine (script_any T M ps X dr T M ps X dr _ _ _ _ _ _ _ _ _ _ _ _ _ A4.out C4.out SX.out SX.out).mono ?_
        rintro r w6 ⟨⟨b, rfl, hb⟩, b6⟩
        obtain rfl : b = true := hb.2 rfl
        have B6 := hide (btr B4.out b6)
        clear b6 hb
        go_wp2_with fail
        refine (exits_any _).mono ?_
        rintro r w7 ⟨rfl, b7⟩
        have B7 := hide (btr B6.out b7)
        clear b7
        go_wp2_with fail
        go_ret
        exact ⟨rfl, B7.out⟩

/-! ### the row -/
set_option maxRecDepth 100000 in
theorem lifted (os : Os) (started : os.Started) (H : Type) (enc : TypeId × Value → H) :
    ReturnsInHanded {} Try.checked os 8 .any (Rows.sheetBaresSpec.pre6 enc Try.prog Try.f8 Rows.sheetBaresRow.domain false) (Rows.sheetBaresSpec.post enc Try.prog Try.f8 false true false false) := by
  refine returnsInHanded_of_change_sized (C := Try.checked) own started (by kernel_rfl) Try.func8
    (ChangeSpec.witness6 (enc := enc) (C := Try.checked) false ⟨#[], #[.agg #[.int .i64 0, .int .i64 0, .slice none 0 0, .slice none 0 0, .slice none 0 0]], []⟩ 8 (by kernel_rfl) (by kernel_rfl) (by kernel_rfl) (by kernel_rfl)) ?_
  intro W base args ds gs before hval0 hW hcnd hsz0 _
  have hval : ∀ (j : Nat) t v, Try.f8.params[j]? = some t → args[j]? = some v → Value.okWide Try.prog W .any base t v := hval0
  have hW' := hW
  obtain ⟨p, q, hA0, hV, rfl, hfz, hnd⟩ := hW
  have hA : DataW.TrodAll enc Try.prog W 0 (fun _ => true) true Try.f8.params.toList args.toList ds p := hA0
  rw [Try.params8] at hA hval
  have hsz : (DataW.weightsEach Try.prog (Try.f8.params.toList ++ Rows.sheetBaresSpec.plain.varTypes Try.prog) (ds ++ gs)).all (· ≤ reachBytes) = true := hsz0
  clear hsz0
  rw [Try.params8] at hsz
  obtain ⟨v0, vs0, d0, ds0, p0, q0, hargs, rfl, rfl, h0, r0⟩ := trodAll_cons hA
  obtain ⟨rfl, rfl, rfl⟩ := trodAll_nil r0
  obtain rfl : args = #[v0] := by cases args; simp_all
  obtain ⟨rfl, rfl⟩ := trodVars_none hV
  have k0 := h0
  have lt0 : ∀ x ∈ p0, x.block < W.heap.size := by obtain ⟨m, hm⟩ := k0; exact DataW.trod_lt m _ _ _ hm
  have z0 : WL 38 d0 := fun m hm => by
    have := List.all_eq_true.1 hsz _ (DataW.weights_mem_each (j := 0) (t := 38) (d := d0) rfl rfl m hm)
    simpa using this
  obtain ⟨T0, M0, ps0, pl0, dr0, pa0, la0, da0, pc0, lc0, dc0, rfl, S0, H0⟩ := h0.elim fun _ hf => script_open hf z0
  clear hA0 hval0
  refine (core (w := W) T0 M0 ps0 pl0 dr0 pa0 la0 da0 pc0 lc0 dc0 S0 H0).mono fun e W' ⟨he, bel⟩ => ?_
  subst he
  exact ⟨_, rfl, _, _, _, [], _, [], hW', trodAll_mk1 (shut_bool Try.underlying4 _), (trodAll_cons_mk (Below.trod laidOut (by kernel_rfl) (of_decide_eq_true (by kernel_rfl)) k0 bel lt0) trodAll_mk0), rfl, bel.frame _, fun h => by cases h⟩

theorem over : Rows.sheetBaresRow.holds Try.pinned (OpenSpec.ofChange Rows.sheetBaresSpec) :=
  OpenClaim.holds_of_wide 8 Try.f8 rfl rfl rfl rfl rfl rfl rfl ⟨rfl, rfl, rfl, rfl, rfl⟩ rfl rfl rfl rfl rfl (by kernel_rfl) Try.func8 (by kernel_rfl)
    (of_decide_eq_true (by kernel_rfl)) (by unfold Func.isWrapper; first | (rw [if_pos (by decide +kernel)]; kernel_rfl) | (rw [if_neg (by decide +kernel)]; exact ⟨rfl, rfl⟩))
    (fun os started H enc _ => lifted os started H enc)

/-- the statement -/
theorem proved : Rows.SheetBaresSaid := over
#print axioms proved
end Go.Proofs.Ytabbmfaklekojaa.sheetBares
