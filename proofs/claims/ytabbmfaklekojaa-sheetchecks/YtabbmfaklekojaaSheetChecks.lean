/- For every script, the law SheetChecks returns true, so Check answers whether the script is right, as the document says it, and Encode its bytes: under no condition of ours. -/
import Derived.Test.YtabbmfaklekojaaHv
import Derived.ShutString
import Derived.ChangeOld
import Derived.Below
namespace Go.Proofs.Ytabbmfaklekojaa.sheetChecks
open Go.ChangeShapes Go.WideShapes Go.ChangeAt Go.RowKit
open Go.ChangeMaps (open_string shut_string)
open Sh De Ba Re

theorem own : ownKnob Try.prog.godebug = none := by kernel_rfl
theorem laidOut : laidOutB Try.prog = true := by kernel_rfl

set_option maxHeartbeats 3200000

theorem both (T M : Int) (ps : List (List OpD)) (pl dr : List Int) (pa la da : Option Addr) (pc lc dc : Nat) : ∃ (Y : ByteArray) (c : Int), schk ⟨T, M, ps, pl, dr⟩ = c ∧ (∀ w, SAt w ⟨T, M, ps, pl, dr⟩ pa la da → Calls Try.prog 15 #[.agg #[.int .i64 T, .int .i64 M, .slice pa ps.length pc, .slice la pl.length lc, .slice da dr.length dc]] w fun r w' => r = .returned (.tuple #[.string Y, .int .i64 c]) ∧ Below w.heap.size w w') ∧ (∀ w, SAt w ⟨T, M, ps, pl, dr⟩ pa la da → Calls Try.prog 16 #[.agg #[.int .i64 T, .int .i64 M, .slice pa ps.length pc, .slice la pl.length lc, .slice da dr.length dc]] w fun r w' => r = .returned (.tuple #[.string Y, .int .i64 c]) ∧ Below w.heap.size w w') := by
  by_cases h : schk ⟨T, M, ps, pl, dr⟩ = 0
  · exact ⟨_, 0, h, fun w hS => encode_is T M ps pl dr pa la da pc lc dc w hS h _ rfl, fun w hS => rsencode_ok T M ps pl dr pa la da pc lc dc w hS h _ rfl⟩
  · have h0 : (schk ⟨T, M, ps, pl, dr⟩ != 0) = true := by simpa using h
    exact ⟨bs [], _, rfl, fun w hS => sencode_no T M ps pl dr pa la da pc lc dc w hS _ rfl h0, fun w hS => rsencode_no T M ps pl dr pa la da pc lc dc w hS _ rfl h0⟩

set_option maxRecDepth 100000 in
theorem core {w : World} (T M : Int) (ps : List (List OpD)) (pl dr : List Int) (pa la da : Option Addr) (pc lc dc : Nat) (hS : SAt w ⟨T, M, ps, pl, dr⟩ pa la da) (hH : Held ps) :
    Calls Try.prog 4 #[.agg #[.int .i64 T, .int .i64 M, .slice pa ps.length pc, .slice la pl.length lc, .slice da dr.length dc]] w fun r w' => r = .returned (.bool true) ∧ Below w.heap.size w w' := by
  have S0 := hide (hS.below (below_alloc w (.cells #[.int .i64 T, .int .i64 M, .slice pa ps.length pc, .slice la pl.length lc, .slice da dr.length dc] 38)))
  have B0 := hide (below_alloc w (.cells #[.int .i64 T, .int .i64 M, .slice pa ps.length pc, .slice la pl.length lc, .slice da dr.length dc] 38))
  have X0 := hide (heap_new w (.cells #[.int .i64 T, .int .i64 M, .slice pa ps.length pc, .slice la pl.length lc, .slice da dr.length dc] 38))
  obtain ⟨Y, c, hc, hE, hR⟩ := both T M ps pl dr pa la da pc lc dc
  have HC := hide hc
  have HE := hide hE
  have HR := hide hR
  clear hS hc hE hR
  go_enter Try.func4, Try.ntmps4
  go_wp2_with fail
  generalize w.alloc (.cells #[.int .i64 T, .int .i64 M, .slice pa ps.length pc, .slice la pl.length lc, .slice da dr.length dc] 38) = W at S0 B0 X0 ⊢
  refine (large_any T M ps pl dr _ _ _ _ _ _ _ S0.out hH).mono ?_
  rintro r w1 ⟨⟨g, rfl, -⟩, b1⟩
  have S1 := hide (S0.out.below b1)
  have B1 := hide (btr B0.out b1)
  have X1 := hide (heap_below X0.out b1)
  clear b1 S0 B0 X0
  cases g
  case true =>
    go_wp2_with fail
    refine (exits_any _).mono ?_
    rintro r w2 ⟨rfl, b2⟩
    have B2 := hide (btr B1.out b2)
    clear b2
    go_wp2_with fail
    go_ret
    exact ⟨rfl, B2.out⟩
  obtain ⟨x0, x1, x2, x3, x4⟩ := sc_cells X1.out
  go_wp2_with fail
  refine (HE.out _ S1.out).mono ?_
  rintro r w2 ⟨rfl, b2⟩
  have S2 := hide (S1.out.below b2)
  have B2 := hide (btr B1.out b2)
  have X2 := hide (heap_below X1.out b2)
  clear b2 S1 B1 X1 x0 x1 x2 x3 x4
  obtain ⟨x0, x1, x2, x3, x4⟩ := sc_cells X2.out
  go_wp2_with fail
  refine (HR.out _ S2.out).mono ?_
  rintro r w3 ⟨rfl, b3⟩
  have S3 := hide (S2.out.below b3)
  have B3 := hide (btr B2.out b3)
  have X3 := hide (heap_below X2.out b3)
  clear b3 S2 B2 X2 x0 x1 x2 x3 x4
  obtain ⟨x0, x1, x2, x3, x4⟩ := sc_cells X3.out
  go_wp2_with fail
  go_region_held3 (fun w' => w'.cell? ⟨w.heap.size, 0, none⟩ = some (.int .i64 T) ∧ w'.cell? ⟨w.heap.size, 1, none⟩ = some (.int .i64 M) ∧ w'.cell? ⟨w.heap.size, 2, none⟩ = some (.slice pa ps.length pc) ∧ w'.cell? ⟨w.heap.size, 3, none⟩ = some (.slice la pl.length lc) ∧ w'.cell? ⟨w.heap.size, 4, none⟩ = some (.slice da dr.length dc))
    (first
      | go_keep
      | (go_split_ands
         first
           | (refine ⟨?_, ?_, ?_, ?_, ?_⟩ <;> (refine cellB ?_ c3; assumption))
           | (refine ⟨?_, ?_, ?_, ?_, ?_⟩ <;> (refine cellB ?_ c2; assumption))
           | (refine ⟨?_, ?_, ?_, ?_, ?_⟩ <;> (refine cellB ?_ c1; assumption))))
    (first
      | (go_at_call 17; refine (scheck_any T M ps pl dr _ _ _ _ _ _ _ (S3.out.below (bdrew1 _))).mono ?_; rw [HC.out]; rintro r u1 ⟨rfl, c1⟩)
      | (go_at_call 18; refine (rscheck_any T M ps pl dr _ _ _ _ _ _ _ ((S3.out.below (bdrew1 _)).below c1)).mono ?_; rw [HC.out]; rintro r u2 ⟨rfl, c2⟩)
      | (go_at_call 14; refine (exits_any _).mono ?_; rintro r u3 ⟨rfl, c3⟩))
  have B6 := hide (btr B3.out (btr (bdrew1 w3) (btr (btr c1 c2) c3)))
  clear c1 c2 c3
  go_wp2_with fail
  go_ret
  exact ⟨rfl, B6.out⟩

/-! ### the row -/
set_option maxRecDepth 100000 in
theorem lifted (os : Os) (started : os.Started) (H : Type) (enc : TypeId × Value → H) :
    ReturnsInHanded {} Try.checked os 4 .any (Rows.sheetChecksSpec.pre6 enc Try.prog Try.f4 Rows.sheetChecksRow.domain false) (Rows.sheetChecksSpec.post enc Try.prog Try.f4 false true false false) := by
  refine returnsInHanded_of_change_sized (C := Try.checked) own started (by kernel_rfl) Try.func4
    (ChangeSpec.witness6 (enc := enc) (C := Try.checked) false ⟨#[], #[.agg #[.int .i64 0, .int .i64 0, .slice none 0 0, .slice none 0 0, .slice none 0 0]], []⟩ 8 (by kernel_rfl) (by kernel_rfl) (by kernel_rfl) (by kernel_rfl)) ?_
  intro W base args ds gs before hval0 hW hcnd hsz0 _
  have hval : ∀ (j : Nat) t v, Try.f4.params[j]? = some t → args[j]? = some v → Value.okWide Try.prog W .any base t v := hval0
  have hW' := hW
  obtain ⟨p, q, hA0, hV, rfl, hfz, hnd⟩ := hW
  have hA : DataW.TrodAll enc Try.prog W 0 (fun _ => true) true Try.f4.params.toList args.toList ds p := hA0
  rw [Try.params4] at hA hval
  have hsz : (DataW.weightsEach Try.prog (Try.f4.params.toList ++ Rows.sheetChecksSpec.plain.varTypes Try.prog) (ds ++ gs)).all (· ≤ reachBytes) = true := hsz0
  clear hsz0
  rw [Try.params4] at hsz
  obtain ⟨v0, vs0, d0, ds0, p0, q0, hargs, rfl, rfl, h0, r0⟩ := trodAll_cons hA
  obtain ⟨rfl, rfl, rfl⟩ := trodAll_nil r0
  obtain rfl : args = #[v0] := by cases args; simp_all
  obtain ⟨rfl, rfl⟩ := trodVars_none hV
  have k0 := h0
  have lt0 : ∀ x ∈ p0, x.block < W.heap.size := by obtain ⟨m, hm⟩ := k0; exact DataW.trod_lt m _ _ _ hm
  have z0 : WL 38 d0 := fun m hm => by
    have := List.all_eq_true.1 hsz _ (DataW.weights_mem_each (j := 0) (t := 38) (d := d0) rfl rfl m hm)
    simpa using this
  obtain ⟨T0, M0, ps0, pl0, dr0, pa0, la0, da0, pc0, lc0, dc0, rfl, S0, H0⟩ := h0.elim fun _ hf => script_open hf z0
  clear hA0 hval0
  refine (core (w := W) T0 M0 ps0 pl0 dr0 pa0 la0 da0 pc0 lc0 dc0 S0 H0).mono fun e W' ⟨he, bel⟩ => ?_
  subst he
  exact ⟨_, rfl, _, _, _, [], _, [], hW', trodAll_mk1 (shut_bool Try.underlying4 _), (trodAll_cons_mk (Below.trod laidOut (by kernel_rfl) (of_decide_eq_true (by kernel_rfl)) k0 bel lt0) trodAll_mk0), rfl, bel.frame _, fun h => by cases h⟩

theorem over : Rows.sheetChecksRow.holds Try.pinned (OpenSpec.ofChange Rows.sheetChecksSpec) :=
  OpenClaim.holds_of_wide 4 Try.f4 rfl rfl rfl rfl rfl rfl rfl ⟨rfl, rfl, rfl, rfl, rfl⟩ rfl rfl rfl rfl rfl (by kernel_rfl) Try.func4 (by kernel_rfl)
    (of_decide_eq_true (by kernel_rfl)) (by unfold Func.isWrapper; first | (rw [if_pos (by decide +kernel)]; kernel_rfl) | (rw [if_neg (by decide +kernel)]; exact ⟨rfl, rfl⟩))
    (fun os started H enc _ => lifted os started H enc)

/-- the statement -/
theorem proved : Rows.SheetChecksSaid := over
#print axioms proved
end Go.Proofs.Ytabbmfaklekojaa.sheetChecks
