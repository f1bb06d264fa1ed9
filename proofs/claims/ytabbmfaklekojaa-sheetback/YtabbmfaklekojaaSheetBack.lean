/- For every script and all bytes, the law SheetBack returns true, so what was encoded is decoded, and what is decoded was encoded so: under no condition of ours. -/
import Derived.Test.YtabbmfaklekojaaHt
import Derived.ShutString
import Derived.ChangeOld
import Derived.Below
namespace Go.Proofs.Ytabbmfaklekojaa.sheetBack
open Go.ChangeShapes Go.WideShapes Go.ChangeAt Go.RowKit
open Go.ChangeMaps (open_string shut_string)
open Sh De Ba Re

theorem own : ownKnob Try.prog.godebug = none := by kernel_rfl
theorem laidOut : laidOutB Try.prog = true := by kernel_rfl

set_option maxHeartbeats 3200000

set_option maxRecDepth 100000 in
theorem core {w : World} (T M : Int) (ps : List (List OpD)) (pl dr : List Int) (pa la da : Option Addr) (pc lc dc : Nat) (hS : SAt w ⟨T, M, ps, pl, dr⟩ pa la da) (hH : Held ps) (b : ByteArray) (hb : b.size ≤ maxLen) :
    Calls Try.prog 6 #[.agg #[.int .i64 T, .int .i64 M, .slice pa ps.length pc, .slice la pl.length lc, .slice da dr.length dc], .string b] w fun r w' => r = .returned (.bool true) ∧ Below w.heap.size w w' := by
  have S0 := hide (hS.below (below_alloc w (.cells #[.int .i64 T, .int .i64 M, .slice pa ps.length pc, .slice la pl.length lc, .slice da dr.length dc] 38)))
  have B0 := hide (below_alloc w (.cells #[.int .i64 T, .int .i64 M, .slice pa ps.length pc, .slice la pl.length lc, .slice da dr.length dc] 38))
  have X0 := hide (heap_new w (.cells #[.int .i64 T, .int .i64 M, .slice pa ps.length pc, .slice la pl.length lc, .slice da dr.length dc] 38))
  unfold maxLen at hb
  clear hS
  go_enter Try.func6, Try.ntmps6
  go_wp2_with fail
  generalize w.alloc (.cells #[.int .i64 T, .int .i64 M, .slice pa ps.length pc, .slice la pl.length lc, .slice da dr.length dc] 38) = W at S0 B0 X0 ⊢
  refine (large_any T M ps pl dr _ _ _ _ _ _ _ S0.out hH).mono ?_
  rintro r w1 ⟨⟨g, rfl, hg⟩, b1⟩
  have S1 := hide (S0.out.below b1)
  have B1 := hide (btr B0.out b1)
  have X1 := hide (heap_below X0.out b1)
  clear b1 S0 B0 X0
  cases g
  case true =>
    go_wp2_with fail
    refine (exits_any _).mono ?_
    rintro r w2 ⟨rfl, b2⟩
    have B2 := hide (btr B1.out b2)
    clear b2
    go_wp2_with fail
    go_ret
    exact ⟨rfl, B2.out⟩
  have SM := hide (hg rfl)
  clear hg
  obtain ⟨x0, x1, x2, x3, x4⟩ := sc_cells X1.out
  by_cases hl : 5000 < b.size
  · have hl' : decide ((5000 : Int) < (b.size : Int)) = true := by simp; omega
    go_wp2_with fail
    refine (exits_any _).mono ?_
    rintro r w2 ⟨rfl, b2⟩
    have B2 := hide (btr B1.out b2)
    clear b2
    go_wp2_with fail
    go_ret
    exact ⟨rfl, B2.out⟩
  have hl' : decide ((5000 : Int) < (b.size : Int)) = false := by simp; omega
  by_cases h0 : schk ⟨T, M, ps, pl, dr⟩ = 0
  · obtain ⟨E, hE⟩ : ∃ E, bs (sen ⟨T, M, ps, pl, dr⟩) = E := ⟨_, rfl⟩
    have K0 := hide h0
    have KE := hide hE
    have KB := hide (sen_back h0 E hE)
    clear hE h0
    go_wp2_with fail
    refine (encode_is T M ps pl dr _ _ _ _ _ _ _ S1.out K0.out E KE.out).mono ?_
    rintro r w2 ⟨rfl, b2⟩
    have S2 := hide (S1.out.below b2)
    have B2 := hide (btr B1.out b2)
    have X2 := hide (heap_below X1.out b2)
    clear b2 S1 B1 X1 x0 x1 x2 x3 x4
    go_wp2_with fail
    refine (decode_is E T M ps pl dr KB.out.1 _ KB.out.2).mono ?_
    rintro r w3 ⟨⟨pa3, la3, da3, pc3, lc3, dc3, rfl, hA⟩, b3⟩
    have S3 := hide ((S2.out.below b3).below (below_alloc w3 (.cells #[.int .i64 T, .int .i64 M, .slice pa3 ps.length pc3, .slice la3 pl.length lc3, .slice da3 dr.length dc3] 38)))
    have B3 := hide (btr (btr B2.out b3) (below_alloc w3 (.cells #[.int .i64 T, .int .i64 M, .slice pa3 ps.length pc3, .slice la3 pl.length lc3, .slice da3 dr.length dc3] 38)))
    have X3 := hide (heap_below (heap_below X2.out b3) (below_alloc w3 (.cells #[.int .i64 T, .int .i64 M, .slice pa3 ps.length pc3, .slice la3 pl.length lc3, .slice da3 dr.length dc3] 38)))
    have A3 := hide (hA.below (below_alloc w3 (.cells #[.int .i64 T, .int .i64 M, .slice pa3 ps.length pc3, .slice la3 pl.length lc3, .slice da3 dr.length dc3] 38)))
    clear b3 hA S2 B2 X2
    obtain ⟨x0, x1, x2, x3, x4⟩ := sc_cells X3.out
    go_wp2_with fail
    refine (script_any T M ps pl dr T M ps pl dr _ _ _ _ _ _ _ _ _ _ _ _ _ A3.out S3.out SM.out SM.out).mono ?_
    rintro r w4 ⟨⟨y, rfl, hy⟩, b4⟩
    obtain rfl : y = true := hy.2 rfl
    have B4 := hide (btr B3.out b4)
    clear b4 hy S3 B3 X3 A3 x0 x1 x2 x3 x4
    cases hd : sdec b
    case none =>
      have HD := hide hd
      clear hd
      go_wp2_with fail
      refine (decode_no b HD.out _ (by omega)).mono ?_
      rintro r w5 ⟨rfl, b5⟩
      have B5 := hide (btr (btr B4.out b5) (below_alloc w5 (.cells #[.int .i64 0, .int .i64 0, .slice none 0 0, .slice none 0 0, .slice none 0 0] 38)))
      clear b5
      go_wp2_with fail
      refine (exits_any _).mono ?_
      rintro r w6 ⟨rfl, b6⟩
      have B6 := hide (btr B5.out b6)
      clear b6
      go_wp2_with fail
      go_ret
      exact ⟨rfl, B6.out⟩
    case some x =>
      obtain ⟨T2, M2, ps2, pl2, dr2⟩ := x
      have HD := hide hd
      have HE := hide (sdec_bytes hd)
      clear hd
      go_wp2_with fail
      refine (decode_is b T2 M2 ps2 pl2 dr2 HD.out _ (by omega)).mono ?_
      rintro r w5 ⟨⟨pa2, la2, da2, pc2, lc2, dc2, rfl, hA⟩, b5⟩
      have B5 := hide (btr (btr B4.out b5) (below_alloc w5 (.cells #[.int .i64 T2, .int .i64 M2, .slice pa2 ps2.length pc2, .slice la2 pl2.length lc2, .slice da2 dr2.length dc2] 38)))
      have A5 := hide (hA.below (below_alloc w5 (.cells #[.int .i64 T2, .int .i64 M2, .slice pa2 ps2.length pc2, .slice la2 pl2.length lc2, .slice da2 dr2.length dc2] 38)))
      clear b5 hA
      go_wp2_with fail
      refine (encode_is T2 M2 ps2 pl2 dr2 _ _ _ _ _ _ _ A5.out HE.out.2 b HE.out.1).mono ?_
      rintro r w6 ⟨rfl, b6⟩
      have B6 := hide (btr B5.out b6)
      clear b6
      go_wp2_with fail
      refine (exits_any _).mono ?_
      rintro r w7 ⟨rfl, b7⟩
      have B7 := hide (btr B6.out b7)
      clear b7
      go_wp2_with fail
      go_ret
      exact ⟨rfl, B7.out⟩
  · obtain ⟨c, hc⟩ : ∃ c, schk ⟨T, M, ps, pl, dr⟩ = c := ⟨_, rfl⟩
    have h1 : (c != 0) = true := by rw [← hc]; simpa using h0
    have h2 : (c == 0) = false := by rw [← hc]; simpa using h0
    have H1 := hide h1
    have KC := hide hc
    clear hc h0
    go_wp2_with fail
    refine (sencode_no T M ps pl dr _ _ _ _ _ _ _ S1.out c KC.out H1.out).mono ?_
    rintro r w4 ⟨rfl, b4⟩
    have B4 := hide (btr B1.out b4)
    clear b4 S1 B1 X1 x0 x1 x2 x3 x4
    cases hd : sdec b
    case none =>
      have HD := hide hd
      clear hd
      go_wp2_with fail
      refine (decode_no b HD.out _ (by omega)).mono ?_
      rintro r w5 ⟨rfl, b5⟩
      have B5 := hide (btr (btr B4.out b5) (below_alloc w5 (.cells #[.int .i64 0, .int .i64 0, .slice none 0 0, .slice none 0 0, .slice none 0 0] 38)))
      clear b5
      go_wp2_with fail
      refine (exits_any _).mono ?_
      rintro r w6 ⟨rfl, b6⟩
      have B6 := hide (btr B5.out b6)
      clear b6
      go_wp2_with fail
      go_ret
      exact ⟨rfl, B6.out⟩
    case some x =>
      obtain ⟨T2, M2, ps2, pl2, dr2⟩ := x
      have HD := hide hd
      have HE := hide (sdec_bytes hd)
      clear hd
      go_wp2_with fail
      refine (decode_is b T2 M2 ps2 pl2 dr2 HD.out _ (by omega)).mono ?_
      rintro r w5 ⟨⟨pa2, la2, da2, pc2, lc2, dc2, rfl, hA⟩, b5⟩
      have B5 := hide (btr (btr B4.out b5) (below_alloc w5 (.cells #[.int .i64 T2, .int .i64 M2, .slice pa2 ps2.length pc2, .slice la2 pl2.length lc2, .slice da2 dr2.length dc2] 38)))
      have A5 := hide (hA.below (below_alloc w5 (.cells #[.int .i64 T2, .int .i64 M2, .slice pa2 ps2.length pc2, .slice la2 pl2.length lc2, .slice da2 dr2.length dc2] 38)))
      clear b5 hA
      go_wp2_with fail
      refine (encode_is T2 M2 ps2 pl2 dr2 _ _ _ _ _ _ _ A5.out HE.out.2 b HE.out.1).mono ?_
      rintro r w6 ⟨rfl, b6⟩
      have B6 := hide (btr B5.out b6)
      clear b6
      go_wp2_with fail
      refine (exits_any _).mono ?_
      rintro r w7 ⟨rfl, b7⟩
      have B7 := hide (btr B6.out b7)
      clear b7
      go_wp2_with fail
      go_ret
      exact ⟨rfl, B7.out⟩

/-! ### the row -/
set_option maxRecDepth 100000 in
theorem lifted (os : Os) (started : os.Started) (H : Type) (enc : TypeId × Value → H) :
    ReturnsInHanded {} Try.checked os 6 .any (Rows.sheetBackSpec.pre6 enc Try.prog Try.f6 Rows.sheetBackRow.domain false) (Rows.sheetBackSpec.post enc Try.prog Try.f6 false true false false) := by
  refine returnsInHanded_of_change_sized (C := Try.checked) own started (by kernel_rfl) Try.func6
    (ChangeSpec.witness6 (enc := enc) (C := Try.checked) false ⟨#[], #[.agg #[.int .i64 0, .int .i64 0, .slice none 0 0, .slice none 0 0, .slice none 0 0], .string ByteArray.empty], []⟩ 8 (by kernel_rfl) (by kernel_rfl) (by kernel_rfl) (by kernel_rfl)) ?_
  intro W base args ds gs before hval0 hW hcnd hsz0 _
  have hval : ∀ (j : Nat) t v, Try.f6.params[j]? = some t → args[j]? = some v → Value.okWide Try.prog W .any base t v := hval0
  have hW' := hW
  obtain ⟨p, q, hA0, hV, rfl, hfz, hnd⟩ := hW
  have hA : DataW.TrodAll enc Try.prog W 0 (fun _ => true) true Try.f6.params.toList args.toList ds p := hA0
  rw [Try.params6] at hA hval
  have hsz : (DataW.weightsEach Try.prog (Try.f6.params.toList ++ Rows.sheetBackSpec.plain.varTypes Try.prog) (ds ++ gs)).all (· ≤ reachBytes) = true := hsz0
  clear hsz0
  rw [Try.params6] at hsz
  obtain ⟨v0, vs0, d0, ds0, p0, q0, hargs, rfl, rfl, h0, r0⟩ := trodAll_cons hA
  obtain ⟨v1, vs1, d1, ds1, p1, q1, rfl, rfl, rfl, h1, r1⟩ := trodAll_cons r0
  obtain ⟨rfl, rfl, rfl⟩ := trodAll_nil r1
  obtain rfl : args = #[v0, v1] := by cases args; simp_all
  obtain ⟨rfl, rfl⟩ := trodVars_none hV
  have k0 := h0
  have lt0 : ∀ x ∈ p0, x.block < W.heap.size := by obtain ⟨m, hm⟩ := k0; exact DataW.trod_lt m _ _ _ hm
  have z0 : WL 38 d0 := fun m hm => by
    have := List.all_eq_true.1 hsz _ (DataW.weights_mem_each (j := 0) (t := 38) (d := d0) rfl rfl m hm)
    simpa using this
  obtain ⟨T0, M0, ps0, pl0, dr0, pa0, la0, da0, pc0, lc0, dc0, rfl, S0, H0⟩ := h0.elim fun _ hf => script_open hf z0
  obtain ⟨a1, rfl, rfl, rfl, w1⟩ := open_string Try.underlying9 (hval 1 9 v1 rfl rfl) h1
  clear hA0 hval0
  refine (core (w := W) T0 M0 ps0 pl0 dr0 pa0 la0 da0 pc0 lc0 dc0 S0 H0 a1 w1).mono fun e W' ⟨he, bel⟩ => ?_
  subst he
  exact ⟨_, rfl, _, _, _, [], _, [], hW', trodAll_mk1 (shut_bool Try.underlying4 _), (trodAll_cons_mk (Below.trod laidOut (by kernel_rfl) (of_decide_eq_true (by kernel_rfl)) k0 bel lt0) (trodAll_cons_mk (shut_string Try.underlying9 w1) trodAll_mk0)), rfl, bel.frame _, fun h => by cases h⟩

theorem over : Rows.sheetBackRow.holds Try.pinned (OpenSpec.ofChange Rows.sheetBackSpec) :=
  OpenClaim.holds_of_wide 6 Try.f6 rfl rfl rfl rfl rfl rfl rfl ⟨rfl, rfl, rfl, rfl, rfl⟩ rfl rfl rfl rfl rfl (by kernel_rfl) Try.func6 (by kernel_rfl)
    (of_decide_eq_true (by kernel_rfl)) (by unfold Func.isWrapper; first | (rw [if_pos (by decide +kernel)]; kernel_rfl) | (rw [if_neg (by decide +kernel)]; exact ⟨rfl, rfl⟩))
    (fun os started H enc _ => lifted os started H enc)

/-- the statement -/
theorem proved : Rows.SheetBackSaid := over
#print axioms proved
end Go.Proofs.Ytabbmfaklekojaa.sheetBack
