/- For every script, the law LoomCompacts returns true, so Compact entries change nothing but that they stand in the trace: under no condition. -/
import Derived.Test.YtkcbokhkmcmpdaaGreatZjLoom10
import Derived.Test.YtkcbokhkmcmpdaaGreatQe
import Derived.Test.YtkcbokhkmcmpdaaGreatLw
import Derived.Test.YtkcbokhkmcmpdaaGreatHu
import Derived.Test.YtkcbokhkmcmpdaaGreatHr
import Derived.ShutString
import Derived.ChangeOld
import Derived.Below
namespace Go.Proofs.YtkcbokhkmcmpdaaGreat.loomCompacts
open Go.ChangeShapes Go.WideShapes Go.ChangeAt Go.RowKit
open Go.ChangeMaps (open_string shut_string)
open Lo Ba Sh

theorem own : ownKnob Tryz.prog.godebug = none := by kernel_rfl
theorem laidOut : laidOutB Tryz.prog = true := by kernel_rfl

set_option maxRecDepth 100000 in
set_option maxHeartbeats 3200000 in
theorem core {w : World} (T M : Int) (ps : List (List De.OpD)) (pl dr : List Int) (pa la da : Option Addr) (pc lc dc : Nat) (hS : Sh.SAt w ⟨T, M, ps, pl, dr⟩ pa la da) (hH : Sh.Held ps) :
    Calls Tryz.prog 6 #[.agg #[.int .i64 T, .int .i64 M, .slice pa ps.length pc, .slice la pl.length lc, .slice da dr.length dc]] w fun r w' => r = .returned (.bool true) ∧ Below w.heap.size w w' := by
  have LG := hide (large13 T M ps pl dr pa la da pc lc dc (w.alloc (.cells #[.int .i64 T, .int .i64 M, .slice pa ps.length pc, .slice la pl.length lc, .slice da dr.length dc] 25)) (hS.below (below_alloc _ _)) hH)
  have HS := hide hS
  obtain ⟨i0, hi, hz0, hz1, hz2⟩ := info_parts info_ev
  have INF := hide (And.intro hi (And.intro hz0 (And.intro hz1 hz2)))
  clear hS hH hi hz0 hz1 hz2
  go_enter Tryz.func6, Tryz.ntmps6
  go_wp2_with fail
  refine LG.out.mono ?_
  rintro r w1 ⟨⟨b, rfl, hb⟩, b1⟩
  have E1 := hide (heap_below (heap_new w (.cells #[.int .i64 T, .int .i64 M, .slice pa ps.length pc, .slice la pl.length lc, .slice da dr.length dc] 25)) b1)
  have B1 := hide (btr (below_alloc w (.cells #[.int .i64 T, .int .i64 M, .slice pa ps.length pc, .slice la pl.length lc, .slice da dr.length dc] 25)) b1)
  have x0 := cell_of E1.out 0
  have x1 := cell_of E1.out 1
  have x2 := cell_of E1.out 2
  have x3 := cell_of E1.out 3
  have x4 := cell_of E1.out 4
  simp at x0 x1 x2 x3 x4
  clear b1 LG
  cases b
  case true =>
    go_wp2_with fail
    refine (hands_any _).mono ?_
    rintro r w2 ⟨rfl, b2⟩
    have B2 := hide (btr B1.out b2)
    clear b2
    go_wp2_with fail
    go_ret
    exact ⟨rfl, B2.out⟩
  case false =>
    have SM := hide (hb rfl)
    have CK := hide (Sh.rscheck_any T M ps pl dr pa la da pc lc dc w1 (HS.out.below B1.out))
    clear hb
    by_cases hs : Sh.schk ⟨T, M, ps, pl, dr⟩ = 0
    case neg =>
      generalize Sh.schk ⟨T, M, ps, pl, dr⟩ = z at CK hs
      have hs' : (z != 0) = true := by simp [hs]
      go_wp2_with fail
      refine CK.out.mono ?_
      rintro r w2 ⟨rfl, b2⟩
      have B2 := hide (btr B1.out b2)
      clear b2
      go_wp2_with fail
      refine (hands_any _).mono ?_
      rintro r w3 ⟨rfl, b3⟩
      have B3 := hide (btr B2.out b3)
      clear b3
      go_wp2_with fail
      go_ret
      exact ⟨rfl, B3.out⟩
    case pos =>
      rw [hs] at CK
      obtain ⟨R, hR⟩ : ∃ R, runF ⟨T, M, ps, pl, dr⟩ = R := ⟨_, rfl⟩
      obtain ⟨R2, hR2⟩ : ∃ R2, runF ⟨T, M, ps, Sh.bar pl, dr⟩ = R2 := ⟨_, rfl⟩
      obtain ⟨e1, e2⟩ := bare_run hs
      rw [hR, hR2] at e1 e2
      have hlen : R.tr.length ≤ 80400 := by
        obtain ⟨k, -, i, -⟩ := Inv.steps hs pl.length
        have h1 := kn_le (i.n200 hs)
        have h2 := i.b.bw.tn
        have h3 : (stepsF pl.length (newS ⟨T, M, ps, pl, dr⟩)).tr.length = R.tr.length := by rw [← hR]; rfl
        omega
      have RN := hide (fun u (q : Sh.SAt u ⟨T, M, ps, pl, dr⟩ pa la da) => run_yes T M ps pl dr pa la da pc lc dc u q hs R hR)
      have RB := hide (fun u pa la da pc lc dc (q : Sh.SAt u ⟨T, M, ps, Sh.bar pl, dr⟩ pa la da) => run_yes T M ps (Sh.bar pl) dr pa la da pc lc dc u q (Sh.schk_bar hs) R2 hR2)
      have BR := hide (fun u (q : Sh.SAt u ⟨T, M, ps, pl, dr⟩ pa la da) => Sh.bare_s T M ps pl dr pa la da pc lc dc u q SM.out _ rfl)
      rw [e2] at RB
      have ET := hide e1
      clear hR hR2 e1 e2
      generalize verd R = V at RN RB
      generalize Sh.bar pl = bpl at RB BR
      go_wp2_with fail
      refine CK.out.mono ?_
      rintro r w2 ⟨rfl, b2⟩
      have B2 := hide (btr B1.out b2)
      have E2 := hide (heap_below E1.out b2)
      have x0 := cell_of E2.out 0
      have x1 := cell_of E2.out 1
      have x2 := cell_of E2.out 2
      have x3 := cell_of E2.out 3
      have x4 := cell_of E2.out 4
      simp at x0 x1 x2 x3 x4
      have RN2 := hide (RN.out w2 (HS.out.below B2.out))
      clear b2 CK RN
      go_wp2_with fail
      refine RN2.out.mono ?_
      rintro r w3 ⟨ob, d, rfl, es3, -, b3⟩
      have B3 := hide (btr B2.out b3)
      have E3 := hide (heap_below E2.out b3)
      have ES3 := hide es3
      have x0 := cell_of E3.out 0
      have x1 := cell_of E3.out 1
      have x2 := cell_of E3.out 2
      have x3 := cell_of E3.out 3
      have x4 := cell_of E3.out 4
      simp at x0 x1 x2 x3 x4
      have BR3 := hide (BR.out w3 (HS.out.below B3.out))
      clear b3 es3 RN2 BR
      go_wp2_with fail
      refine BR3.out.mono ?_
      rintro r w4 ⟨⟨G, L, D, pc', lc', dc', rfl, s4⟩, b4⟩
      have B4 := hide (btr B3.out b4)
      have ES4 := hide (ES3.out.below b4)
      have RB4 := hide (RB.out w4 _ _ _ pc' lc' dc' s4)
      clear b4 s4 BR3 RB
      go_wp2_with fail
      refine RB4.out.mono ?_
      rintro r w5 ⟨oc, e, rfl, es5, -, b5⟩
      have B5 := hide (btr B4.out b5)
      have ES5 := hide (ES4.out.below b5)
      have FS5 := hide es5
      clear b5 es5 RB4
      go_wp2_with fail
      go_loopw [31, 7] (fun iv cv wr => ∃ (k m : Nat), k ≤ R.tr.length ∧ iv = .int .i64 k ∧ m = ((R.tr.take k).filter nk).length ∧ wr.ownsRow w5.heap.size 66 8 cv m (ec ((R.tr.take k).filter nk)) ∧ Below w5.heap.size w5 wr) (fun iv _ _ => R.tr.length - (intOf iv).toNat)
      case atStart => exact ⟨0, 0, Nat.zero_le _, rfl, rfl, World.ownsRow_nil _ _ _ _, Below.refl _ _⟩
      case round =>
        obtain ⟨k, m, hk, rfl, hm, how, hbl⟩ := hrel
        obtain ⟨oa7, c7, hu⟩ := own_sl how
        subst hu
        have HO := hide how
        have HB := hide hbl
        have HM := hide hm
        clear how hbl hm
        by_cases hlt : k < R.tr.length
        · have hlt' : (k : Int) < (R.tr.length : Int) := by omega
          obtain ⟨x, hx⟩ : ∃ x, R.tr[k]? = some x := ⟨_, List.getElem?_eq_getElem hlt⟩
          obtain ⟨b', off', hob, -⟩ := ES5.out k x hx
          subst hob
          obtain ⟨p0, p1, p2, p3, p4, p5, p6, p7⟩ := (ES5.out.below HB.out).read hx
          have hml : m ≤ k := by rw [HM.out]; exact Nat.le_trans (List.length_filter_le _ _) (by rw [List.length_take]; omega)
          have TK : Hid ((R.tr.take (k + 1)).filter nk = (R.tr.take k).filter nk ++ (if nk x then [x] else [])) := by
            show _ = _
            rw [List.take_add_one, hx, List.filter_append]
            simp only [Option.toList_some]
            cases h : nk x <;> simp [h]
          clear hx
          by_cases hk13 : x.k = 13
          · have h13 : (x.k != 13) = false := by simp [hk13]
            have hnk : nk x = false := by simp [nk, hk13]
            go_wp2_with fail
            go_roundw
            case rel => exact ⟨k + 1, m, by omega, by go_num, by rw [TK.out, hnk, HM.out]; simp, by rw [TK.out, hnk]; simpa using Cr.own_keep HO.out (fun g e => (below_alloc wr _).block g (HO.out.lt g e).2), btr HB.out (below_alloc _ _)⟩
            case measure => simp [intOf]; omega
          · have h13 : (x.k != 13) = true := by simp [hk13]
            have hnk : nk x = true := by simp [nk, hk13]
            have ow1 : ((wr.alloc (.cells #[.int .i64 x.k, .int .i64 x.g, .int .i64 x.c, .int .i64 x.a, .int .i64 x.v, .int .i64 x.m, .bool x.s, .bool x.o] 66)).alloc (.cells #[.int .i64 x.k, .int .i64 x.g, .int .i64 x.c, .int .i64 x.a, .int .i64 x.v, .int .i64 x.m, .bool x.s, .bool x.o] 66)).ownsRow w5.heap.size 66 8 (.slice oa7 m c7) m (ec ((R.tr.take k).filter nk)) := Cr.own_keep HO.out fun g e => ((btr (below_alloc wr (.cells #[.int .i64 x.k, .int .i64 x.g, .int .i64 x.c, .int .i64 x.a, .int .i64 x.v, .int .i64 x.m, .bool x.s, .bool x.o] 66)) (below_alloc _ (.cells #[.int .i64 x.k, .int .i64 x.g, .int .i64 x.c, .int .i64 x.a, .int .i64 x.v, .int .i64 x.m, .bool x.s, .bool x.o] 66))).block g (HO.out.lt g e).2)
            have OW := hide ow1
            have LW1 := hide (fun g e => (HO.out.lt g e).1)
            clear ow1
            go_wp2_with (at_builtin; refine wpList_append_own_at _ rfl _ _ 28 rfl w5.heap.size 66 i0 _ 8 56 Tryz.underlying28 INF.out.1 INF.out.2.1 INF.out.2.2.1 INF.out.2.2.2 rfl (by decide) _ _ _ rfl OW.out ⟨wr.heap.size + 1, 0, none⟩ 1 1 (ec [x]) rfl rfl ?c1 (ec_one _) ?c3 ?c4 ?c5 ?_)
            case c1 => exact src8 wr x _
            case c3 => unfold maxLen; omega
            case c4 => omega
            case c5 =>
              have := HB.out.size
              rw [World.size_alloc, World.size_alloc]
              omega
            intro v' w6 ho hg _ hat
            have ho2 : w6.ownsRow w5.heap.size 66 8 v' (m + 1) (ec ((R.tr.take (k + 1)).filter nk)) := by
              rw [TK.out, hnk, ec_app]
              exact ho
            have HO2 := hide ho2
            have HB2 : Hid (Below w5.heap.size w5 w6) := by
              have b2 := btr HB.out (btr (below_alloc wr (.cells #[.int .i64 x.k, .int .i64 x.g, .int .i64 x.c, .int .i64 x.a, .int .i64 x.v, .int .i64 x.m, .bool x.s, .bool x.o] 66)) (below_alloc _ (.cells #[.int .i64 x.k, .int .i64 x.g, .int .i64 x.c, .int .i64 x.a, .int .i64 x.v, .int .i64 x.m, .bool x.s, .bool x.o] 66)))
              refine ⟨hg.os.trans b2.os, hg.tape.trans b2.tape, hg.output.trans b2.output, Nat.le_trans b2.size hg.size, fun y hy => ?_⟩
              refine (hg.block y (Nat.lt_of_lt_of_le hy b2.size) (fun e => ?_)).trans (b2.block y hy)
              have := LW1.out y e.symm
              omega
            have HM2 : Hid (m + 1 = ((R.tr.take (k + 1)).filter nk).length) := by
              show _ = _
              rw [TK.out, hnk, HM.out]
              simp
            clear ho ho2 hg hat OW
            go_wp2_with fail
            go_roundw
            case rel => exact ⟨k + 1, m + 1, by omega, by go_num, HM2.out, HO2.out, HB2.out⟩
            case measure => simp [intOf]; omega
        · have hlt' : ¬ ((k : Int) < (R.tr.length : Int)) := by omega
          have hfull : (R.tr.take k).filter nk = R2.tr := by rw [List.take_of_length_le (by omega), ET.out]
          rw [hfull] at HO HM
          have hm2 : m = R2.tr.length := HM.out
          subst hm2
          obtain ⟨ob7, d7, e7, hE7, -⟩ := own_es HO.out
          cases e7
          have hle : R2.tr.length ≤ 1000000 := by
            rw [ET.out]
            exact Nat.le_trans (List.length_filter_le _ _) (by omega)
          have EQ := hide (events_same oa7 oc R2.tr c7 e wr hE7 (FS5.out.below HB.out) hle)
          have B6 := hide (btr B5.out HB.out)
          clear hE7 HO HM hfull
          go_wp2_with fail
          refine EQ.out.mono ?_
          rintro r w7 ⟨rfl, b7⟩
          have B7 := hide (btr B6.out b7)
          clear b7 EQ
          go_wp2_with fail
          refine (hands_any _).mono ?_
          rintro r w8 ⟨rfl, b8⟩
          have B8 := hide (btr B7.out b8)
          clear b8
          go_wp2_with fail
          go_ret
          exact ⟨ret_bool (by simp), B8.out⟩

/-! ### the row -/
set_option maxRecDepth 100000 in
theorem lifted (os : Os) (started : os.Started) (H : Type) (enc : TypeId × Value → H) :
    ReturnsInHanded {} Tryz.checked os 6 .any (Rows.loomCompactsSpec.pre6 enc Tryz.prog Tryz.f6 Rows.loomCompactsRow.domain false) (Rows.loomCompactsSpec.post enc Tryz.prog Tryz.f6 false true false false) := by
  refine returnsInHanded_of_change_sized (C := Tryz.checked) own started (by kernel_rfl) Tryz.func6
    (ChangeSpec.witness6 (enc := enc) (C := Tryz.checked) false ⟨#[], #[.agg #[.int .i64 0, .int .i64 0, .slice none 0 0, .slice none 0 0, .slice none 0 0]], []⟩ 8 (by kernel_rfl) (by kernel_rfl) (by kernel_rfl) (by kernel_rfl)) ?_
  intro W base args ds gs before hval0 hW hcnd hsz0 _
  have hval : ∀ (j : Nat) t v, Tryz.f6.params[j]? = some t → args[j]? = some v → Value.okWide Tryz.prog W .any base t v := hval0
  have hW' := hW
  obtain ⟨p, q, hA0, hV, rfl, hfz, hnd⟩ := hW
  have hA : DataW.TrodAll enc Tryz.prog W 0 (fun _ => true) true Tryz.f6.params.toList args.toList ds p := hA0
  rw [Tryz.params6] at hA hval
  have hsz : (DataW.weightsEach Tryz.prog (Tryz.f6.params.toList ++ Rows.loomCompactsSpec.plain.varTypes Tryz.prog) (ds ++ gs)).all (· ≤ reachBytes) = true := hsz0
  clear hsz0
  rw [Tryz.params6] at hsz
  obtain ⟨v0, vs0, d0, ds0, p0, q0, hargs, rfl, rfl, h0, r0⟩ := trodAll_cons hA
  obtain ⟨rfl, rfl, rfl⟩ := trodAll_nil r0
  obtain rfl : args = #[v0] := by cases args; simp_all
  obtain ⟨rfl, rfl⟩ := trodVars_none hV
  have k0 := h0
  have lt0 : ∀ x ∈ p0, x.block < W.heap.size := by obtain ⟨m, hm⟩ := k0; exact DataW.trod_lt m _ _ _ hm
  have z0 : WL 25 d0 := fun m hm => by
    have := List.all_eq_true.1 hsz _ (DataW.weights_mem_each (j := 0) (t := 25) (d := d0) rfl rfl m hm)
    simpa using this
  obtain ⟨T0, M0, ps0, pl0, dr0, pa0, la0, da0, pc0, lc0, dc0, rfl, S0, H0⟩ := h0.elim fun _ hf => script_open hf z0
  clear hA0 hval0
  refine (core (w := W) T0 M0 ps0 pl0 dr0 pa0 la0 da0 pc0 lc0 dc0 S0 H0).mono fun e W' ⟨he, bel⟩ => ?_
  subst he
  exact ⟨_, rfl, _, _, _, [], _, [], hW', trodAll_mk1 (shut_bool Tryz.underlying4 _), (trodAll_cons_mk (Below.trod laidOut (by kernel_rfl) (of_decide_eq_true (by kernel_rfl)) k0 bel lt0) trodAll_mk0), rfl, bel.frame _, fun h => by cases h⟩

theorem over : Rows.loomCompactsRow.holds Tryz.pinned (OpenSpec.ofChange Rows.loomCompactsSpec) :=
  OpenClaim.holds_of_wide 6 Tryz.f6 rfl rfl rfl rfl rfl rfl rfl ⟨rfl, rfl, rfl, rfl, rfl⟩ rfl rfl rfl rfl rfl (by kernel_rfl) Tryz.func6 (by kernel_rfl)
    (of_decide_eq_true (by kernel_rfl)) (by unfold Func.isWrapper; first | (rw [if_pos (by decide +kernel)]; kernel_rfl) | (rw [if_neg (by decide +kernel)]; exact ⟨rfl, rfl⟩))
    (fun os started H enc _ => lifted os started H enc)

/-- the statement -/
theorem proved : Rows.LoomCompactsSaid := over
#print axioms proved
end Go.Proofs.YtkcbokhkmcmpdaaGreat.loomCompacts
