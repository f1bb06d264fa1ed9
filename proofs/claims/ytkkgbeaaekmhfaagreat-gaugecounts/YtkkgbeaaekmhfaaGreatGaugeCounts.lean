/- What is proved: for every list of events and every script the numbers of goroutines and channels that are told are one more than the greatest of spawns and makes, below 2^40; a run tells of as many goroutines as it has; no condition. -/
import Derived.Test.YtkkgbeaaekmhfaaGreatZjGl12
import Derived.ShutString
import Derived.ChangeOld
import Derived.Below
namespace Go.Proofs.YtkkgbeaaekmhfaaGreat.gaugeCounts
open Go.ChangeShapes Go.WideShapes Go.ChangeAt Go.RowKit
open Go.ChangeMaps (open_string shut_string)
open Lo Ba

theorem own : ownKnob Tryz.prog.godebug = none := by kernel_rfl
theorem laidOut : laidOutB Tryz.prog = true := by kernel_rfl

theorem low {n : Int} (h : (Lit.int .i64 n).wf = true) : -9223372036854775808 ≤ n := by
  simp [Lit.wf, IntKind.min, IntKind.max, IntKind.signed, IntKind.bits] at h
  omega
theorem up1 {n : Int} (h : -9223372036854775808 ≤ n) (h2 : n < 1099511627776) : IntKind.i64.wrap (n + 1) = n + 1 := by rw [IntKind.wrap_i64]; omega
/-- the law's own count -/
theorem own_cnt (p : En.Ev → Bool) (f : En.Ev → Int) (b : Int) (hb : 0 ≤ b ∧ b ≤ 1) (l : List En.Ev) : ∃ G : Nat → Int, G 0 = b ∧ G l.length = max b (Gc.cntF p f l) ∧ (∀ k, 0 ≤ G k ∧ G k ≤ 1099511627776) ∧ ∀ k e, l[k]? = some e → G (k + 1) = if p e = true ∧ f e < 1099511627776 ∧ G k ≤ f e then f e + 1 else G k := by
  obtain ⟨F, F0, FM, FR, FS⟩ := Gc.cnt_fun p f l
  refine ⟨fun k => max b (F k), by simp only [F0]; omega, by simp only [FM], fun k => by have := FR k; simp only; omega, fun k e h => ?_⟩
  simp only [FS k e h]
  have := FR k
  by_cases h1 : p e = true ∧ f e < 1099511627776
  · rw [if_pos h1]
    by_cases h2 : max b (F k) ≤ f e
    · rw [if_pos ⟨h1.1, h1.2, h2⟩]; omega
    · rw [if_neg (fun q => h2 q.2.2)]; omega
  · rw [if_neg h1, if_neg (fun q => h1 ⟨q.1, q.2.1⟩)]
theorem tr_below {col cj : Nat → Nat} {w w4 wr : World} (b : Below w.heap.size w w4) (h7 : ∀ x, x < w.heap.size → col x = 7) (q : Tr col cj w4 wr) : Below w.heap.size w wr :=
  ⟨q.os.trans b.os, q.tape.trans b.tape, q.output.trans b.output, Nat.le_trans b.size q.size, fun x hx => (q.block x (Nat.lt_of_lt_of_le hx b.size) (by rw [h7 x hx]; omega)).trans (b.block x hx)⟩
set_option maxRecDepth 100000 in
set_option maxHeartbeats 6400000 in
theorem core {w : World} (oa : Option Addr) (l : List En.Ev) (c : Nat) (hA : Gu.EsAt w oa l ∧ l.length ≤ c ∧ ∀ e ∈ l, Ew.Wf e) (hl : l.length ≤ maxLen) (T M : Int) (ps : List (List De.OpD)) (pl dr : List Int) (pa la da : Option Addr) (pc lc dc : Nat) (hS : Sh.SAt w ⟨T, M, ps, pl, dr⟩ pa la da) (_hH : Sh.Held ps) :
    Calls Tryz.prog 4 #[.slice oa l.length c, .agg #[.int .i64 T, .int .i64 M, .slice pa ps.length pc, .slice la pl.length lc, .slice da dr.length dc]] w fun r w' => r = .returned (.bool true) ∧ Below w.heap.size w w' := by
  have LG := hide (large14 T M ps pl dr pa la da pc lc dc (w.alloc (.cells #[.int .i64 T, .int .i64 M, .slice pa ps.length pc, .slice la pl.length lc, .slice da dr.length dc] 25)) (hS.below (below_alloc _ _)))
  have HS := hide hS
  have HA := hide hA.1
  have LOM := hide (fun (i : Nat) (e : En.Ev) (q : l[i]? = some e) => low (hA.2.2 e (List.mem_of_getElem? q)).2.2.2.2.2)
  have LOC := hide (fun (i : Nat) (e : En.Ev) (q : l[i]? = some e) => low (hA.2.2 e (List.mem_of_getElem? q)).2.2.1)
  have E0 := hide (heap_new w (.cells #[.int .i64 T, .int .i64 M, .slice pa ps.length pc, .slice la pl.length lc, .slice da dr.length dc] 25))
  have B0 := hide (below_alloc w (.cells #[.int .i64 T, .int .i64 M, .slice pa ps.length pc, .slice la pl.length lc, .slice da dr.length dc] 25))
  obtain ⟨G, G0, GM, GR, GS⟩ := own_cnt (fun e => e.k == 1) (fun e => e.m) 1 (by omega) l
  obtain ⟨C, C0, CM, CR, CS⟩ := own_cnt (fun e => e.k == 2) (fun e => e.c) 0 (by omega) l
  have GOR := hide (fun (u : World) (hlt : l.length ≤ 100000) (q : Gu.EsAt u oa l) => Gu.gors_any oa l c u q hlt (fun i e q _ => LOM.out i e q))
  have CHA := hide (fun (u : World) (hlt : l.length ≤ 100000) (q : Gu.EsAt u oa l) => Gu.chans_any oa l c u q hlt (fun i e q _ => LOC.out i e q))
  rw [← GM] at GOR
  rw [← CM] at CHA
  have HG := hide (And.intro G0 (And.intro GR GS))
  have HC := hide (And.intro C0 (And.intro CR CS))
  obtain ⟨NL, hNL⟩ : ∃ NL, l.length = NL := ⟨_, rfl⟩
  have HNL := hide hNL
  rw [hNL] at hl GOR CHA ⊢
  unfold maxLen at hl
  clear hS hA hNL G0 GM GR GS C0 CM CR CS
  by_cases h2 : 2000 < NL
  · have g2 : decide (2000 < (NL : Int)) = true := by simp; omega
    go_enter Tryz.func4, Tryz.ntmps4
    go_wp2_with fail
    refine (Gu.exits_any _).mono ?_
    rintro r w2 ⟨rfl, b2⟩
    have B2 := hide (btr B0.out b2)
    clear b2
    go_wp2_with fail
    go_ret
    exact ⟨rfl, B2.out⟩
  have g2 : decide (2000 < (NL : Int)) = false := by simp; omega
  go_enter Tryz.func4, Tryz.ntmps4
  go_wp2_with fail
  refine LG.out.mono ?_
  rintro r w1 ⟨⟨b, rfl⟩, b1⟩
  have E1 := hide (heap_below E0.out b1)
  have B1 := hide (btr B0.out b1)
  clear b1 LG E0 B0
  cases b
  case true =>
    go_wp2_with fail
    refine (Gu.exits_any _).mono ?_
    rintro r w2 ⟨rfl, b2⟩
    have B2 := hide (btr B1.out b2)
    clear b2
    go_wp2_with fail
    go_ret
    exact ⟨rfl, B2.out⟩
  case false =>
    go_wp2_with fail
    go_loopw [5, 6, 22] (fun g cc i wr => ∃ k : Nat, k ≤ NL ∧ g = .int .i64 (G k) ∧ cc = .int .i64 (C k) ∧ i = .int .i64 (k : Int) ∧ Below w1.heap.size w1 wr) (fun _ _ i _ => NL - (intOf i).toNat)
    case atStart => exact ⟨0, Nat.zero_le _, by rw [HG.out.1], by rw [HC.out.1], rfl, Below.refl _ _⟩
    case round =>
      obtain ⟨k, hkM, rfl, rfl, rfl, bl⟩ := hrel
      have BL := hide bl
      have EA := hide ((HA.out.below B1.out).below bl)
      clear bl
      by_cases hlt : k < NL
      · have hlt' : (k : Int) < (NL : Int) := by omega
        obtain ⟨e, he⟩ : ∃ e, l[k]? = some e := ⟨_, List.getElem?_eq_getElem (by rw [HNL.out]; omega)⟩
        obtain ⟨b1, o1, rfl, -⟩ := EA.out k e he
        obtain ⟨p0, p1, p2, p3, p4, p5, p6, p7⟩ := EA.out.read he
        have lm := LOM.out k e he
        have lc := LOC.out k e he
        have GS := hide (HG.out.2.2 k e he)
        have CS := hide (HC.out.2.2 k e he)
        have BA := hide (btr BL.out (below_alloc wr (.cells #[.int .i64 e.k, .int .i64 e.g, .int .i64 e.c, .int .i64 e.a, .int .i64 e.v, .int .i64 e.m, .bool e.s, .bool e.o] 35)))
        clear he
        have KK : Hid (∀ (v u : Value) (w1' : World), v = .int .i64 (G (k + 1)) → u = .int .i64 (C (k + 1)) → Below w1.heap.size w1 w1' → ∃ k' : Nat, k' ≤ NL ∧ v = .int .i64 (G k') ∧ u = .int .i64 (C k') ∧ Value.int .i64 ((k : Int) + 1) = .int .i64 (k' : Int) ∧ Below w1.heap.size w1 w1') := fun v u w1' hv hu hb => ⟨k + 1, by omega, hv, hu, by simp, hb⟩
        generalize G (k + 1) = G1 at *
        generalize G k = Gk at *
        generalize C (k + 1) = C1 at *
        generalize C k = Ck at *
        by_cases k1 : e.k = 1
        · have d1 : (e.k == 1) = true := by simp [k1]
          have d2 : (e.k == 2) = false := by simp [k1]
          have hC1 : C1 = Ck := by rw [CS.out, if_neg (fun q => by have := q.1; rw [d2] at this; cases this)]
          subst hC1
          by_cases m1 : e.m < 1099511627776
          · have d3 : decide (e.m < 1099511627776) = true := decide_eq_true m1
            have hw := up1 lm m1
            by_cases m2 : Gk ≤ e.m
            · have d4 : decide (Gk ≤ e.m) = true := decide_eq_true m2
              have hG1 : G1 = e.m + 1 := by rw [GS.out, if_pos ⟨d1, m1, m2⟩]
              have HG1 := hide hG1
              clear k1 m1 m2 GS CS hG1
              go_wp2_with fail
              go_roundw
              case measure => simp [intOf]; omega
              case rel => exact KK.out _ _ _ (by rw [HG1.out]) rfl BA.out
            · have d4 : decide (Gk ≤ e.m) = false := decide_eq_false m2
              have hG1 : G1 = Gk := by rw [GS.out, if_neg (fun q => m2 q.2.2)]
              subst hG1
              clear k1 m1 m2 GS CS
              go_wp2_with fail
              go_roundw
              case measure => simp [intOf]; omega
              case rel => exact KK.out _ _ _ rfl rfl BA.out
          · have d3 : decide (e.m < 1099511627776) = false := decide_eq_false m1
            have hG1 : G1 = Gk := by rw [GS.out, if_neg (fun q => m1 q.2.1)]
            subst hG1
            clear k1 m1 GS CS
            go_wp2_with fail
            go_roundw
            case measure => simp [intOf]; omega
            case rel => exact KK.out _ _ _ rfl rfl BA.out
        · have d1 : (e.k == 1) = false := by simp [k1]
          have hG1 : G1 = Gk := by rw [GS.out, if_neg (fun q => by have := q.1; rw [d1] at this; cases this)]
          subst hG1
          by_cases k2 : e.k = 2
          · have d2 : (e.k == 2) = true := by simp [k2]
            by_cases m1 : e.c < 1099511627776
            · have d3 : decide (e.c < 1099511627776) = true := decide_eq_true m1
              have hw := up1 lc m1
              by_cases m2 : Ck ≤ e.c
              · have d4 : decide (Ck ≤ e.c) = true := decide_eq_true m2
                have hC1 : C1 = e.c + 1 := by rw [CS.out, if_pos ⟨d2, m1, m2⟩]
                have HC1 := hide hC1
                clear k1 k2 m1 m2 GS CS hC1
                go_wp2_with fail
                go_roundw
                case measure => simp [intOf]; omega
                case rel => exact KK.out _ _ _ rfl (by rw [HC1.out]) BA.out
              · have d4 : decide (Ck ≤ e.c) = false := decide_eq_false m2
                have hC1 : C1 = Ck := by rw [CS.out, if_neg (fun q => m2 q.2.2)]
                subst hC1
                clear k1 k2 m1 m2 GS CS
                go_wp2_with fail
                go_roundw
                case measure => simp [intOf]; omega
                case rel => exact KK.out _ _ _ rfl rfl BA.out
            · have d3 : decide (e.c < 1099511627776) = false := decide_eq_false m1
              have hC1 : C1 = Ck := by rw [CS.out, if_neg (fun q => m1 q.2.1)]
              subst hC1
              clear k1 k2 m1 GS CS
              go_wp2_with fail
              go_roundw
              case measure => simp [intOf]; omega
              case rel => exact KK.out _ _ _ rfl rfl BA.out
          · have d2 : (e.k == 2) = false := by simp [k2]
            have hC1 : C1 = Ck := by rw [CS.out, if_neg (fun q => by have := q.1; rw [d2] at this; cases this)]
            subst hC1
            clear k1 k2 GS CS
            go_wp2_with fail
            go_roundw
            case measure => simp [intOf]; omega
            case rel => exact KK.out _ _ _ rfl rfl BA.out
      · have dl : decide ((k : Int) < (NL : Int)) = false := by simp; omega
        have dl2 : decide (k < NL) = false := by simp; omega
        have hk : k = NL := by omega
        subst hk
        have GO1 := hide (GOR.out wr (by omega) EA.out)
        have nG : (G k != G k) = false := by simp
        have nC : (C k != C k) = false := by simp
        have SA := hide (HS.out.below (btr B1.out BL.out))
        have E2 := hide (heap_below E1.out BL.out)
        have BW := hide (btr B1.out BL.out)
        clear GOR hlt HG HC E1 BL
        generalize G k = gk at *
        generalize C k = ck at *
        go_wp2_with fail
        refine GO1.out.mono ?_
        rintro r w3 ⟨rfl, b3⟩
        have CH1 := hide (CHA.out w3 (by omega) (EA.out.below b3))
        have SA3 := hide (SA.out.below b3)
        have E3 := hide (heap_below E2.out b3)
        have BW3 := hide (btr BW.out b3)
        clear b3 GO1 CHA SA E2 BW EA
        go_wp2_with fail
        refine CH1.out.mono ?_
        rintro r w4 ⟨rfl, b4⟩
        have SA4 := hide (SA3.out.below b4)
        have E4 := hide (heap_below E3.out b4)
        have BW4 := hide (btr BW3.out b4)
        clear b4 CH1 SA3 E3 BW3
        obtain ⟨x0, x1, x2, x3, x4⟩ := Sh.sc_cells E4.out
        by_cases hs : Sh.schk ⟨T, M, ps, pl, dr⟩ = 0
        case neg =>
          have NE := hide (new_err T M ps pl dr pa la da pc lc dc w4 SA4.out _ rfl hs)
          generalize Sh.schk ⟨T, M, ps, pl, dr⟩ = z at NE hs
          have hs' : (z != 0) = true := by simp [hs]
          clear hs
          go_wp2_with fail
          refine NE.out.mono ?_
          rintro r w5 ⟨rfl, b5⟩
          have B5 := hide (btr BW4.out b5)
          clear b5 NE
          go_wp2_with fail
          refine (Gu.exits_any _).mono ?_
          rintro r w6 ⟨rfl, b6⟩
          have B6 := hide (btr B5.out b6)
          clear b6
          go_wp2_with fail
          go_ret
          exact ⟨rfl, B6.out⟩
        case pos =>
          have NE := hide (new_yes T M ps pl dr pa la da pc lc dc w4 SA4.out hs)
          have h200 : pl.length ≤ 200 := (schk_ok hs).2.2.1
          go_wp2_with fail
          refine NE.out.mono ?_
          rintro r w5 ⟨L, col, rfl, h5, h7, b5⟩
          have H5 := hide h5
          have H7 := hide h7
          have BL5 := hide b5
          have B5 := hide (btr BW4.out b5)
          clear h5 h7 b5 NE x0 x1 x2 x3 x4
          generalize hsc : (⟨T, M, ps, pl, dr⟩ : Sh.Sc) = sc at *
          have HPL : Hid (sc.pl = pl) := by rw [← hsc]; exact rfl
          have HSC := hide hs
          clear hsc hs
          go_wp2_with fail
          go_loopw [11] (fun i wr => ∃ (n : Nat) (cj : Nat → Nat), n ≤ pl.length + 1 ∧ i = .int .i64 (n : Int) ∧ LW wr cj L (stepsF n (newS sc)) ∧ Tr col cj w5 wr) (fun i _ => pl.length + 1 - (intOf i).toNat)
          case atStart => exact ⟨0, col, Nat.zero_le _, rfl, H5.out, Tr.refl _ _⟩
          case round =>
            obtain ⟨n, cj, hn, rfl, hlw, htr⟩ := hrel
            obtain ⟨q, -, inv, -⟩ := Inv.steps HSC.out n
            have HI := hide inv
            have HL := hide hlw
            have HT := hide htr
            have BR := hide (tr_below BL5.out H7.out htr)
            have ER := hide (heap_below E4.out BR.out)
            have x3 := cell_of ER.out 3
            simp at x3
            have SS := hide (steps_succ n (newS sc))
            have GN := hide (gn_steps sc n)
            clear hlw htr inv
            by_cases hnl : n ≤ pl.length
            · have hnl' : decide ((n : Int) ≤ (pl.length : Int)) = true := by simp; omega
              by_cases hv : verd (stepsF n (newS sc)) = 0
              · have ST := hide (step_any L cj sc q _ wr HL.out HSC.out HI.out hv)
                clear hv
                go_wp2_with fail
                refine ST.out.mono ?_
                rintro r w7 ⟨ob7, d7, rfl, -, c7, h7, t7⟩
                have H7' : Hid (LW w7 c7 L (stepsF (n + 1) (newS sc))) := by rw [SS.out]; exact h7
                have T7 := hide (HT.out.trans t7)
                clear h7 t7 ST
                go_wp2_with fail
                go_roundw
                case rel => exact ⟨n + 1, c7, by omega, by go_num, H7'.out, T7.out⟩
                case measure => simp [intOf]; omega
              · have SO := hide (step_over L cj _ _ wr HL.out HI.out.b.bw.cb hv)
                have SE := hide (Lo.step_end hv)
                clear hv
                go_wp2_with fail
                refine SO.out.mono ?_
                rintro r w7 ⟨rfl, b7⟩
                obtain ⟨c7, h7, t7, -⟩ := HL.out.below b7
                have H7' : Hid (LW w7 c7 L (stepsF (n + 1) (newS sc))) := by rw [SS.out, SE.out]; exact h7
                have T7 := hide (HT.out.trans t7)
                clear h7 t7 b7 SO
                go_wp2_with fail
                go_roundw
                case rel => exact ⟨n + 1, c7, by omega, by go_num, H7'.out, T7.out⟩
                case measure => simp [intOf]; omega
            · have hnl' : decide ((n : Int) ≤ (pl.length : Int)) = false := by simp; omega
              have hnl2 : decide (n ≤ pl.length) = false := by simp; omega
              have hle : (stepsF n (newS sc)).tr.length ≤ 80400 := by
                have h1 := kn_le (HI.out.n200 HSC.out)
                have h2 := HI.out.b.bw.tn
                omega
              have TA := hide (trace_any L cj _ wr HL.out (by omega))
              have HGN := hide (show max 1 (Gc.cntF (fun e => e.k == 1) (fun e => e.m) (stepsF n (newS sc)).tr) = ((stepsF n (newS sc)).cr.length : Int) from GN.out.1)
              have HLO := hide (fun (i : Nat) (e : En.Ev) (q : (stepsF n (newS sc)).tr[i]? = some e) (hk : e.k = 1) => (show -9223372036854775808 ≤ e.m by have := GN.out.2.2 e (List.mem_of_getElem? q) hk; omega))
              clear hnl SS GN
              generalize stepsF n (newS sc) = s at *
              go_wp2_with fail
              refine TA.out.mono ?_
              rintro r w7 ⟨ob, d, rfl, es7, -, b7⟩
              have GO2 := hide (Gu.gors_any ob s.tr d w7 es7 (by omega) HLO.out)
              rw [HGN.out] at GO2
              obtain ⟨c7, h7, t7, -⟩ := HL.out.below b7
              have L7 := hide h7
              have B7 := hide (BR.out.trans (b7.mono BR.out.size))
              have cc : ((s.cr.length : Int) == (s.cr.length : Int)) = true := by simp
              clear es7 b7 h7 t7 TA HGN HLO hle
              generalize s.tr.length = tl at *
              go_wp2_with fail
              refine GO2.out.mono ?_
              rintro r w8 ⟨rfl, b8⟩
              obtain ⟨c8, h8, t8, -⟩ := L7.out.below b8
              have LE := hide (len_any L c8 s w8 h8)
              have B8 := hide (B7.out.trans (b8.mono B7.out.size))
              clear b8 h8 t8 GO2
              generalize (s.cr.length : Int) = cl at *
              go_wp2_with fail
              refine LE.out.mono ?_
              rintro r w9 ⟨rfl, e9⟩
              obtain rfl := e9.symm
              go_wp2_with fail
              refine (Gu.exits_any _).mono ?_
              rintro r wa ⟨rfl, ba⟩
              have BA := hide (B8.out.trans (ba.mono B8.out.size))
              clear ba
              go_wp2_with fail
              go_ret
              exact ⟨rfl, btr BW4.out BA.out⟩

/-! ### the row -/
set_option maxRecDepth 100000 in
theorem lifted (os : Os) (started : os.Started) (H : Type) (enc : TypeId × Value → H) :
    ReturnsInHanded {} Tryz.checked os 4 .any (Rows.gaugeCountsSpec.pre6 enc Tryz.prog Tryz.f4 Rows.gaugeCountsRow.domain false) (Rows.gaugeCountsSpec.post enc Tryz.prog Tryz.f4 false true false false) := by
  refine returnsInHanded_of_change_sized (C := Tryz.checked) own started (by kernel_rfl) Tryz.func4
    (ChangeSpec.witness6 (enc := enc) (C := Tryz.checked) false ⟨#[], #[.slice none 0 0, .agg #[.int .i64 0, .int .i64 0, .slice none 0 0, .slice none 0 0, .slice none 0 0]], []⟩ 8 (by kernel_rfl) (by kernel_rfl) (by kernel_rfl) (by kernel_rfl)) ?_
  intro W base args ds gs before hval0 hW hcnd hsz0 _
  have hval : ∀ (j : Nat) t v, Tryz.f4.params[j]? = some t → args[j]? = some v → Value.okWide Tryz.prog W .any base t v := hval0
  have hW' := hW
  obtain ⟨p, q, hA0, hV, rfl, hfz, hnd⟩ := hW
  have hA : DataW.TrodAll enc Tryz.prog W 0 (fun _ => true) true Tryz.f4.params.toList args.toList ds p := hA0
  rw [Tryz.params4] at hA hval
  have hsz : (DataW.weightsEach Tryz.prog (Tryz.f4.params.toList ++ Rows.gaugeCountsSpec.plain.varTypes Tryz.prog) (ds ++ gs)).all (· ≤ reachBytes) = true := hsz0
  clear hsz0
  rw [Tryz.params4] at hsz
  obtain ⟨v0, vs0, d0, ds0, p0, q0, hargs, rfl, rfl, h0, r0⟩ := trodAll_cons hA
  obtain ⟨v1, vs1, d1, ds1, p1, q1, rfl, rfl, rfl, h1, r1⟩ := trodAll_cons r0
  obtain ⟨rfl, rfl, rfl⟩ := trodAll_nil r1
  obtain rfl : args = #[v0, v1] := by cases args; simp_all
  obtain ⟨rfl, rfl⟩ := trodVars_none hV
  obtain ⟨oa0, n0, c0, rfl⟩ := okWide_slice Tryz.underlying28 (hval 0 28 v0 rfl rfl)
  have k0 := h0
  have lt0 : ∀ x ∈ p0, x.block < W.heap.size := by obtain ⟨m, hm⟩ := k0; exact DataW.trod_lt m _ _ _ hm
  obtain ⟨l0, rfl, A0, C0, M0⟩ := h0.elim fun _ hf => Ew.events_openW hf
  have k1 := h1
  have lt1 : ∀ x ∈ p1, x.block < W.heap.size := by obtain ⟨m, hm⟩ := k1; exact DataW.trod_lt m _ _ _ hm
  have z1 : Sh.WL 25 d1 := fun m hm => by
    have := List.all_eq_true.1 hsz _ (DataW.weights_mem_each (j := 1) (t := 25) (d := d1) rfl rfl m hm)
    simpa using this
  obtain ⟨T1, M1, ps1, pl1, dr1, pa1, la1, da1, pc1, lc1, dc1, rfl, S1, H1⟩ := h1.elim fun _ hf => Sh.script_open hf z1
  clear hA0 hval0
  refine (core (w := W) oa0 l0 c0 A0 (Nat.le_trans C0 M0) T1 M1 ps1 pl1 dr1 pa1 la1 da1 pc1 lc1 dc1 S1 H1).mono fun e W' ⟨he, bel⟩ => ?_
  subst he
  exact ⟨_, rfl, _, _, _, [], _, [], hW', trodAll_mk1 (shut_bool Tryz.underlying4 _), (trodAll_cons_mk (Below.trod laidOut (by kernel_rfl) (of_decide_eq_true (by kernel_rfl)) k0 bel lt0) (trodAll_cons_mk (Below.trod laidOut (by kernel_rfl) (of_decide_eq_true (by kernel_rfl)) k1 bel lt1) trodAll_mk0)), rfl, bel.frame _, fun h => by cases h⟩

theorem over : Rows.gaugeCountsRow.holds Tryz.pinned (OpenSpec.ofChange Rows.gaugeCountsSpec) :=
  OpenClaim.holds_of_wide 4 Tryz.f4 rfl rfl rfl rfl rfl rfl rfl ⟨rfl, rfl, rfl, rfl, rfl⟩ rfl rfl rfl rfl rfl (by kernel_rfl) Tryz.func4 (by kernel_rfl)
    (of_decide_eq_true (by kernel_rfl)) (by unfold Func.isWrapper; first | (rw [if_pos (by decide +kernel)]; kernel_rfl) | (rw [if_neg (by decide +kernel)]; exact ⟨rfl, rfl⟩))
    (fun os started H enc _ => lifted os started H enc)

/-- the statement -/
theorem proved : Rows.GaugeCountsSaid := over
#print axioms proved
end Go.Proofs.YtkkgbeaaekmhfaaGreat.gaugeCounts
