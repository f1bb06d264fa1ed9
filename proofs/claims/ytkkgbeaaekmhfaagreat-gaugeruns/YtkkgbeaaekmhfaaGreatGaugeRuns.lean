/- What is proved: the trace of every script's run keeps all rules, and so does each beginning of it, but for a service that is still missing at its end; no condition. -/
import Derived.Test.YtkkgbeaaekmhfaaGreatZjGl12
import Derived.Test.YtkkgbeaaekmhfaaGreatQr9
import Derived.ShutString
import Derived.ChangeOld
import Derived.Below
namespace Go.Proofs.YtkkgbeaaekmhfaaGreat.gaugeRuns
open Go.ChangeShapes Go.WideShapes Go.ChangeAt Go.RowKit
open Go.ChangeMaps (open_string shut_string)
open Lo Ba

theorem own : ownKnob Tryz.prog.godebug = none := by kernel_rfl
theorem laidOut : laidOutB Tryz.prog = true := by kernel_rfl

theorem es_take {w : World} {oa : Option Addr} {l : List En.Ev} (h : Gu.EsAt w oa l) (n : Nat) : Gu.EsAt w oa (l.take n) := fun k e hk => h k e (by
  rw [List.getElem?_take] at hk
  split at hk
  · exact hk
  · cases hk)
theorem last_take {l : List En.Ev} {k : Nat} {e : En.Ev} (h : l[k]? = some e) : (l.take (k + 1)).getLast?.any Gu.serves = Gu.serves e := by
  rw [List.take_add_one, h]
  simp
set_option maxRecDepth 100000 in
set_option maxHeartbeats 6400000 in
theorem core {w : World} (T M : Int) (ps : List (List De.OpD)) (pl dr : List Int) (pa la da : Option Addr) (pc lc dc : Nat) (hS : Sh.SAt w ⟨T, M, ps, pl, dr⟩ pa la da) (_hH : Sh.Held ps) (n : Int) :
    Calls Tryz.prog 3 #[.agg #[.int .i64 T, .int .i64 M, .slice pa ps.length pc, .slice la pl.length lc, .slice da dr.length dc], .int .i64 n] w fun r w' => r = .returned (.bool true) ∧ Below w.heap.size w w' := by
  have LG := hide (large14 T M ps pl dr pa la da pc lc dc (w.alloc (.cells #[.int .i64 T, .int .i64 M, .slice pa ps.length pc, .slice la pl.length lc, .slice da dr.length dc] 25)) (hS.below (below_alloc _ _)))
  have HS := hide hS
  have E0 := hide (heap_new w (.cells #[.int .i64 T, .int .i64 M, .slice pa ps.length pc, .slice la pl.length lc, .slice da dr.length dc] 25))
  have B0 := hide (below_alloc w (.cells #[.int .i64 T, .int .i64 M, .slice pa ps.length pc, .slice la pl.length lc, .slice da dr.length dc] 25))
  clear hS
  go_enter Tryz.func3, Tryz.ntmps3
  go_wp2_with fail
  refine LG.out.mono ?_
  rintro r w1 ⟨⟨b, rfl⟩, b1⟩
  have E1 := hide (heap_below E0.out b1)
  have B1 := hide (btr B0.out b1)
  clear b1 LG E0 B0
  cases b
  case true =>
    go_wp2_with fail
    refine (Gu.exits_any _).mono ?_
    rintro r w2 ⟨rfl, b2⟩
    have B2 := hide (btr B1.out b2)
    clear b2
    go_wp2_with fail
    go_ret
    exact ⟨rfl, B2.out⟩
  case false =>
    obtain ⟨x0, x1, x2, x3, x4⟩ := Sh.sc_cells E1.out
    have RX := hide (run_x T M ps pl dr pa la da pc lc dc w1 (HS.out.below B1.out))
    go_wp2_with fail
    refine RX.out.mono ?_
    rintro r w2 ⟨ob, l, d, v, rfl, es2, hd, ok, b2⟩
    have OK := hide ok
    have hl := ok.1
    have B2 := hide (btr B1.out b2)
    have ES2 := hide es2
    have GC := hide (Gu.gcheck_any ob l d w2 es2 (by omega))
    clear es2 ok b2 RX x0 x1 x2 x3 x4 E1 B1
    obtain ⟨NL, hNL⟩ : ∃ NL, l.length = NL := ⟨_, rfl⟩
    have HNL := hide hNL
    rw [hNL] at hd hl GC ⊢
    clear hNL
    go_wp2_with fail
    refine GC.out.mono ?_
    rintro r w3 ⟨⟨cn, ca, rfl, hc⟩, b3⟩
    obtain ⟨rfl, rfl⟩ := hc.eq OK.out.all
    have B3 := hide (btr B2.out b3)
    have ES3 := hide (ES2.out.below b3)
    clear hc b3 GC B2 ES2
    by_cases n0 : n < 0
    · have d0 : decide (n < 0) = true := decide_eq_true n0
      go_wp2_with fail
      refine (Gu.exits_any _).mono ?_
      rintro r w4 ⟨rfl, b4⟩
      have B4 := hide (btr B3.out b4)
      clear b4
      go_wp2_with fail
      go_ret
      exact ⟨rfl, B4.out⟩
    have d0 : decide (n < 0) = false := decide_eq_false n0
    by_cases n1 : (NL : Int) < n
    · have d1 : decide ((NL : Int) < n) = true := decide_eq_true n1
      go_wp2_with fail
      refine (Gu.exits_any _).mono ?_
      rintro r w4 ⟨rfl, b4⟩
      have B4 := hide (btr B3.out b4)
      clear b4
      go_wp2_with fail
      go_ret
      exact ⟨rfl, B4.out⟩
    have d1 : decide ((NL : Int) < n) = false := decide_eq_false n1
    obtain ⟨k, rfl⟩ : ∃ k : Nat, n = (k : Int) := ⟨n.toNat, by omega⟩
    have hk : k ≤ NL := by omega
    have hkd : k ≤ d := by omega
    have hkd' : (k : Int) ≤ (d : Int) := by omega
    have d1' : decide (NL < k) = false := by simp; omega
    have ltk : (l.take k).length = k := by rw [List.length_take, HNL.out]; omega
    have GC2 := hide (Gu.gcheck_any ob (l.take k) d w3 (es_take ES3.out k) (by rw [ltk]; omega))
    have PR := hide (OK.out.pre k)
    rw [ltk] at GC2 PR
    clear ltk n0 n1
    cases hsv : (l.take k).getLast?.any Gu.serves
    · rw [hsv] at PR
      simp only [Bool.false_eq_true, if_false] at PR
      go_wp2_with fail
      refine GC2.out.mono ?_
      rintro r w4 ⟨⟨cn, ca, rfl, hc⟩, b4⟩
      obtain ⟨rfl, rfl⟩ := hc.eq PR.out
      have B4 := hide (btr B3.out b4)
      have ES4 := hide (ES3.out.below b4)
      clear hc b4 GC2 PR B3 ES3
      by_cases hk0 : k = 0
      · subst hk0
        have d2 : decide ((0 : Int) < ((0 : Nat) : Int)) = false := by decide
        go_wp2_with fail
        refine (Gu.exits_any _).mono ?_
        rintro r w5 ⟨rfl, b5⟩
        have B5 := hide (btr B4.out b5)
        clear b5
        go_wp2_with fail
        go_ret
        exact ⟨rfl, B5.out⟩
      · obtain ⟨j, hj⟩ : ∃ j : Nat, k = j + 1 := ⟨k - 1, by omega⟩
        have hjk : (k : Int) - 1 = (j : Int) := by omega
        have hjn : j < NL := by omega
        have hjn' : (j : Int) < (NL : Int) := by omega
        have d2 : decide ((0 : Int) < (k : Int)) = true := by simp; omega
        have d2' : decide (0 < k) = true := by simp; omega
        obtain ⟨e, he⟩ : ∃ e, l[j]? = some e := ⟨_, List.getElem?_eq_getElem (by rw [HNL.out]; omega)⟩
        have hse : Gu.serves e = false := by rw [← last_take he, ← hj]; exact hsv
        obtain ⟨b1, o1, rfl, -⟩ := ES4.out j e he
        obtain ⟨p0, p1, p2, p3, p4, p5, p6, p7⟩ := ES4.out.read he
        have SV := hide (Gu.rserves_any e w4)
        rw [hse] at SV
        unfold En.evv En.evc at SV
        clear he hse hsv hj hk0
        go_wp2_with fail
        refine SV.out.mono ?_
        rintro r w5 ⟨rfl, b5⟩
        have B5 := hide (btr B4.out b5)
        clear b5 SV
        go_wp2_with fail
        refine (Gu.exits_any _).mono ?_
        rintro r w6 ⟨rfl, b6⟩
        have B6 := hide (btr B5.out b6)
        clear b6
        go_wp2_with fail
        go_ret
        exact ⟨rfl, B6.out⟩
    · rw [hsv] at PR
      simp only [if_true] at PR
      go_wp2_with fail
      refine GC2.out.mono ?_
      rintro r w4 ⟨⟨cn, ca, rfl, hc⟩, b4⟩
      obtain ⟨rfl, rfl⟩ := hc.eq PR.out
      have B4 := hide (btr B3.out b4)
      have ES4 := hide (ES3.out.below b4)
      clear hc b4 GC2 PR B3 ES3
      by_cases hk0 : k = 0
      · exfalso; subst hk0; simp at hsv
      · obtain ⟨j, hj⟩ : ∃ j : Nat, k = j + 1 := ⟨k - 1, by omega⟩
        have hjk : (k : Int) - 1 = (j : Int) := by omega
        have hjn : j < NL := by omega
        have hjn' : (j : Int) < (NL : Int) := by omega
        have d2 : decide ((0 : Int) < (k : Int)) = true := by simp; omega
        have d2' : decide (0 < k) = true := by simp; omega
        obtain ⟨e, he⟩ : ∃ e, l[j]? = some e := ⟨_, List.getElem?_eq_getElem (by rw [HNL.out]; omega)⟩
        have hse : Gu.serves e = true := by rw [← last_take he, ← hj]; exact hsv
        obtain ⟨b1, o1, rfl, -⟩ := ES4.out j e he
        obtain ⟨p0, p1, p2, p3, p4, p5, p6, p7⟩ := ES4.out.read he
        have SV := hide (Gu.rserves_any e w4)
        rw [hse] at SV
        unfold En.evv En.evc at SV
        clear he hse hsv hj hk0
        go_wp2_with fail
        refine SV.out.mono ?_
        rintro r w5 ⟨rfl, b5⟩
        have B5 := hide (btr B4.out b5)
        clear b5 SV
        have kk : ((k : Int) == (k : Int)) = true := by simp
        go_wp2_with fail
        refine (Gu.exits_any _).mono ?_
        rintro r w6 ⟨rfl, b6⟩
        have B6 := hide (btr B5.out b6)
        clear b6
        go_wp2_with fail
        go_ret
        exact ⟨rfl, B6.out⟩

/-! ### the row -/
set_option maxRecDepth 100000 in
theorem lifted (os : Os) (started : os.Started) (H : Type) (enc : TypeId × Value → H) :
    ReturnsInHanded {} Tryz.checked os 3 .any (Rows.gaugeRunsSpec.pre6 enc Tryz.prog Tryz.f3 Rows.gaugeRunsRow.domain false) (Rows.gaugeRunsSpec.post enc Tryz.prog Tryz.f3 false true false false) := by
  refine returnsInHanded_of_change_sized (C := Tryz.checked) own started (by kernel_rfl) Tryz.func3
    (ChangeSpec.witness6 (enc := enc) (C := Tryz.checked) false ⟨#[], #[.agg #[.int .i64 0, .int .i64 0, .slice none 0 0, .slice none 0 0, .slice none 0 0], .int .i64 0], []⟩ 8 (by kernel_rfl) (by kernel_rfl) (by kernel_rfl) (by kernel_rfl)) ?_
  intro W base args ds gs before hval0 hW hcnd hsz0 _
  have hval : ∀ (j : Nat) t v, Tryz.f3.params[j]? = some t → args[j]? = some v → Value.okWide Tryz.prog W .any base t v := hval0
  have hW' := hW
  obtain ⟨p, q, hA0, hV, rfl, hfz, hnd⟩ := hW
  have hA : DataW.TrodAll enc Tryz.prog W 0 (fun _ => true) true Tryz.f3.params.toList args.toList ds p := hA0
  rw [Tryz.params3] at hA hval
  have hsz : (DataW.weightsEach Tryz.prog (Tryz.f3.params.toList ++ Rows.gaugeRunsSpec.plain.varTypes Tryz.prog) (ds ++ gs)).all (· ≤ reachBytes) = true := hsz0
  clear hsz0
  rw [Tryz.params3] at hsz
  obtain ⟨v0, vs0, d0, ds0, p0, q0, hargs, rfl, rfl, h0, r0⟩ := trodAll_cons hA
  obtain ⟨v1, vs1, d1, ds1, p1, q1, rfl, rfl, rfl, h1, r1⟩ := trodAll_cons r0
  obtain ⟨rfl, rfl, rfl⟩ := trodAll_nil r1
  obtain rfl : args = #[v0, v1] := by cases args; simp_all
  obtain ⟨rfl, rfl⟩ := trodVars_none hV
  have k0 := h0
  have lt0 : ∀ x ∈ p0, x.block < W.heap.size := by obtain ⟨m, hm⟩ := k0; exact DataW.trod_lt m _ _ _ hm
  have z0 : Sh.WL 25 d0 := fun m hm => by
    have := List.all_eq_true.1 hsz _ (DataW.weights_mem_each (j := 0) (t := 25) (d := d0) rfl rfl m hm)
    simpa using this
  obtain ⟨T0, M0, ps0, pl0, dr0, pa0, la0, da0, pc0, lc0, dc0, rfl, S0, H0⟩ := h0.elim fun _ hf => Sh.script_open hf z0
  obtain ⟨a1, rfl, rfl, rfl, w1⟩ := open_int Tryz.underlying3 (hval 1 3 v1 rfl rfl) h1
  clear hA0 hval0
  refine (core (w := W) T0 M0 ps0 pl0 dr0 pa0 la0 da0 pc0 lc0 dc0 S0 H0 a1).mono fun e W' ⟨he, bel⟩ => ?_
  subst he
  exact ⟨_, rfl, _, _, _, [], _, [], hW', trodAll_mk1 (shut_bool Tryz.underlying4 _), (trodAll_cons_mk (Below.trod laidOut (by kernel_rfl) (of_decide_eq_true (by kernel_rfl)) k0 bel lt0) (trodAll_cons_mk (shut_int Tryz.underlying3 w1) trodAll_mk0)), rfl, bel.frame _, fun h => by cases h⟩

theorem over : Rows.gaugeRunsRow.holds Tryz.pinned (OpenSpec.ofChange Rows.gaugeRunsSpec) :=
  OpenClaim.holds_of_wide 3 Tryz.f3 rfl rfl rfl rfl rfl rfl rfl ⟨rfl, rfl, rfl, rfl, rfl⟩ rfl rfl rfl rfl rfl (by kernel_rfl) Tryz.func3 (by kernel_rfl)
    (of_decide_eq_true (by kernel_rfl)) (by unfold Func.isWrapper; first | (rw [if_pos (by decide +kernel)]; kernel_rfl) | (rw [if_neg (by decide +kernel)]; exact ⟨rfl, rfl⟩))
    (fun os started H enc _ => lifted os started H enc)

/-- the statement -/
theorem proved : Rows.GaugeRunsSaid := over
#print axioms proved
end Go.Proofs.YtkkgbeaaekmhfaaGreat.gaugeRuns
