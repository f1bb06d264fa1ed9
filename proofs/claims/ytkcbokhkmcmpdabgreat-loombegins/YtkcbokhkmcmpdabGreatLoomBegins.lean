/- A shorter plan gives a beginning of the trace. -/
import Derived.Test.YtkcbokhkmcmpdabGreatZjLb10
import Derived.ShutString
import Derived.ChangeOld
import Derived.Below
namespace Go.Proofs.YtkcbokhkmcmpdabGreat.loomBegins
open Go.ChangeShapes Go.WideShapes Go.ChangeAt Go.RowKit
open Go.ChangeMaps (open_string shut_string)
open Lo Ba Sh

theorem own : ownKnob Tryz.prog.godebug = none := by kernel_rfl
theorem laidOut : laidOutB Tryz.prog = true := by kernel_rfl

theorem plan_cap {H : Type} {enc : TypeId × Value → H} {w : World} {T M : Int} {pa la da : Option Addr} {a b c pc lc dc : Nat} {n : Nat} {x : DataW H × List MemPlace} (h : DataW.trod enc Tryz.prog w 0 (fun _ => true) true n 25 (Value.agg #[.int .i64 T, .int .i64 M, .slice pa a pc, .slice la b lc, .slice da c dc]).cells.toList = some x) : b ≤ lc := by
  obtain ⟨fs, hu, hsz, -, -, -, ⟨f3, g3, o3, t3⟩, -⟩ := fieldsS
  obtain ⟨xs, k, _, hxx, hcl, hxl, hff⟩ := DataW.trod_struct hu h
  rw [hsz] at hxl
  have h3 := hff 3 f3 g3
  rw [o3, t3, cells_ints] at h3
  rw [List.getElem?_eq_getElem (by omega)] at h3
  have e : ((Value.agg #[.int .i64 T, .int .i64 M, .slice pa a pc, .slice la b lc, .slice da c dc]).cells.toList.drop 3).take 1 = [.slice la b lc] := by rfl
  rw [e] at h3
  rcases Go.Deep.open_slice Tryz.underlying23 h3 with ⟨hcs, _⟩ | ⟨a, len, cap, m, n', D, Pl, hcs, _, hl, _⟩
  · simp at hcs; omega
  · simp at hcs; omega
/-- what comes back of a run of either kind -/
def RunP (w : World) (bad : Bool) (r : Ending) (w' : World) : Prop := ∃ (ob : Option Addr) (m d : Nat) (v : Int), r = .returned (.tuple #[.slice ob m d, .int .i64 v]) ∧ (bad = true → m = 0) ∧ Below w.heap.size w w'
theorem run_p (T M : Int) (ps : List (List OpD)) (pl dr : List Int) (pa la da : Option Addr) (pc lc dc : Nat) (w : World) (hS : Sh.SAt w ⟨T, M, ps, pl, dr⟩ pa la da) (b : Bool) (hb : b = true → Sh.schk ⟨T, M, ps, pl, dr⟩ ≠ 0) :
    Calls Tryz.prog 7 #[.agg #[.int .i64 T, .int .i64 M, .slice pa ps.length pc, .slice la pl.length lc, .slice da dr.length dc]] w (RunP w b) := by
  by_cases hx : Sh.schk ⟨T, M, ps, pl, dr⟩ = 0
  · refine (run_yes T M ps pl dr pa la da pc lc dc w hS hx _ rfl).mono ?_
    rintro r w1 ⟨ob, d, rfl, -, -, b1⟩
    exact ⟨ob, _, d, _, rfl, fun e => absurd hx (hb e), b1⟩
  · refine (run_no T M ps pl dr pa la da pc lc dc w hS hx).mono ?_
    rintro r w1 ⟨rfl, b1⟩
    exact ⟨none, 0, 0, 0, rfl, fun _ => rfl, b1⟩
set_option maxRecDepth 100000 in
set_option maxHeartbeats 3200000 in
theorem core {w : World} (T M : Int) (ps : List (List De.OpD)) (pl dr : List Int) (pa la da : Option Addr) (pc lc dc : Nat) (hS : Sh.SAt w ⟨T, M, ps, pl, dr⟩ pa la da) (hH : Sh.Held ps) (hcap : pl.length ≤ lc) (n : Int) :
    Calls Tryz.prog 3 #[.agg #[.int .i64 T, .int .i64 M, .slice pa ps.length pc, .slice la pl.length lc, .slice da dr.length dc], .int .i64 n] w fun r w' => r = .returned (.bool true) ∧ Below w.heap.size w w' := by
  have LG := hide (large13 T M ps pl dr pa la da pc lc dc (w.alloc (.cells #[.int .i64 T, .int .i64 M, .slice pa ps.length pc, .slice la pl.length lc, .slice da dr.length dc] 25)) (hS.below (below_alloc _ _)) hH)
  have HS := hide hS
  clear hS hH
  go_enter Tryz.func3, Tryz.ntmps3
  go_wp2_with fail
  refine LG.out.mono ?_
  rintro r w1 ⟨⟨b, rfl, hb⟩, b1⟩
  have E1 := hide (heap_below (heap_new w (.cells #[.int .i64 T, .int .i64 M, .slice pa ps.length pc, .slice la pl.length lc, .slice da dr.length dc] 25)) b1)
  have B1 := hide (btr (below_alloc w (.cells #[.int .i64 T, .int .i64 M, .slice pa ps.length pc, .slice la pl.length lc, .slice da dr.length dc] 25)) b1)
  have x0 := cell_of E1.out 0
  have x1 := cell_of E1.out 1
  have x2 := cell_of E1.out 2
  have x3 := cell_of E1.out 3
  have x4 := cell_of E1.out 4
  simp at x0 x1 x2 x3 x4
  clear b1 LG hb
  cases b
  case true =>
    go_wp2_with fail
    refine (hands_any _).mono ?_
    rintro r w2 ⟨rfl, b2⟩
    have B2 := hide (btr B1.out b2)
    clear b2
    go_wp2_with fail
    go_ret
    exact ⟨rfl, B2.out⟩
  case false =>
    by_cases hn0 : n < 0
    · have g0 : decide (n < 0) = true := by simp [hn0]
      go_wp2_with fail
      refine (hands_any _).mono ?_
      rintro r w2 ⟨rfl, b2⟩
      have B2 := hide (btr B1.out b2)
      clear b2
      go_wp2_with fail
      go_ret
      exact ⟨rfl, B2.out⟩
    by_cases hn1 : (pl.length : Int) < n
    · have g0 : decide (n < 0) = false := by simp; omega
      have g1 : decide ((pl.length : Int) < n) = true := by simp [hn1]
      go_wp2_with fail
      refine (hands_any _).mono ?_
      rintro r w2 ⟨rfl, b2⟩
      have B2 := hide (btr B1.out b2)
      clear b2
      go_wp2_with fail
      go_ret
      exact ⟨rfl, B2.out⟩
    obtain ⟨k, rfl⟩ : ∃ k : Nat, n = (k : Int) := ⟨n.toNat, by omega⟩
    have hk : k ≤ pl.length := by omega
    have hkl : (k : Int) ≤ (lc : Int) := by omega
    have g0 : decide ((k : Int) < 0) = false := by simp
    have g1 : decide ((pl.length : Int) < (k : Int)) = false := by simp; omega
    have htl : (pl.take k).length = k := by rw [List.length_take]; omega
    clear hn0 hn1
    have RX := hide (fun u (q : Sh.SAt u ⟨T, M, ps, pl, dr⟩ pa la da) (b : Bool) (hb : b = true → Sh.schk ⟨T, M, ps, pl.take k, dr⟩ ≠ 0) => run_p T M ps (pl.take k) dr pa la da pc lc dc u (sat_take q k) b hb)
    rw [htl] at RX
    have CK := hide (fun u (q : Sh.SAt u ⟨T, M, ps, pl, dr⟩ pa la da) => Sh.scheck_any T M ps pl dr pa la da pc lc dc u q)
    by_cases hs : Sh.schk ⟨T, M, ps, pl, dr⟩ = 0
    case neg =>
      have RN := hide (run_p T M ps pl dr pa la da pc lc dc w1 (HS.out.below B1.out) true (fun _ => hs))
      generalize Sh.schk ⟨T, M, ps, pl, dr⟩ = z at CK hs
      have hs' : (z != 0) = true := by simp [hs]
      go_wp2_with fail
      refine RN.out.mono ?_
      rintro r w2 ⟨ob, m, d, v, rfl, hm, b2⟩
      obtain rfl := hm rfl
      have B2 := hide (btr B1.out b2)
      have E2 := hide (heap_below E1.out b2)
      have x0 := cell_of E2.out 0
      have x1 := cell_of E2.out 1
      have x2 := cell_of E2.out 2
      have x3 := cell_of E2.out 3
      have x4 := cell_of E2.out 4
      simp at x0 x1 x2 x3 x4
      have z3 := cell_of (heap_below E2.out (below_alloc w2 (.cells #[.int .i64 T, .int .i64 M, .slice pa ps.length pc, .slice la pl.length lc, .slice da dr.length dc] 25))) 3
      simp at z3
      clear b2 RN hm
      go_wp2_with fail
      have B3 := hide (btr B2.out (below_alloc w2 (.cells #[.int .i64 T, .int .i64 M, .slice pa ps.length pc, .slice la k lc, .slice da dr.length dc] 25)))
      have E3 := hide (heap_below E2.out (below_alloc w2 (.cells #[.int .i64 T, .int .i64 M, .slice pa ps.length pc, .slice la k lc, .slice da dr.length dc] 25)))
      refine (RX.out _ (HS.out.below B3.out) false (by simp)).mono ?_
      rintro r w4 ⟨oc, m2, e, v2, rfl, -, b4⟩
      have B4 := hide (btr B3.out b4)
      have E4 := hide (heap_below E3.out b4)
      have x0 := cell_of E4.out 0
      have x1 := cell_of E4.out 1
      have x2 := cell_of E4.out 2
      have x3 := cell_of E4.out 3
      have x4 := cell_of E4.out 4
      simp at x0 x1 x2 x3 x4
      have CK4 := hide (CK.out w4 (HS.out.below B4.out))
      clear b4 CK RX
      go_wp2_with fail
      refine CK4.out.mono ?_
      rintro r w5 ⟨rfl, b5⟩
      have B5 := hide (btr B4.out b5)
      clear b5 CK4
      go_wp2_with fail
      refine (hands_any _).mono ?_
      rintro r w6 ⟨rfl, b6⟩
      have B6 := hide (btr B5.out b6)
      clear b6
      go_wp2_with fail
      go_ret
      exact ⟨rfl, B6.out⟩
    case pos =>
      clear RX
      rw [hs] at CK
      obtain ⟨R, hR⟩ : ∃ R, runF ⟨T, M, ps, pl, dr⟩ = R := ⟨_, rfl⟩
      obtain ⟨R2, hR2⟩ : ∃ R2, runF ⟨T, M, ps, pl.take k, dr⟩ = R2 := ⟨_, rfl⟩
      obtain ⟨lx, e1⟩ := begins (T := T) (M := M) (ps := ps) (pl := pl) (dr := dr) k
      have hv2 := run_over (schk_take k hs)
      rw [hR, hR2] at e1
      rw [hR2] at hv2
      have hlen : R.tr.length ≤ 80400 := by
        obtain ⟨k, -, i, -⟩ := Inv.steps hs pl.length
        have h1 := kn_le (i.n200 hs)
        have h2 := i.b.bw.tn
        have h3 : (stepsF pl.length (newS ⟨T, M, ps, pl, dr⟩)).tr.length = R.tr.length := by rw [← hR]; rfl
        omega
      have hle : R2.tr.length ≤ R.tr.length := by rw [e1, List.length_append]; omega
      have RN := hide (run_yes T M ps pl dr pa la da pc lc dc w1 (HS.out.below B1.out) hs R hR)
      have RB := hide (fun u (q : Sh.SAt u ⟨T, M, ps, pl, dr⟩ pa la da) => run_yes T M ps (pl.take k) dr pa la da pc lc dc u (sat_take q k) (schk_take k hs) R2 hR2)
      rw [htl] at RB
      have ET := hide e1
      clear hR hR2 e1
      generalize verd R = V at RN
      generalize verd R2 = V2 at RB hv2
      have hv2' : (V2 != 0) = true := by simp [hv2]
      go_wp2_with fail
      refine RN.out.mono ?_
      rintro r w2 ⟨ob, d, rfl, es2, n2, b2⟩
      have hd : (R2.tr.length : Int) ≤ (d : Int) := by have := n2.1; omega
      have gl : decide ((R2.tr.length : Int) ≤ (R.tr.length : Int)) = true := by simp; omega
      have B2 := hide (btr B1.out b2)
      have E2 := hide (heap_below E1.out b2)
      have ES2 : Hid (EsAt w2 ob R2.tr) := es_pre (m := lx) (by rw [← ET.out]; exact es2)
      have x0 := cell_of E2.out 0
      have x1 := cell_of E2.out 1
      have x2 := cell_of E2.out 2
      have x3 := cell_of E2.out 3
      have x4 := cell_of E2.out 4
      simp at x0 x1 x2 x3 x4
      have z3 := cell_of (heap_below E2.out (below_alloc w2 (.cells #[.int .i64 T, .int .i64 M, .slice pa ps.length pc, .slice la pl.length lc, .slice da dr.length dc] 25))) 3
      simp at z3
      clear b2 RN es2 n2 ET
      go_wp2_with fail
      have B23 := hide (below_alloc w2 (.cells #[.int .i64 T, .int .i64 M, .slice pa ps.length pc, .slice la k lc, .slice da dr.length dc] 25))
      have B3 := hide (btr B2.out B23.out)
      have E3 := hide (heap_below E2.out B23.out)
      have ES3 := hide (ES2.out.below B23.out)
      refine (RB.out _ (HS.out.below B3.out)).mono ?_
      rintro r w4 ⟨oc, e, rfl, es4, -, b4⟩
      have B4 := hide (btr B3.out b4)
      have E4 := hide (heap_below E3.out b4)
      have ES4 := hide (ES3.out.below b4)
      have FS4 := hide es4
      have x0 := cell_of E4.out 0
      have x1 := cell_of E4.out 1
      have x2 := cell_of E4.out 2
      have x3 := cell_of E4.out 3
      have x4 := cell_of E4.out 4
      simp at x0 x1 x2 x3 x4
      have CK4 := hide (CK.out w4 (HS.out.below B4.out))
      clear b4 es4 CK RB
      go_wp2_with fail
      refine CK4.out.mono ?_
      rintro r w5 ⟨rfl, b5⟩
      have B5 := hide (btr B4.out b5)
      have EQ := hide (fun d => events_same oc ob R2.tr e d w5 (FS4.out.below b5) (ES4.out.below b5) (by omega))
      clear b5 CK4
      generalize R2.tr.length = m2 at *
      go_wp2_with fail
      refine (EQ.out _).mono ?_
      rintro r w6 ⟨rfl, b6⟩
      have B6 := hide (btr B5.out b6)
      clear b6 EQ
      go_wp2_with fail
      refine (hands_any _).mono ?_
      rintro r w7 ⟨rfl, b7⟩
      have B7 := hide (btr B6.out b7)
      clear b7
      go_wp2_with fail
      go_ret
      exact ⟨rfl, B7.out⟩

/-! ### the row -/
set_option maxRecDepth 100000 in
theorem lifted (os : Os) (started : os.Started) (H : Type) (enc : TypeId × Value → H) :
    ReturnsInHanded {} Tryz.checked os 3 .any (Rows.loomBeginsSpec.pre6 enc Tryz.prog Tryz.f3 Rows.loomBeginsRow.domain false) (Rows.loomBeginsSpec.post enc Tryz.prog Tryz.f3 false true false false) := by
  refine returnsInHanded_of_change_sized (C := Tryz.checked) own started (by kernel_rfl) Tryz.func3
    (ChangeSpec.witness6 (enc := enc) (C := Tryz.checked) false ⟨#[], #[.agg #[.int .i64 0, .int .i64 0, .slice none 0 0, .slice none 0 0, .slice none 0 0], .int .i64 0], []⟩ 8 (by kernel_rfl) (by kernel_rfl) (by kernel_rfl) (by kernel_rfl)) ?_
  intro W base args ds gs before hval0 hW hcnd hsz0 _
  have hval : ∀ (j : Nat) t v, Tryz.f3.params[j]? = some t → args[j]? = some v → Value.okWide Tryz.prog W .any base t v := hval0
  have hW' := hW
  obtain ⟨p, q, hA0, hV, rfl, hfz, hnd⟩ := hW
  have hA : DataW.TrodAll enc Tryz.prog W 0 (fun _ => true) true Tryz.f3.params.toList args.toList ds p := hA0
  rw [Tryz.params3] at hA hval
  have hsz : (DataW.weightsEach Tryz.prog (Tryz.f3.params.toList ++ Rows.loomBeginsSpec.plain.varTypes Tryz.prog) (ds ++ gs)).all (· ≤ reachBytes) = true := hsz0
  clear hsz0
  rw [Tryz.params3] at hsz
  obtain ⟨v0, vs0, d0, ds0, p0, q0, hargs, rfl, rfl, h0, r0⟩ := trodAll_cons hA
  obtain ⟨v1, vs1, d1, ds1, p1, q1, rfl, rfl, rfl, h1, r1⟩ := trodAll_cons r0
  obtain ⟨rfl, rfl, rfl⟩ := trodAll_nil r1
  obtain rfl : args = #[v0, v1] := by cases args; simp_all
  obtain ⟨rfl, rfl⟩ := trodVars_none hV
  have k0 := h0
  have lt0 : ∀ x ∈ p0, x.block < W.heap.size := by obtain ⟨m, hm⟩ := k0; exact DataW.trod_lt m _ _ _ hm
  have z0 : WL 25 d0 := fun m hm => by
    have := List.all_eq_true.1 hsz _ (DataW.weights_mem_each (j := 0) (t := 25) (d := d0) rfl rfl m hm)
    simpa using this
  obtain ⟨T0, M0, ps0, pl0, dr0, pa0, la0, da0, pc0, lc0, dc0, rfl, S0, H0⟩ := h0.elim fun _ hf => script_open hf z0
  have cap0 := k0.elim fun _ hf => plan_cap hf
  obtain ⟨a1, rfl, rfl, rfl, w1⟩ := open_int Tryz.underlying3 (hval 1 3 v1 rfl rfl) h1
  clear hA0 hval0
  refine (core (w := W) T0 M0 ps0 pl0 dr0 pa0 la0 da0 pc0 lc0 dc0 S0 H0 cap0 a1).mono fun e W' ⟨he, bel⟩ => ?_
  subst he
  exact ⟨_, rfl, _, _, _, [], _, [], hW', trodAll_mk1 (shut_bool Tryz.underlying4 _), (trodAll_cons_mk (Below.trod laidOut (by kernel_rfl) (of_decide_eq_true (by kernel_rfl)) k0 bel lt0) (trodAll_cons_mk (shut_int Tryz.underlying3 w1) trodAll_mk0)), rfl, bel.frame _, fun h => by cases h⟩

theorem over : Rows.loomBeginsRow.holds Tryz.pinned (OpenSpec.ofChange Rows.loomBeginsSpec) :=
  OpenClaim.holds_of_wide 3 Tryz.f3 rfl rfl rfl rfl rfl rfl rfl ⟨rfl, rfl, rfl, rfl, rfl⟩ rfl rfl rfl rfl rfl (by kernel_rfl) Tryz.func3 (by kernel_rfl)
    (of_decide_eq_true (by kernel_rfl)) (by unfold Func.isWrapper; first | (rw [if_pos (by decide +kernel)]; kernel_rfl) | (rw [if_neg (by decide +kernel)]; exact ⟨rfl, rfl⟩))
    (fun os started H enc _ => lifted os started H enc)

/-- the statement -/
theorem proved : Rows.LoomBeginsSaid := over
#print axioms proved
end Go.Proofs.YtkcbokhkmcmpdabGreat.loomBegins
