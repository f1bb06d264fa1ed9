/- Each run ends with one verdict, behind at most as many steps as the plan has entries, and all its events are right; what is not right is Malformed and does nothing (13.2): of every script that is not large. -/
import Derived.Test.YtmfaepelghikiaaGreatZjLe12
import Derived.ShutString
import Derived.ChangeOld
import Derived.Below
namespace Go.Proofs.YtmfaepelghikiaaGreat.loomEnds
open Go.ChangeShapes Go.WideShapes Go.ChangeAt Go.RowKit
open Go.ChangeMaps (open_string shut_string)
open Lo Ba Sh

theorem own : ownKnob Tryz.prog.godebug = none := by kernel_rfl
theorem laidOut : laidOutB Tryz.prog = true := by kernel_rfl

theorem verd_rng {s : Lm} (h : verd s ≠ 0) : 1 ≤ verd s ∧ verd s ≤ 4 := by
  unfold verd at h ⊢
  unfold Cr.ovr at h ⊢
  by_cases a : s.pk = true
  · rw [if_pos a]; omega
  · rw [if_neg a] at h ⊢
    by_cases b : Cr.hasS s.cr 0 = true
    · simp only [b, if_true] at h ⊢
      by_cases c : s.p.length = 0
      · simp [c]
      · simp [c] at h
    · simp only [Bool.not_eq_true] at b
      simp only [b]
      by_cases c : Cr.hasS s.cr 1 = true
      · simp [c]
      · simp [c]
theorem step_told {sc : Sh.Sc} {n : Nat} {s : Lm} (hs : Sh.schk sc = 0) (i : Inv sc n s) (hv : verd s = 0) : s.tr.length < (stepF s).tr.length := by
  obtain ⟨-, -, -, -, -, h6, -⟩ := schk_ok hs
  by_cases ht : nth s.p 0 = -1
  · unfold stepF
    rw [if_neg (by omega), if_pos ht]
    simp [tellS]
  · have ht0 : 0 ≤ nth s.p 0 := by
      have hpl : 0 < s.p.length := by
        rcases Nat.eq_zero_or_pos s.p.length with z | z
        · exfalso
          unfold verd at hv
          rw [if_pos z] at hv
          split at hv
          · omega
          · split at hv <;> omega
        · exact z
      have hm : nth s.p 0 ∈ sc.pl := by
        rw [nth_lt _ _ hpl]
        have hsub : ∀ x ∈ s.p, x ∈ sc.pl := fun x hx => by
          rw [i.p] at hx
          exact List.mem_of_mem_drop hx
        exact hsub _ (List.getElem_mem hpl)
      have := h6 _ hm
      omega
    obtain ⟨j, y, hwk, hky, -⟩ := who_ok hv ht0
    obtain ⟨e, l, h⟩ := sp_do (s := { s with p := s.p.tail }) (g := whoN s) (op_chk hs i (whoN s)) i.d (by rw [hwk]; omega)
    unfold stepF
    rw [if_neg (by omega), if_neg ht, h]
    simp
theorem tr_below {col cj : Nat → Nat} {w w4 wr : World} (b : Below w.heap.size w w4) (h7 : ∀ x, x < w.heap.size → col x = 7) (q : Tr col cj w4 wr) : Below w.heap.size w wr :=
  ⟨q.os.trans b.os, q.tape.trans b.tape, q.output.trans b.output, Nat.le_trans b.size q.size, fun x hx => (q.block x (Nat.lt_of_lt_of_le hx b.size) (by rw [h7 x hx]; omega)).trans (b.block x hx)⟩
set_option maxRecDepth 100000 in
set_option maxHeartbeats 3200000 in
theorem core {w : World} (T M : Int) (ps : List (List De.OpD)) (pl dr : List Int) (pa la da : Option Addr) (pc lc dc : Nat) (hS : Sh.SAt w ⟨T, M, ps, pl, dr⟩ pa la da) (hH : Sh.Held ps) :
    Calls Tryz.prog 5 #[.agg #[.int .i64 T, .int .i64 M, .slice pa ps.length pc, .slice la pl.length lc, .slice da dr.length dc]] w fun r w' => r = .returned (.bool true) ∧ Below w.heap.size w w' := by
  have LG := hide (large13 T M ps pl dr pa la da pc lc dc (w.alloc (.cells #[.int .i64 T, .int .i64 M, .slice pa ps.length pc, .slice la pl.length lc, .slice da dr.length dc] 25)) (hS.below (below_alloc _ _)) hH)
  have HS := hide hS
  clear hS hH
  go_enter Tryz.func5, Tryz.ntmps5
  go_wp2_with fail
  refine LG.out.mono ?_
  rintro r w1 ⟨⟨b, rfl, hb⟩, b1⟩
  have E1 := hide (heap_below (heap_new w (.cells #[.int .i64 T, .int .i64 M, .slice pa ps.length pc, .slice la pl.length lc, .slice da dr.length dc] 25)) b1)
  have B1 := hide (btr (below_alloc w (.cells #[.int .i64 T, .int .i64 M, .slice pa ps.length pc, .slice la pl.length lc, .slice da dr.length dc] 25)) b1)
  have x0 := cell_of E1.out 0
  have x1 := cell_of E1.out 1
  have x2 := cell_of E1.out 2
  have x3 := cell_of E1.out 3
  have x4 := cell_of E1.out 4
  simp at x0 x1 x2 x3 x4
  clear b1 LG hb
  cases b
  case true =>
    go_wp2_with fail
    refine (hands_any _).mono ?_
    rintro r w2 ⟨rfl, b2⟩
    have B2 := hide (btr B1.out b2)
    clear b2
    go_wp2_with fail
    go_ret
    exact ⟨rfl, B2.out⟩
  case false =>
    have CK := hide (fun u (q : Sh.SAt u ⟨T, M, ps, pl, dr⟩ pa la da) => Sh.scheck_any T M ps pl dr pa la da pc lc dc u q)
    by_cases hs : Sh.schk ⟨T, M, ps, pl, dr⟩ = 0
    case neg =>
      have RN := hide (run_no T M ps pl dr pa la da pc lc dc w1 (HS.out.below B1.out) hs)
      generalize Sh.schk ⟨T, M, ps, pl, dr⟩ = z at CK hs
      have hs' : (z != 0) = true := by simp [hs]
      go_wp2_with fail
      refine RN.out.mono ?_
      rintro r w2 ⟨rfl, b2⟩
      have B2 := hide (btr B1.out b2)
      have E2 := hide (heap_below E1.out b2)
      have x0 := cell_of E2.out 0
      have x1 := cell_of E2.out 1
      have x2 := cell_of E2.out 2
      have x3 := cell_of E2.out 3
      have x4 := cell_of E2.out 4
      simp at x0 x1 x2 x3 x4
      have CK2 := hide (CK.out w2 (HS.out.below B2.out))
      clear b2 RN CK
      go_wp2_with fail
      refine CK2.out.mono ?_
      rintro r w3 ⟨rfl, b3⟩
      have B3 := hide (btr B2.out b3)
      clear b3 CK2
      go_wp2_with fail
      refine (hands_any _).mono ?_
      rintro r w4 ⟨rfl, b4⟩
      have B4 := hide (btr B3.out b4)
      clear b4
      go_wp2_with fail
      go_ret
      exact ⟨rfl, B4.out⟩
    case pos =>
      rw [hs] at CK
      obtain ⟨R, hR⟩ : ∃ R, runF ⟨T, M, ps, pl, dr⟩ = R := ⟨_, rfl⟩
      have hlen : R.tr.length ≤ 80400 := by
        obtain ⟨k, -, i, -⟩ := Inv.steps hs pl.length
        have h1 := kn_le (i.n200 hs)
        have h2 := i.b.bw.tn
        have h3 : (stepsF pl.length (newS ⟨T, M, ps, pl, dr⟩)).tr.length = R.tr.length := by rw [← hR]; rfl
        omega
      have h200 : pl.length ≤ 200 := (schk_ok hs).2.2.1
      have hro : verd R ≠ 0 := by rw [← hR]; exact run_over hs
      have hrg := verd_rng hro
      have RT : Hid (∀ e ∈ R.tr, En.chk e = 0) := by rw [← hR]; exact right hs
      have RN := hide (run_yes T M ps pl dr pa la da pc lc dc w1 (HS.out.below B1.out) hs R hR)
      have NE := hide (fun u q => new_yes T M ps pl dr pa la da pc lc dc u q hs)
      have HR := hide hR
      clear hR
      obtain ⟨V, hV⟩ : ∃ V, verd R = V := ⟨_, rfl⟩
      have HV := hide hV
      rw [hV] at RN hro hrg
      clear hV
      have gv1 : decide (V < 1) = false := by simp; omega
      have gv2 : decide (4 < V) = false := by simp; omega
      have gv0 : (V == 0) = false := by simp [hro]
      go_wp2_with fail
      refine RN.out.mono ?_
      rintro r w2 ⟨ob, d, rfl, es2, -, b2⟩
      have B2 := hide (btr B1.out b2)
      have E2 := hide (heap_below E1.out b2)
      have ES2 := hide es2
      have x0 := cell_of E2.out 0
      have x1 := cell_of E2.out 1
      have x2 := cell_of E2.out 2
      have x3 := cell_of E2.out 3
      have x4 := cell_of E2.out 4
      simp at x0 x1 x2 x3 x4
      have CK2 := hide (CK.out w2 (HS.out.below B2.out))
      clear b2 es2 RN CK
      go_wp2_with fail
      refine CK2.out.mono ?_
      rintro r w3 ⟨rfl, b3⟩
      have B3 := hide (btr B2.out b3)
      have E3 := hide (heap_below E2.out b3)
      have ES3 := hide (ES2.out.below b3)
      have x0 := cell_of E3.out 0
      have x1 := cell_of E3.out 1
      have x2 := cell_of E3.out 2
      have x3 := cell_of E3.out 3
      have x4 := cell_of E3.out 4
      simp at x0 x1 x2 x3 x4
      have NE3 := hide (NE.out w3 (HS.out.below B3.out))
      clear b3 CK2 NE
      go_wp2_with fail
      refine NE3.out.mono ?_
      rintro r w4 ⟨L, col, rfl, h4, h7, b4⟩
      have H4 := hide h4
      have H7 := hide h7
      have BL4 := hide b4
      clear h4 h7 b4 NE3 x0 x1 x2 x3 x4
      generalize hsc : (⟨T, M, ps, pl, dr⟩ : Sh.Sc) = sc at *
      have hpl : sc.pl = pl := by rw [← hsc]
      clear hsc
      go_wp2_with fail
      go_loopw [7] (fun i wr => ∃ (n : Nat) (cj : Nat → Nat), n ≤ pl.length ∧ i = .int .i64 (n : Int) ∧ LW wr cj L (stepsF n (newS sc)) ∧ Inv sc n (stepsF n (newS sc)) ∧ Tr col cj w4 wr) (fun i _ => pl.length - (intOf i).toNat)
      case atStart => exact ⟨0, col, Nat.zero_le _, rfl, H4.out, Inv.new hs, Tr.refl _ _⟩
      case round =>
        obtain ⟨n, cj, hn, rfl, hlw, hinv, htr⟩ := hrel
        have HL := hide hlw
        have HI := hide hinv
        have HT := hide htr
        have hend : verd (stepsF n (newS sc)) = 0 → n < pl.length := fun q => by rw [← hpl]; exact hinv.end_ q
        have RA := hide (run_at (sc := sc) (n := n) (by rw [hpl]; exact hn))
        have SS := hide (steps_succ n (newS sc))
        have BR := hide (tr_below BL4.out H7.out htr)
        have ER := hide (heap_below E3.out BR.out)
        clear hlw hinv htr
        generalize stepsF n (newS sc) = s at *
        have VE := hide (fun u c (q : LW u c L s) => verdict_any L c s _ u q HI.out.b.bw.cb)
        by_cases hv : verd s = 0
        · rw [hv] at VE
          have hnl := hend hv
          have hnl' : decide ((n : Int) ≤ (pl.length : Int)) = true := by simp; omega
          have hst := step_told hs HI.out hv
          clear RA hend
          go_wp2_with fail
          refine (VE.out _ cj HL.out).mono ?_
          rintro r w6 ⟨rfl, b6⟩
          obtain ⟨c6, h6, t6, -⟩ := HL.out.below b6
          have ST := hide (step_any L c6 sc n s w6 h6 hs HI.out hv)
          have T6 := hide (HT.out.trans t6)
          have E6 := hide (heap_below ER.out b6)
          have x3 := cell_of E6.out 3
          simp at x3
          have hne : ((((stepF s).tr.length - s.tr.length : Nat) : Int) == 0) = false := by rw [beq_eq_false_iff_ne]; omega
          generalize (stepF s).tr.length - s.tr.length = dl at *
          clear b6 h6 t6
          go_wp2_with fail
          refine ST.out.mono ?_
          rintro r w7 ⟨ob7, d7, rfl, -, c7, h7, t7⟩
          have H7' : Hid (LW w7 c7 L (stepsF (n + 1) (newS sc))) := by rw [SS.out]; exact h7
          have I7 : Hid (Inv sc (n + 1) (stepsF (n + 1) (newS sc))) := by rw [SS.out]; exact HI.out.step hs hv
          have T7 := hide (T6.out.trans t7)
          clear h7 t7 ST
          go_wp2_with fail
          go_roundw
          case rel => exact ⟨n + 1, c7, by omega, by go_num, H7'.out, I7.out, T7.out⟩
          case measure => simp [intOf]; omega
        · have hRs : R = s := by rw [← HR.out]; exact RA.out hv
          subst hRs
          have hvv : (verd R == 0) = false := by simp [hv]
          have VE0 := hide (VE.out _ cj HL.out)
          rw [HV.out] at VE VE0 hvv
          clear hend
          go_wp2_with fail
          refine VE0.out.mono ?_
          rintro r w6 ⟨rfl, b6⟩
          obtain ⟨c6, h6, t6, -⟩ := HL.out.below b6
          have H6 := hide h6
          have B6 := hide (BR.out.trans (b6.mono BR.out.size))
          have E6 := hide (heap_below ER.out b6)
          have ES6 := hide (ES3.out.below B6.out)
          clear b6 h6 t6 VE0
          go_wp2_with fail
          go_loopw [66] (fun i wr => ∃ (k : Nat), k ≤ R.tr.length ∧ i = .int .i64 (k : Int) ∧ Below w6.heap.size w6 wr) (fun i _ => R.tr.length - (intOf i).toNat)
          case atStart => exact ⟨0, Nat.zero_le _, rfl, Below.refl _ _⟩
          case round =>
            rename World => wz
            obtain ⟨k, hk, rfl, bz⟩ := hrel
            have BZ := hide bz
            clear bz
            by_cases hlt : k < R.tr.length
            · have hlt' : (k : Int) < (R.tr.length : Int) := by omega
              obtain ⟨x, hx⟩ : ∃ x, R.tr[k]? = some x := ⟨_, List.getElem?_eq_getElem hlt⟩
              obtain ⟨b', off', hob, -⟩ := ES6.out k x hx
              subst hob
              obtain ⟨p0, p1, p2, p3, p4, p5, p6, p7⟩ := (ES6.out.below BZ.out).read hx
              have hck := RT.out x (List.mem_of_getElem? hx)
              have CC := hide (fun u => En.check_any x u)
              rw [hck] at CC
              unfold En.evv En.evc at CC
              clear hx hck
              go_wp2_with fail
              refine (CC.out _).mono ?_
              rintro r wy ⟨rfl, by_⟩
              have BY := hide (btr BZ.out (btr (below_alloc wz _) by_))
              clear by_
              go_wp2_with fail
              go_roundw
              case rel => exact ⟨k + 1, by omega, by go_num, BY.out⟩
              case measure => simp [intOf]; omega
            · have hlt' : ¬ ((k : Int) < (R.tr.length : Int)) := by omega
              obtain ⟨c8, h8, t8, -⟩ := H6.out.below BZ.out
              have VE8 := hide (VE.out _ c8 h8)
              have H8 := hide h8
              have E8 := hide (heap_below E6.out BZ.out)
              have B8 := hide (B6.out.trans (BZ.out.mono B6.out.size))
              have hn1 : decide ((n : Int) ≤ (pl.length : Int)) = true := by simp; omega
              clear h8 t8
              go_wp2_with fail
              refine VE8.out.mono ?_
              rintro r w9 ⟨rfl, b9⟩
              obtain ⟨c9, h9, t9, -⟩ := H8.out.below b9
              have SO := hide (step_over L c9 R _ w9 h9 HI.out.b.bw.cb hv)
              have E9 := hide (heap_below E8.out b9)
              have x3 := cell_of E9.out 3
              simp at x3
              have B9 := hide (B8.out.trans (b9.mono B8.out.size))
              clear b9 h9 t9 VE8
              go_wp2_with fail
              refine SO.out.mono ?_
              rintro r wa ⟨rfl, ba⟩
              have BA := hide (B9.out.trans (ba.mono B9.out.size))
              clear ba SO
              go_wp2_with fail
              refine (hands_any _).mono ?_
              rintro r wb ⟨rfl, bb⟩
              have BB := hide (BA.out.trans (bb.mono BA.out.size))
              clear bb
              go_wp2_with fail
              go_ret
              exact ⟨rfl, btr B3.out BB.out⟩

/-! ### the row -/
set_option maxRecDepth 100000 in
theorem lifted (os : Os) (started : os.Started) (H : Type) (enc : TypeId × Value → H) :
    ReturnsInHanded {} Tryz.checked os 5 .any (Rows.loomEndsSpec.pre6 enc Tryz.prog Tryz.f5 Rows.loomEndsRow.domain false) (Rows.loomEndsSpec.post enc Tryz.prog Tryz.f5 false true false false) := by
  refine returnsInHanded_of_change_sized (C := Tryz.checked) own started (by kernel_rfl) Tryz.func5
    (ChangeSpec.witness6 (enc := enc) (C := Tryz.checked) false ⟨#[], #[.agg #[.int .i64 0, .int .i64 0, .slice none 0 0, .slice none 0 0, .slice none 0 0]], []⟩ 8 (by kernel_rfl) (by kernel_rfl) (by kernel_rfl) (by kernel_rfl)) ?_
  intro W base args ds gs before hval0 hW hcnd hsz0 _
  have hval : ∀ (j : Nat) t v, Tryz.f5.params[j]? = some t → args[j]? = some v → Value.okWide Tryz.prog W .any base t v := hval0
  have hW' := hW
  obtain ⟨p, q, hA0, hV, rfl, hfz, hnd⟩ := hW
  have hA : DataW.TrodAll enc Tryz.prog W 0 (fun _ => true) true Tryz.f5.params.toList args.toList ds p := hA0
  rw [Tryz.params5] at hA hval
  have hsz : (DataW.weightsEach Tryz.prog (Tryz.f5.params.toList ++ Rows.loomEndsSpec.plain.varTypes Tryz.prog) (ds ++ gs)).all (· ≤ reachBytes) = true := hsz0
  clear hsz0
  rw [Tryz.params5] at hsz
  obtain ⟨v0, vs0, d0, ds0, p0, q0, hargs, rfl, rfl, h0, r0⟩ := trodAll_cons hA
  obtain ⟨rfl, rfl, rfl⟩ := trodAll_nil r0
  obtain rfl : args = #[v0] := by cases args; simp_all
  obtain ⟨rfl, rfl⟩ := trodVars_none hV
  have k0 := h0
  have lt0 : ∀ x ∈ p0, x.block < W.heap.size := by obtain ⟨m, hm⟩ := k0; exact DataW.trod_lt m _ _ _ hm
  have z0 : WL 25 d0 := fun m hm => by
    have := List.all_eq_true.1 hsz _ (DataW.weights_mem_each (j := 0) (t := 25) (d := d0) rfl rfl m hm)
    simpa using this
  obtain ⟨T0, M0, ps0, pl0, dr0, pa0, la0, da0, pc0, lc0, dc0, rfl, S0, H0⟩ := h0.elim fun _ hf => script_open hf z0
  clear hA0 hval0
  refine (core (w := W) T0 M0 ps0 pl0 dr0 pa0 la0 da0 pc0 lc0 dc0 S0 H0).mono fun e W' ⟨he, bel⟩ => ?_
  subst he
  exact ⟨_, rfl, _, _, _, [], _, [], hW', trodAll_mk1 (shut_bool Tryz.underlying4 _), (trodAll_cons_mk (Below.trod laidOut (by kernel_rfl) (of_decide_eq_true (by kernel_rfl)) k0 bel lt0) trodAll_mk0), rfl, bel.frame _, fun h => by cases h⟩

theorem over : Rows.loomEndsRow.holds Tryz.pinned (OpenSpec.ofChange Rows.loomEndsSpec) :=
  OpenClaim.holds_of_wide 5 Tryz.f5 rfl rfl rfl rfl rfl rfl rfl ⟨rfl, rfl, rfl, rfl, rfl⟩ rfl rfl rfl rfl rfl (by kernel_rfl) Tryz.func5 (by kernel_rfl)
    (of_decide_eq_true (by kernel_rfl)) (by unfold Func.isWrapper; first | (rw [if_pos (by decide +kernel)]; kernel_rfl) | (rw [if_neg (by decide +kernel)]; exact ⟨rfl, rfl⟩))
    (fun os started H enc _ => lifted os started H enc)

/-- the statement -/
theorem proved : Rows.LoomEndsSaid := over
#print axioms proved
end Go.Proofs.YtmfaepelghikiaaGreat.loomEnds
