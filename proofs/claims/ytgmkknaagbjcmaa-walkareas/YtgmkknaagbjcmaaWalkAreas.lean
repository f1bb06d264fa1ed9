/- A path that is turned as a whole has the same area; backwards it has the negative one, for every list of places and every turn. -/
import Derived.Test.YtgmkknaagbjcmaaFwb
import Derived.Test.YtgmkknaagbjcmaaBo
import Derived.ShutString
import Derived.ChangeOld
import Derived.Below
namespace Go.Proofs.Ytgmkknaagbjcmaa.walkAreas
open Go.ChangeShapes Go.WideShapes Go.ChangeAt Go.RowKit
open Go.ChangeMaps (open_string shut_string)
open Fw Fl

theorem own : ownKnob Try.prog.godebug = none := by kernel_rfl
theorem laidOut : laidOutB Try.prog = true := by kernel_rfl

set_option maxRecDepth 100000 in
set_option maxHeartbeats 12800000 in
theorem core' {w : World} (oa : Option Addr) (n c : Nat) (f : Nat → Int × Int) (kk : Int) (hA : QAt w oa n f) (hm : n ≤ maxLen) :
    Calls Try.prog 7 #[.slice oa n c, .int .i64 kk] w fun e w' => e = .returned (.bool true) ∧ Below w.heap.size w w' := by
  have QA := Ba.hide hA
  have LG := Ba.hide (large_any oa n c f w hA hm)
  clear hA hm
  go_enter Try.func7, Try.ntmps7
  go_wp2_with fail
  refine LG.out.mono ?_
  rintro r w1 ⟨hr, b1⟩
  have B1 := Ba.hide b1
  clear b1
  rcases hr with rfl | ⟨rfl, hn, hb⟩
  · go_wp2_with fail
    refine (two_any _).mono ?_
    rintro r w2 ⟨rfl, b2⟩
    have B2 := Ba.hide (Ba.btr B1.out b2)
    clear b2
    go_wp2_with fail
    go_ret
    exact ⟨rfl, B2.out⟩
  have HB := Ba.hide hb
  have PL := Ba.hide (places_any oa n c f w1 (QA.out.below B1.out) hn hb)
  clear hb LG
  go_wp2_with fail
  refine PL.out.mono ?_
  rintro r w2 ⟨pa, pc, rfl, hpc, za, b2⟩
  have ZA2 := Ba.hide za
  have BB2 := Ba.hide (Ba.btr B1.out b2)
  clear za b2 B1 PL QA hpc
  have TU := Ba.hide (fun u => turn_any kk u)
  obtain ⟨t, ht⟩ : ∃ t, kk % 4 = t := ⟨_, rfl⟩
  rw [ht] at TU
  clear ht
  have TH := Ba.hide (tw_hi t)
  have tb1 := dx_bd t
  have tb2 := dy_bd t
  go_wp2_with fail
  go_loopw [6, 7, 16] (fun s6 s7 i wr => ∃ (v u : Value) (k : Nat), k ≤ n ∧ i = .int .i64 (k : Int) ∧ s6 = v ∧ s7 = u ∧ ZR wr w2.heap.size v k (rf f t) ∧ ZR wr w2.heap.size u k (bk n f) ∧ Dj v u ∧ Below w2.heap.size w2 wr) (fun _ _ i _ => n - (intOf i).toNat)
  case atStart => exact ⟨_, _, 0, Nat.zero_le _, rfl, rfl, rfl, ZR.nil _ _ _, ZR.nil _ _ _, (fun k hk => by cases hk), Below.refl _ _⟩
  case round =>
    obtain ⟨v, u, k, hk, rfl, rfl, rfl, z1, z2, dj, bl⟩ := hrel
    have BL := Ba.hide bl
    clear bl
    by_cases hlt : k < n
    · have hlt' : (k : Int) < (n : Int) := by omega
      obtain ⟨pb, po, p, q, rfl, c1, h1, h2⟩ := ZA2.out.below BL.out k hlt
      obtain ⟨pb', po', p', q', e, c2, h3, h4⟩ := ZA2.out.below BL.out (n - 1 - k) (by omega)
      cases e
      have Bk := HB.out k hlt
      obtain ⟨re, im, M1, M2, M3⟩ := cmul h1 h2 TH.out.1 TH.out.2 (by omega) (by omega) (by omega) (by omega)
      have MUL : ∀ z, (binOp .mul 28 (.complex .f64 p q) (.complex .f64 (tw t).1 (tw t).2)).run Try.prog z = .ok (.complex .f64 re im) z := fun z => run_complex_mul z _ _ _ _ _ _ _ M1
      have C0 := Ba.hide c1
      have hpl : pb < w2.heap.size := by
        obtain ⟨_, _, _, _, e, hc, -⟩ := ZA2.out k hlt
        cases e
        exact World.block_lt_of_cell? w2 _ hc
      obtain ⟨oa1, cc1, w5, ap1, z1', z2', dj1, bl1⟩ := (z1.below (Ba.bdrew1 wr)).app (z2.below (Ba.bdrew1 wr)) dj (by omega) BL.out.size (g := rf f t) (a := re) (b := im) (fun _ _ => rfl) M2 M3
      have AP1 := Ba.hide ap1
      have Z1 := Ba.hide z1'
      have Z2 := Ba.hide z2'
      have DJ := Ba.hide dj1
      have BL5 : Hid (Below w2.heap.size w2 w5) := (BL.out.trans ((Ba.bdrew1 wr).mono BL.out.size)).trans bl1
      have cB1 : Hid (w5.cell? ⟨pb, po + k, none⟩ = some (.complex .f64 p q)) := (bl1.cell hpl).trans (show wr.drew.cell? ⟨pb, po + k, none⟩ = _ from c1)
      have cB2 := Ba.hide ((bl1.cell hpl).trans (show wr.drew.cell? ⟨pb, po + (n - 1 - k), none⟩ = _ from c2))
      obtain ⟨va, vc, rfl, -, -⟩ := z1.at
      obtain ⟨ua, uc, rfl, -, -⟩ := z2.at
      generalize (tw t).1 = t1 at *
      generalize (tw t).2 = t2 at *
      have H3 := Ba.hide h3
      have H4 := Ba.hide h4
      have KT := Ba.hide Bk
      clear M1 M2 M3 h1 h2 h3 h4 Bk ap1 z1' z2' dj1 z1 z2 dj bl1 c2
      obtain ⟨j, hj⟩ : ∃ j, n - 1 - k = j := ⟨_, rfl⟩
      have jn : (n : Int) - 1 - (k : Int) = (j : Int) := by omega
      have jlt : (j : Int) < (n : Int) := by omega
      have jlt2 : j < n := by omega
      have j0 : (0 : Int) ≤ (j : Int) := by omega
      rw [hj] at cB2 H3 H4
      have HJ := Ba.hide hj
      clear hj
      go_upto_region 9 with fail
      go_cut [6] (fun s6 wc => s6 = .slice oa1 (k + 1) cc1 ∧ wc = w5)
      case first =>
        refine wp_region_held_drew (S := fun w' => w'.cell? ⟨pb, po + k, none⟩ = some (.complex .f64 p q)) (by kernel_rfl) ?_ (fun hHeld => ?_)
        · exact c1
        refine wpAnyH_take (i := 0) (v := ?_) rfl (by kernel_rfl) (by kernel_rfl) (by kernel_rfl) (fun _ _ _ h => h) (Or.inl ⟨by rfl, ?_⟩) (by assumption) ?_
        rotate_left
        · intro w0 hSw; (try dsimp only at hSw); go_simp <;> with_reducible rfl
        try simp only [Act.put, List.getElem_toArray, List.getElem_cons_zero, List.setIfInBounds_toArray, List.set_cons_zero, List.set_cons_succ]
        refine wpAnyH_take (i := 1) (v := ?_) rfl (by kernel_rfl) (by kernel_rfl) (by kernel_rfl) (fun _ _ _ h => h) (Or.inl ⟨by rfl, ?_⟩) (by assumption) ?_
        rotate_left
        · intro w0 hSw; (try dsimp only at hSw); go_simp <;> with_reducible rfl
        try simp only [Act.put, List.getElem_toArray, List.getElem_cons_zero, List.getElem_cons_succ, List.setIfInBounds_toArray, List.set_cons_zero, List.set_cons_succ]
        refine wpAnyH_take (i := 2) (v := ?_) rfl (by kernel_rfl) (by kernel_rfl) (by kernel_rfl) (fun _ _ _ h => h) (Or.inl ⟨by rfl, ?_⟩) (by assumption) ?_
        rotate_left
        · intro w0 hSw; (try dsimp only at hSw); go_simp <;> with_reducible rfl
        try simp only [Act.put, List.getElem_toArray, List.getElem_cons_zero, List.getElem_cons_succ, List.setIfInBounds_toArray, List.set_cons_zero, List.set_cons_succ]
        refine wpAnyH_take (i := 3) (v := ?_) rfl (by kernel_rfl) (by kernel_rfl) (by kernel_rfl) (fun _ _ _ h => h) (Or.inl ⟨by rfl, ?_⟩) (by assumption) ?_
        rotate_left
        · intro w0 hSw; (try dsimp only at hSw); go_simp <;> with_reducible rfl
        try simp only [Act.put, List.getElem_toArray, List.getElem_cons_zero, List.getElem_cons_succ, List.setIfInBounds_toArray, List.set_cons_zero, List.set_cons_succ]
        refine wpAnyH_take (i := 4) (v := ?_) rfl (by kernel_rfl) (by kernel_rfl) (by kernel_rfl) (fun _ _ _ h => h) (Or.inl ⟨by rfl, ?_⟩) (by assumption) ?_
        rotate_left
        · intro w0 hSw; (try dsimp only at hSw); go_simp <;> with_reducible rfl
        try simp only [Act.put, List.getElem_toArray, List.getElem_cons_zero, List.getElem_cons_succ, List.setIfInBounds_toArray, List.set_cons_zero, List.set_cons_succ]
        refine wpAnyH_take (i := 5) (v := ?_) rfl (by kernel_rfl) (by kernel_rfl) (by kernel_rfl) (fun _ _ _ h => h) (Or.inl ⟨by rfl, ?_⟩) (by assumption) ?_
        rotate_left
        · intro w0 hSw; (try dsimp only at hSw); go_simp <;> with_reducible rfl
        try simp only [Act.put, List.getElem_toArray, List.getElem_cons_zero, List.getElem_cons_succ, List.setIfInBounds_toArray, List.set_cons_zero, List.set_cons_succ]
        refine wpAnyH_ready (rs := [6]) (by kernel_rfl) (by simp) ?_
        refine AllReadyH.cons rfl (fun K hK => ?_) AllReadyH.nil
        go_simp
        (go_at_call 13; refine (TU.out _).mono ?_; rintro r u1 ⟨rfl, rfl⟩)
        (try go_wp2_with fail)
        refine hK.out _ _ ?_ (fun hHeld => ?_)
        · exact hHeld
        clear hK K
        try simp only [Act.put, List.getElem_toArray, List.getElem_cons_zero, List.getElem_cons_succ, List.setIfInBounds_toArray, List.set_cons_zero, List.set_cons_succ]
        refine wpAnyH_take (i := 7) (v := ?_) rfl (by kernel_rfl) (by kernel_rfl) (by kernel_rfl) (fun _ _ _ h => h) (Or.inl ⟨by rfl, ?_⟩) (by assumption) ?_
        rotate_left
        · intro w0 hSw; (try dsimp only at hSw); go_simp <;> with_reducible rfl
        try simp only [Act.put, List.getElem_toArray, List.getElem_cons_zero, List.getElem_cons_succ, List.setIfInBounds_toArray, List.set_cons_zero, List.set_cons_succ]
        refine wpAnyH_ready (rs := [8]) (by kernel_rfl) (by simp) ?_
        refine AllReadyH.cons rfl (fun K hK => ?_) AllReadyH.nil
        refine step_bs (by rfl) 24 1 _ (by rfl) #[(0, .complex .f64 re im)] (by kernel_rfl) _ _ (bs_cx re im _) ?_
        refine hK.out _ _ ?_ (fun hHeld => ?_)
        · exact cellB hHeld (Ba.below_alloc _ _)
        clear hK K
        try simp only [Act.put, List.getElem_toArray, List.getElem_cons_zero, List.getElem_cons_succ, List.setIfInBounds_toArray, List.set_cons_zero, List.set_cons_succ]
        refine wpAnyH_ready (rs := [9]) (by kernel_rfl) (by simp) ?_
        refine AllReadyH.cons rfl (fun K hK => ?_) AllReadyH.nil
        refine step_app (by rfl) _ _ 24 24 (by rfl) _ _ (by rfl) (by rfl) _ _ AP1.out ?_
        refine hK.out _ _ ?_ (fun hHeld => ?_)
        · exact cB1.out
        clear hK K
        try simp only [Act.put, List.getElem_toArray, List.getElem_cons_zero, List.getElem_cons_succ]
        refine wpAnyH_take (i := 10) (v := ?_) rfl (by kernel_rfl) (by kernel_rfl) (by kernel_rfl) (fun _ _ _ h => h) (Or.inl ⟨by rfl, ?_⟩) (by assumption) ?_
        rotate_left
        · intro w0 hSw; (try dsimp only at hSw); go_simp <;> with_reducible rfl
        try simp only [Act.put, List.getElem_toArray, List.getElem_cons_zero, List.getElem_cons_succ, List.setIfInBounds_toArray, List.set_cons_zero, List.set_cons_succ]
        refine wpAnyH_done (by kernel_rfl) ?_ _
        go_wp2_with fail
        go_meet
        case rel => exact ⟨rfl, rfl⟩
      case rest =>
        obtain ⟨rfl, rfl⟩ := hcut
        obtain ⟨oa2, cc2, w6, ap2, z2', z1', dj2, bl2⟩ := Z2.out.app Z1.out DJ.out.symm (by omega) BL5.out.size (g := bk n f) (a := p') (b := q') (fun _ _ => rfl) (by unfold bk; rw [HJ.out]; exact H3.out) (by unfold bk; rw [HJ.out]; exact H4.out)
        have AP2 := ap2
        have Z1' := Ba.hide z1'
        have Z2' := Ba.hide z2'
        have DJ' := Ba.hide dj2.symm
        have BL6 : Hid (Below w2.heap.size w2 w6) := BL5.out.trans bl2
        have c3 := cB2.out
        clear ap2 z1' z2' dj2 bl2 cB1 cB2 c1
        go_wp2_with (at_builtin; refine wpL_app rfl _ _ 24 24 rfl _ _ rfl rfl _ _ AP2 ?_)
        clear AP2
        go_wp2_with fail
        go_roundw
        case rel => exact ⟨_, _, k + 1, by omega, by go_num, rfl, rfl, Z1'.out, Z2'.out, DJ'.out, BL6.out⟩
        case measure => simp [intOf]; omega
    · have hlt' : ¬ ((k : Int) < (n : Int)) := by omega
      obtain rfl : k = n := by omega
      obtain ⟨va, vc, rfl, -, y1⟩ := z1.at
      obtain ⟨ua, uc, rfl, -, y2⟩ := z2.at
      have A1 := Ba.hide (area_any va k vc (rf f t) wr y1 (rf_bd HB.out t) hn)
      have A2 := Ba.hide (area_any ua k uc (bk k f) wr y2 (bk_bd HB.out) hn)
      have A3 := Ba.hide (area_any pa k pc f wr (ZA2.out.below BL.out) HB.out hn)
      unfold ArR at A1 A2 A3
      rw [rf_sum] at A1
      rw [bk_sum] at A2
      clear z1 z2 y1 y2 dj
      generalize sm (cr k f) k = SS at *
      go_wp2_with fail
      refine A1.out.mono ?_
      rintro r w5 ⟨a1, rfl, h1, e5⟩
      obtain rfl := e5.symm
      go_wp2_with fail
      refine A3.out.mono ?_
      rintro r w5 ⟨a3, rfl, h3, e5⟩
      obtain rfl := e5.symm
      have o1 : (FloatKind.f64.format.order a1 a3 == some .eq) = true := (Hf.eq h1 h3).trans (by simp)
      go_wp2_with fail
      refine A2.out.mono ?_
      rintro r w5 ⟨a2, rfl, h2, e5⟩
      obtain rfl := e5.symm
      go_wp2_with fail
      refine A3.out.mono ?_
      rintro r w5 ⟨a4, rfl, h4, e5⟩
      obtain rfl := e5.symm
      have NG : ∀ u, (Op.unary .neg (.float .f64 a4)).run Try.prog u = .ok (.float .f64 (Op.negFloat .f64 a4)) u := fun _ => rfl
      have o2 : (FloatKind.f64.format.order a2 (Op.negFloat .f64 a4) == some .eq) = true := (Hf.eq h2 (Hf.neg' h4)).trans (by simp)
      clear h1 h2 h3 h4
      go_wp2_with fail
      refine (two_any _).mono ?_
      rintro r w7 ⟨rfl, b7⟩
      have B7 := Ba.hide (Ba.btr (Ba.btr BB2.out BL.out) b7)
      clear b7
      go_wp2_with fail
      go_ret
      exact ⟨rfl, B7.out⟩
theorem core {w : World} (oa : Option Addr) (l : List (List Int)) (c : Nat) (hA : QAt w oa l.length (fun i => (Ba.nth (l.getD i []) 0, Ba.nth (l.getD i []) 1))) (hm : l.length ≤ maxLen) (k : Int) :
    Calls Try.prog 7 #[.slice oa l.length c, .int .i64 k] w fun e w' => e = .returned (.bool true) ∧ Below w.heap.size w w' := core' oa l.length c _ k hA hm

/-! ### the row -/
set_option maxRecDepth 100000 in
theorem lifted (os : Os) (started : os.Started) (H : Type) (enc : TypeId × Value → H) :
    ReturnsInHanded {} Try.checked os 7 .any (Rows.walkAreasSpec.pre6 enc Try.prog Try.f7 Rows.walkAreasRow.domain false) (Rows.walkAreasSpec.post enc Try.prog Try.f7 false true false false) := by
  refine returnsInHanded_of_change (C := Try.checked) own started (by kernel_rfl) Try.func7
    (ChangeSpec.witness6 (enc := enc) (C := Try.checked) false ⟨#[], #[.slice none 0 0, .int .i64 0], []⟩ 8 (by kernel_rfl) (by kernel_rfl) (by kernel_rfl) (by kernel_rfl)) ?_
  intro W base args ds gs before hval0 hW hcnd _
  have hval : ∀ (j : Nat) t v, Try.f7.params[j]? = some t → args[j]? = some v → Value.okWide Try.prog W .any base t v := hval0
  have hW' := hW
  obtain ⟨p, q, hA0, hV, rfl, hfz, hnd⟩ := hW
  have hA : DataW.TrodAll enc Try.prog W 0 (fun _ => true) true Try.f7.params.toList args.toList ds p := hA0
  rw [Try.params7] at hA hval
  obtain ⟨v0, vs0, d0, ds0, p0, q0, hargs, rfl, rfl, h0, r0⟩ := trodAll_cons hA
  obtain ⟨v1, vs1, d1, ds1, p1, q1, rfl, rfl, rfl, h1, r1⟩ := trodAll_cons r0
  obtain ⟨rfl, rfl, rfl⟩ := trodAll_nil r1
  obtain rfl : args = #[v0, v1] := by cases args; simp_all
  obtain ⟨rfl, rfl⟩ := trodVars_none hV
  obtain ⟨oa0, n0, c0, rfl⟩ := okWide_slice Try.underlying31 (hval 0 31 v0 rfl rfl)
  have k0 := h0
  have lt0 : ∀ x ∈ p0, x.block < W.heap.size := by obtain ⟨m, hm⟩ := k0; exact DataW.trod_lt m _ _ _ hm
  obtain ⟨l0, rfl, A0, C0, M0⟩ := h0.elim fun _ hf => places_open hf
  obtain ⟨a1, rfl, rfl, rfl, w1⟩ := open_int Try.underlying3 (hval 1 3 v1 rfl rfl) h1
  clear hA0 hval0
  refine (core (w := W) oa0 l0 c0 A0 (Nat.le_trans C0 M0) a1).mono fun e W' ⟨he, bel⟩ => ?_
  subst he
  exact ⟨_, rfl, _, _, _, [], _, [], hW', trodAll_mk1 (shut_bool Try.underlying4 _), (trodAll_cons_mk (Below.trod laidOut (by kernel_rfl) (of_decide_eq_true (by kernel_rfl)) k0 bel lt0) (trodAll_cons_mk (shut_int Try.underlying3 w1) trodAll_mk0)), rfl, bel.frame _, fun h => by cases h⟩

theorem over : Rows.walkAreasRow.holds Try.pinned (OpenSpec.ofChange Rows.walkAreasSpec) :=
  OpenClaim.holds_of_wide 7 Try.f7 rfl rfl rfl rfl rfl rfl rfl ⟨rfl, rfl, rfl, rfl, rfl⟩ rfl rfl rfl rfl rfl (by kernel_rfl) Try.func7 (by kernel_rfl)
    (of_decide_eq_true (by kernel_rfl)) (by unfold Func.isWrapper; first | (rw [if_pos (by decide +kernel)]; kernel_rfl) | (rw [if_neg (by decide +kernel)]; exact ⟨rfl, rfl⟩))
    (fun os started H enc _ => lifted os started H enc)

/-- the statement -/
theorem proved : Rows.WalkAreasSaid := over
#print axioms proved
end Go.Proofs.Ytgmkknaagbjcmaa.walkAreas
