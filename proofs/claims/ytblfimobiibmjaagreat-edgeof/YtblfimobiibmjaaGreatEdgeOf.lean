/- EdgeOf: of layer 24. -/
import Derived.Test.YtblfimobiibmjaaGreatZjEh16
import Derived.Deep.Cut
import Derived.Deep.QuietTactic
import Derived.BigQuiet
import Derived.ShutString
import Derived.ChangeOld
import Derived.Below
namespace Go.Proofs.YtblfimobiibmjaaGreat.edgeOf
open Go.ChangeShapes Go.WideShapes Go.ChangeAt Go.RowKit
open Go.ChangeMaps (open_string shut_string)
open Eg En Ba

theorem own : ownKnob Tryz.prog.godebug = none := by kernel_rfl
theorem laidOut : laidOutB Tryz.prog = true := by kernel_rfl

set_option maxRecDepth 100000 in
set_option maxHeartbeats 3200000 in
theorem big {w : World} (oa : Option Addr) (n c : Nat) (rule i : Int) (hm : n ≤ maxLen) (h : 30 < n) :
    Calls Tryz.prog 4 #[.slice oa n c, .int .i64 rule, .int .i64 i] w fun e w' => e = .returned (.bool true) ∧ Below w.heap.size w w' := by
  unfold maxLen at hm
  have FV := Ba.hide (five_any w)
  have d1 : decide ((30 : Int) < (n : Int)) = true := by simp; omega
  have d2 : decide (30 < n) = true := by simp; omega
  go_enter Tryz.func4, Tryz.ntmps4
  go_wp2_with fail
  refine FV.out.mono ?_
  rintro r w1 ⟨rfl, b1⟩
  have B1 := Ba.hide b1
  clear b1
  go_wp2_with fail
  go_ret
  exact ⟨rfl, B1.out⟩
theorem take_filter (p : Ed → Bool) {R : List Ed} {k : Nat} {x : Ed} (hx : R[k]? = some x) : (R.take (k + 1)).filter p = (R.take k).filter p ++ if p x then [x] else [] := by
  rw [List.take_add_one, hx, Option.toList_some, List.filter_append]
  congr 1
  cases h : p x <;> simp [h]
theorem of_eq (rule : Int) (x : Ed) : (!ofR rule x) = ((x.r : Int) == rule) := by
  unfold ofR
  simp [bne]
set_option maxRecDepth 100000 in
set_option maxHeartbeats 12800000 in
theorem core {w : World} (oa : Option Addr) (l : List Ev) (c : Nat) (hA : Gu.EsAt w oa l ∧ l.length ≤ c) (hm : l.length ≤ maxLen) (rule i : Int) :
    Calls Tryz.prog 4 #[.slice oa l.length c, .int .i64 rule, .int .i64 i] w fun e w' => e = .returned (.bool true) ∧ Below w.heap.size w w' := by
  by_cases hb : 30 < l.length
  · exact big oa l.length c rule i hm hb
  obtain ⟨hA, hc⟩ := hA
  have FV := Ba.hide (fun u => five_any u)
  have RG := Ba.hide (fun u (b : Below w.heap.size w u) => right_any24 oa l c u (hA.below b) (by omega) hc)
  have BG := Ba.hide (fun u (b : Below w.heap.size w u) => Begins_any oa l c i u (hA.below b) (by omega))
  cases ht : tokB l
  · have C1 := Ba.hide (Of_no oa l c rule w hA (by omega) ht)
    rw [ht] at RG BG
    obtain ⟨M, hM⟩ : ∃ M, l.length = M := ⟨_, rfl⟩
    rw [hM] at C1 RG BG hb ⊢
    have d1 : decide ((30 : Int) < (M : Int)) = false := by simp; omega
    have d2 : decide (30 < M) = false := by simp; omega
    clear hA hm hb ht hM hc
    go_enter Tryz.func4, Tryz.ntmps4
    go_wp2_with fail
    refine C1.out.mono ?_
    rintro r w1 ⟨rfl, b1⟩
    have B1 := Ba.hide b1
    clear b1 C1
    go_wp2_with fail
    refine (BG.out _ B1.out).mono ?_
    rintro r w2 ⟨hr, b2⟩
    obtain rfl : r = .returned (.tuple #[.int .i64 0, .int .i64 4]) := hr
    have B2 := Ba.hide (Ba.btr B1.out b2)
    clear b2
    go_wp2_with fail
    refine (RG.out _ B2.out).mono ?_
    rintro r w3 ⟨rfl, b3⟩
    have B3 := Ba.hide (Ba.btr B2.out b3)
    clear b3
    go_wp2_with fail
    refine (FV.out _).mono ?_
    rintro r w4 ⟨rfl, b4⟩
    have B4 := Ba.hide (Ba.btr B3.out b4)
    clear b4
    go_wp2_with fail
    go_ret
    exact ⟨rfl, B4.out⟩
  have hT := tokB_iff.1 ht
  have AL : (allS l).length ≤ 60000 := by
    have h1 := allD_len (isB l) l.length l.length (Nat.le_refl _)
    have h2 : l.length * (l.length * 6) ≤ 30 * 180 := Nat.mul_le_mul (by omega) (by omega)
    unfold allS
    omega
  have C1 := Ba.hide (Of_yes oa l c rule w hA (by omega) ht (by omega))
  have RA := Ba.hide (fun u (b : Below w.heap.size w u) => rall24_any oa l c u (hA.below b) hT (by omega))
  have RB := Ba.hide (fun u (b : Below w.heap.size w u) (h : i.toNat < l.length) => rbegins_any oa l c i.toNat u (hA.below b) hT h (by omega))
  rw [ht] at RG BG
  obtain ⟨pf, hpf⟩ : ∃ pf, (fun x => !ofR rule x) = pf := ⟨_, rfl⟩
  have PF := Ba.hide (fun x => (congrFun hpf x).symm.trans (of_eq rule x))
  obtain ⟨R, hR⟩ : ∃ R, allS l = R := ⟨_, rfl⟩
  rw [hR] at RA AL
  rw [hR, hpf] at C1
  obtain ⟨bt, hbt⟩ : ∃ bt, bg l i.toNat = bt := ⟨_, rfl⟩
  rw [hbt] at BG RB
  obtain ⟨M, hM⟩ : ∃ M, l.length = M := ⟨_, rfl⟩
  rw [hM] at C1 RG RA BG RB hb ⊢
  have d1 : decide ((30 : Int) < (M : Int)) = false := by simp; omega
  have d2 : decide (30 < M) = false := by simp; omega
  obtain ⟨bv, be, BE, HBE⟩ : ∃ bv be : Int, (Hid (∀ u, Below w.heap.size w u → Calls Tryz.prog 15 #[.slice oa M c, .int .i64 i] u fun r w' => r = .returned (.tuple #[.int .i64 bv, .int .i64 be]) ∧ Below u.heap.size u w')) ∧ Hid ((i < 0 ∨ (M : Int) ≤ i) ∧ bv = 0 ∧ be = 1 ∨ (0 ≤ i ∧ i < (M : Int)) ∧ bv = (bt : Int) ∧ be = 0) := by
    by_cases h : 0 ≤ i ∧ i < (M : Int)
    · refine ⟨bt, 0, ?_, .inr ⟨h, rfl, rfl⟩⟩
      have q := BG.out
      simp only [if_pos h, if_true] at q
      exact q
    · refine ⟨0, 1, ?_, .inl ⟨by omega, rfl, rfl⟩⟩
      have q := BG.out
      simp only [if_neg h, if_true] at q
      exact q
  clear hA hm hb ht hM hT hR hc BG hpf hbt
  go_enter Tryz.func4, Tryz.ntmps4
  go_wp2_with fail
  refine C1.out.mono ?_
  rintro r w1 ⟨va, rfl, o1, b1⟩
  have B1 := Ba.hide b1
  obtain ⟨ea, ca, rfl, -, -⟩ := o1.sl
  have O1 := Ba.hide o1
  clear b1 C1 o1
  go_wp2_with fail
  refine (BE.out _ B1.out).mono ?_
  rintro r w2 ⟨rfl, b2⟩
  have B2 := Ba.hide (Ba.btr B1.out b2)
  have O2 := Ba.hide (O1.out.below b2)
  clear b2 BE
  go_wp2_with fail
  refine (RG.out _ B2.out).mono ?_
  rintro r w3 ⟨rfl, b3⟩
  have B3 := Ba.hide (Ba.btr B2.out b3)
  have O3 := Ba.hide (O2.out.below b3)
  clear b3
  go_wp2_with fail
  refine (RA.out _ B3.out).mono ?_
  rintro r w4 ⟨vr, rfl, o4, b4⟩
  have B4 := Ba.hide (Ba.btr B3.out b4)
  have O4 := Ba.hide (O3.out.below b4)
  obtain ⟨er, cr, rfl, -, -⟩ := o4.sl
  have R4 := Ba.hide o4
  have HB3 : w3.heap.size ≤ w4.heap.size := b4.size
  obtain ⟨N, hN⟩ : ∃ N, R.length = N := ⟨_, rfl⟩
  have HN := Ba.hide hN
  rw [hN] at AL R4 ⊢
  clear b4 o4 RA hN
  go_wp2_with fail
  go_loopw [11, 54] (fun ov iv wr => ∃ k : Nat, k ≤ N ∧ iv = .int .i64 k ∧ Eg.Or wr w4.heap.size ov ((R.take k).filter pf) ∧ Below w4.heap.size w4 wr) (fun _ iv _ => N - (intOf iv).toNat)
  case atStart => exact ⟨0, Nat.zero_le _, rfl, ⟨rfl, .inl ⟨rfl, rfl⟩⟩, Below.refl _ _⟩
  case round =>
    obtain ⟨k, hk, rfl, ow, hb⟩ := hrel
    have HB := Ba.hide hb
    have OW := Ba.hide ow
    obtain ⟨eo, co, rfl, -, -⟩ := ow.sl
    have L1 : ((R.take k).filter pf).length ≤ 60000 := Nat.le_trans (List.length_filter_le _ _) (by rw [List.length_take]; have := HN.out; omega)
    obtain ⟨n1, hn1⟩ : ∃ n, ((R.take k).filter pf).length = n := ⟨_, rfl⟩
    have HN1 := Ba.hide hn1
    rw [hn1] at OW L1 ⊢
    clear hb ow hn1
    by_cases hlt : k < N
    · have hlt' : (k : Int) < (N : Int) := by omega
      have k0 : (0 : Int) ≤ (k : Int) := by omega
      obtain ⟨x, hx⟩ : ∃ x, R[k]? = some x := ⟨_, List.getElem?_eq_getElem (by have := HN.out; omega)⟩
      have TF := Ba.hide (take_filter pf hx)
      have R5 := R4.out.below HB.out
      obtain ⟨g, rfl, y0, y1, y2⟩ := Eg.Or.cell (by have q := R5; rw [← HN.out] at q; exact q) hx
      have XB := Ba.hide (Ba.heap_new wr ((.cells #[.int .i64 (x.f : Int), .int .i64 (x.t : Int), .int .i64 (x.r : Int)] 36)))
      have BX := Ba.hide (Ba.below_alloc wr ((.cells #[.int .i64 (x.f : Int), .int .i64 (x.t : Int), .int .i64 (x.r : Int)] 36)))
      clear hx R5
      go_upto_region 11 with fail
      generalize wr.alloc ((.cells #[.int .i64 (x.f : Int), .int .i64 (x.t : Int), .int .i64 (x.r : Int)] 36)) = w5 at *
      have x0 : w5.cell? ⟨wr.heap.size, 0, none⟩ = some (.int .i64 (x.f : Int)) := cell_of XB.out 0
      have x1 : w5.cell? ⟨wr.heap.size, 1, none⟩ = some (.int .i64 (x.t : Int)) := cell_of XB.out 1
      have x2 : w5.cell? ⟨wr.heap.size, 2, none⟩ = some (.int .i64 (x.r : Int)) := cell_of XB.out 2
      have B5 := Ba.hide (Ba.btr HB.out BX.out)
      have O5 := Ba.hide (OW.out.below BX.out)
      have PX := Ba.hide (PF.out x)
      clear y0 y1 y2
      cases hq : ((x.r : Int) == rule)
      · rw [hq] at PX
        go_wp2_with fail
        go_roundw
        case measure => simp [intOf]; omega
        case rel => exact ⟨k + 1, by omega, by simp, by rw [TF.out, PX.out]; simpa using O5.out, B5.out⟩
      · rw [hq] at PX
        obtain ⟨ea', c', w6, hap, o6, b6⟩ := Eg.app_or w5 (by have q := O5.out; rw [← HN1.out] at q; exact q) (Below.refl _ _) x (by rw [HN1.out]; omega) B5.out.size
        rw [HN1.out] at hap o6
        have O6 := Ba.hide o6
        have B6 := Ba.hide (B5.out.trans b6)
        clear o6 b6
        go_wp2_with (at_builtin; refine Lib.wpList_append_run _ (by rfl) _ _ _ _ (by rfl) _ _ (by rfl) (by rfl) _ _ hap ?_)
        go_roundw
        case measure => simp [intOf]; omega
        case rel => exact ⟨k + 1, by omega, by simp, by rw [TF.out, PX.out, if_pos rfl]; exact O6.out, B6.out⟩
    · have g3 : decide ((k : Int) < (N : Int)) = false := by simp; omega
      have hkN : k = N := by omega
      have e1 : R.take k = R := List.take_of_length_le (by have := HN.out; omega)
      have FL : (R.filter pf).length = n1 := by have q := HN1.out; rw [e1] at q; exact q
      have O7 : Eg.Or wr w4.heap.size (.slice eo n1 co) (R.filter pf) := by have q := OW.out; rw [e1] at q; exact q
      have B7 := Ba.hide (Ba.btr B4.out HB.out)
      have SM := Ba.hide (fun u (b : Below wr.heap.size wr u) => same_any u _ _ ea eo ca co (R.filter pf) ((O4.out.below HB.out).below b) (by rw [FL]; exact O7.below b) (by omega))
      rw [FL] at SM ⊢
      clear hkN e1 FL O7
      clear PF
      rcases HBE.out with ⟨hi, rfl, rfl⟩ | ⟨⟨h0, h1⟩, rfl, rfl⟩
      · clear HBE
        by_cases h0 : i < 0
        · have a1 : decide (i < 0) = true := by simp [h0]
          clear hi
          go_wp2_with fail
          refine (SM.out _ (Below.refl _ _)).mono ?_
          rintro r w6 ⟨rfl, m, h6⟩
          have b6 : Below wr.heap.size wr w6 := by rw [h6]; exact bdrew _ _
          have B6 := Ba.hide (Ba.btr B7.out b6)
          clear h6 b6
          go_wp2_with fail
          refine (FV.out _).mono ?_
          rintro r w7 ⟨rfl, b7⟩
          have B8 := Ba.hide (Ba.btr B6.out b7)
          clear b7
          go_wp2_with fail
          go_ret
          exact ⟨rfl, B8.out⟩
        · have a1 : decide (i < 0) = false := by simp; omega
          have hi2 : (M : Int) ≤ i := by omega
          have a2 : decide (i ≥ (M : Int)) = true := by simp; omega
          have a3 : decide ((M : Int) ≤ i) = true := by simp; omega
          clear hi
          go_wp2_with fail
          refine (SM.out _ (Below.refl _ _)).mono ?_
          rintro r w6 ⟨rfl, m, h6⟩
          have b6 : Below wr.heap.size wr w6 := by rw [h6]; exact bdrew _ _
          have B6 := Ba.hide (Ba.btr B7.out b6)
          clear h6 b6
          go_wp2_with fail
          refine (FV.out _).mono ?_
          rintro r w7 ⟨rfl, b7⟩
          have B8 := Ba.hide (Ba.btr B6.out b7)
          clear b7
          go_wp2_with fail
          go_ret
          exact ⟨rfl, B8.out⟩
      · clear HBE
        have a1 : decide (i < 0) = false := by simp; omega
        have a2 : decide (i ≥ (M : Int)) = false := by simp; omega
        have a3 : decide ((M : Int) ≤ i) = false := by simp; omega
        have a4 : ((bt : Int) == (bt : Int)) = true := by simp
        have a5 : (bt == bt) = true := by simp
        have RC := RB.out wr B7.out (by omega)
        rw [show ((i.toNat : Nat) : Int) = i by omega] at RC
        have RC := Ba.hide RC
        clear RB
        go_wp2_with fail
        refine RC.out.mono ?_
        rintro r w5 ⟨rfl, m5, h5⟩
        have b5 : Below wr.heap.size wr w5 := by rw [h5]; exact bdrew _ _
        have B5 := Ba.hide (Ba.btr B7.out b5)
        have SN := Ba.hide (SM.out _ b5)
        clear h5 b5 RC
        go_wp2_with fail
        refine SN.out.mono ?_
        rintro r w6 ⟨rfl, m, h6⟩
        have b6 : Below w5.heap.size w5 w6 := by rw [h6]; exact bdrew _ _
        have B6 := Ba.hide (Ba.btr B5.out b6)
        clear h6 b6
        go_wp2_with fail
        refine (FV.out _).mono ?_
        rintro r w7 ⟨rfl, b7⟩
        have B8 := Ba.hide (Ba.btr B6.out b7)
        clear b7
        go_wp2_with fail
        go_ret
        exact ⟨rfl, B8.out⟩

/-! ### the row -/
set_option maxRecDepth 100000 in
theorem lifted (os : Os) (started : os.Started) (H : Type) (enc : TypeId × Value → H) :
    ReturnsInHanded {} Tryz.checked os 4 .any (Rows.edgeOfSpec.pre6 enc Tryz.prog Tryz.f4 Rows.edgeOfRow.domain false) (Rows.edgeOfSpec.post enc Tryz.prog Tryz.f4 false true false false) := by
  refine returnsInHanded_of_change (C := Tryz.checked) own started (by kernel_rfl) Tryz.func4
    (ChangeSpec.witness6 (enc := enc) (C := Tryz.checked) false ⟨#[], #[.slice none 0 0, .int .i64 0, .int .i64 0], []⟩ 8 (by kernel_rfl) (by kernel_rfl) (by kernel_rfl) (by kernel_rfl)) ?_
  intro W base args ds gs before hval0 hW hcnd _
  have hval : ∀ (j : Nat) t v, Tryz.f4.params[j]? = some t → args[j]? = some v → Value.okWide Tryz.prog W .any base t v := hval0
  have hW' := hW
  obtain ⟨p, q, hA0, hV, rfl, hfz, hnd⟩ := hW
  have hA : DataW.TrodAll enc Tryz.prog W 0 (fun _ => true) true Tryz.f4.params.toList args.toList ds p := hA0
  rw [Tryz.params4] at hA hval
  obtain ⟨v0, vs0, d0, ds0, p0, q0, hargs, rfl, rfl, h0, r0⟩ := trodAll_cons hA
  obtain ⟨v1, vs1, d1, ds1, p1, q1, rfl, rfl, rfl, h1, r1⟩ := trodAll_cons r0
  obtain ⟨v2, vs2, d2, ds2, p2, q2, rfl, rfl, rfl, h2, r2⟩ := trodAll_cons r1
  obtain ⟨rfl, rfl, rfl⟩ := trodAll_nil r2
  obtain rfl : args = #[v0, v1, v2] := by cases args; simp_all
  obtain ⟨rfl, rfl⟩ := trodVars_none hV
  obtain ⟨oa0, n0, c0, rfl⟩ := okWide_slice Tryz.underlying22 (hval 0 22 v0 rfl rfl)
  have k0 := h0
  have lt0 : ∀ x ∈ p0, x.block < W.heap.size := by obtain ⟨m, hm⟩ := k0; exact DataW.trod_lt m _ _ _ hm
  obtain ⟨l0, rfl, A0, C0, M0⟩ := h0.elim fun _ hf => Gu.events_openC hf
  obtain ⟨a1, rfl, rfl, rfl, w1⟩ := open_int Tryz.underlying3 (hval 1 3 v1 rfl rfl) h1
  obtain ⟨a2, rfl, rfl, rfl, w2⟩ := open_int Tryz.underlying3 (hval 2 3 v2 rfl rfl) h2
  clear hA0 hval0
  refine (core (w := W) oa0 l0 c0 A0 (Nat.le_trans C0 M0) a1 a2).mono fun e W' ⟨he, bel⟩ => ?_
  subst he
  exact ⟨_, rfl, _, _, _, [], _, [], hW', trodAll_mk1 (shut_bool Tryz.underlying4 _), (trodAll_cons_mk (Below.trod laidOut (by kernel_rfl) (of_decide_eq_true (by kernel_rfl)) k0 bel lt0) (trodAll_cons_mk (shut_int Tryz.underlying3 w1) (trodAll_cons_mk (shut_int Tryz.underlying3 w2) trodAll_mk0))), rfl, bel.frame _, fun h => by cases h⟩

theorem over : Rows.edgeOfRow.holds Tryz.pinned (OpenSpec.ofChange Rows.edgeOfSpec) :=
  OpenClaim.holds_of_wide 4 Tryz.f4 rfl rfl rfl rfl rfl rfl rfl ⟨rfl, rfl, rfl, rfl, rfl⟩ rfl rfl rfl rfl rfl (by kernel_rfl) Tryz.func4 (by kernel_rfl)
    (of_decide_eq_true (by kernel_rfl)) (by unfold Func.isWrapper; first | (rw [if_pos (by decide +kernel)]; kernel_rfl) | (rw [if_neg (by decide +kernel)]; exact ⟨rfl, rfl⟩))
    (fun os started H enc _ => lifted os started H enc)

/-- the statement -/
theorem proved : Rows.EdgeOfSaid := over
#print axioms proved
end Go.Proofs.YtblfimobiibmjaaGreat.edgeOf
