/- EdgeForward: of layer 24. -/
import Derived.Test.YtiobcfldnfiiaaaGreatZjEg15
import Derived.Deep.Cut
import Derived.Deep.QuietTactic
import Derived.BigQuiet
import Derived.ShutString
import Derived.ChangeOld
import Derived.Below
namespace Go.Proofs.YtiobcfldnfiiaaaGreat.edgeForward
open Go.ChangeShapes Go.WideShapes Go.ChangeAt Go.RowKit
open Go.ChangeMaps (open_string shut_string)
open Eg En Ba

theorem own : ownKnob Tryz.prog.godebug = none := by kernel_rfl
theorem laidOut : laidOutB Tryz.prog = true := by kernel_rfl

theorem isD_tell {l : List Ev} (h : Tok l) {x : Ed} (hx : isD l x) (hr : 1 < x.r) : ∃ e, l[x.f]? = some e ∧ tellB e = true := by
  obtain ⟨e, he, ht⟩ := isD_tells h hx (by omega)
  exact ⟨e, he, (tellB_iff e).2 ht⟩
theorem ord_at {A : List Ed} (h : A.Pairwise ltE) {j k : Nat} {x y : Ed} (hy : A[j]? = some y) (hx : A[k]? = some x) (hjk : j < k) : ltE y x := by
  obtain ⟨a1, rfl⟩ := List.getElem?_eq_some_iff.1 hy
  obtain ⟨b1, rfl⟩ := List.getElem?_eq_some_iff.1 hx
  exact List.pairwise_iff_getElem.1 h j k a1 b1 hjk
set_option maxRecDepth 100000 in
set_option maxHeartbeats 3200000 in
theorem big {w : World} (oa : Option Addr) (n c : Nat) (hm : n ≤ maxLen) (h : 300 < n) :
    Calls Tryz.prog 5 #[.slice oa n c] w fun e w' => e = .returned (.bool true) ∧ Below w.heap.size w w' := by
  unfold maxLen at hm
  have FV := Ba.hide (five_any w)
  have d1 : decide ((300 : Int) < (n : Int)) = true := by simp; omega
  have d2 : decide (300 < n) = true := by simp; omega
  go_enter Tryz.func5, Tryz.ntmps5
  go_wp2_with fail
  refine FV.out.mono ?_
  rintro r w1 ⟨rfl, b1⟩
  have B1 := Ba.hide b1
  clear b1
  go_wp2_with fail
  go_ret
  exact ⟨rfl, B1.out⟩
set_option maxRecDepth 100000 in
set_option maxHeartbeats 6400000 in
theorem core {w : World} (oa : Option Addr) (l : List Ev) (c : Nat) (hA : Gu.EsAt w oa l ∧ l.length ≤ c) (hm : l.length ≤ maxLen) :
    Calls Tryz.prog 5 #[.slice oa l.length c] w fun e w' => e = .returned (.bool true) ∧ Below w.heap.size w w' := by
  by_cases hb : 300 < l.length
  · exact big oa l.length c hm hb
  obtain ⟨hA, -⟩ := hA
  have FV := Ba.hide (fun u => five_any u)
  cases ht : tokB l
  · have C1 := Ba.hide (All_no oa l c w hA (by omega) ht)
    obtain ⟨M, hM⟩ : ∃ M, l.length = M := ⟨_, rfl⟩
    rw [hM] at C1 hb ⊢
    have d1 : decide ((300 : Int) < (M : Int)) = false := by simp; omega
    have d2 : decide (300 < M) = false := by simp; omega
    clear hA hm hb ht hM
    go_enter Tryz.func5, Tryz.ntmps5
    go_wp2_with fail
    refine C1.out.mono ?_
    rintro r w1 ⟨rfl, b1⟩
    have B1 := Ba.hide b1
    clear b1 C1
    go_wp2_with fail
    refine (FV.out _).mono ?_
    rintro r w2 ⟨rfl, b2⟩
    have B2 := Ba.hide (Ba.btr B1.out b2)
    clear b2
    go_wp2_with fail
    go_ret
    exact ⟨rfl, B2.out⟩
  have hT := tokB_iff.1 ht
  have C1 := Ba.hide (All_yes oa l c w hA (by omega) ht)
  have HA := Ba.hide hA
  have SRT := Ba.hide (allS_srt l)
  have FA : Hid (∀ (k : Nat) (x : Ed), (allS l)[k]? = some x → x.f < x.t ∧ x.t < l.length ∧ 1 ≤ x.r ∧ x.r ≤ 6 ∧ (1 < x.r → ∃ e, l[x.f]? = some e ∧ tellB e = true)) := fun k x hx => by
    have hd := (allS_mem hT x).1 (List.mem_of_getElem? hx)
    have f1 := isD_fwd hT hd
    have f2 := isD_r hd
    exact ⟨f1.1, f1.2, f2.1, f2.2, isD_tell hT hd⟩
  obtain ⟨A, hAA⟩ : ∃ A, allS l = A := ⟨_, rfl⟩
  rw [hAA] at C1 SRT FA
  obtain ⟨M, hM⟩ : ∃ M, l.length = M := ⟨_, rfl⟩
  rw [hM] at C1 FA hb ⊢
  have d1 : decide ((300 : Int) < (M : Int)) = false := by simp; omega
  have d2 : decide (300 < M) = false := by simp; omega
  have hM3 : M ≤ 300 := by omega
  clear hA hm hb ht hM hT hAA
  go_enter Tryz.func5, Tryz.ntmps5
  go_wp2_with fail
  refine C1.out.mono ?_
  rintro r w1 ⟨va, rfl, o1, b1⟩
  have B1 := Ba.hide b1
  obtain ⟨ea, ca, rfl, hca, hcm⟩ := o1.sl
  have O1 := Ba.hide o1
  obtain ⟨n, hn⟩ : ∃ n, A.length = n := ⟨_, rfl⟩
  have HN := Ba.hide hn
  have hnm : n ≤ 9223372036854775807 := by unfold maxLen at hcm; omega
  rw [hn] at hca ⊢
  clear b1 o1 C1 hn hca hcm d1 d2
  go_wp2_with fail
  go_loopw [26] (fun iv wr => ∃ k : Nat, k ≤ n ∧ iv = .int .i64 k ∧ Below w1.heap.size w1 wr) (fun iv _ => n - (intOf iv).toNat)
  case atStart => exact ⟨0, Nat.zero_le _, rfl, Below.refl _ _⟩
  case round =>
    obtain ⟨k, hk, rfl, hb⟩ := hrel
    have HB := Ba.hide hb
    clear hb
    by_cases hlt : k < n
    · have hlt' : (k : Int) < (n : Int) := by omega
      have k0 : (0 : Int) ≤ (k : Int) := by omega
      obtain ⟨x, hx⟩ : ∃ x, A[k]? = some x := ⟨_, List.getElem?_eq_getElem (by rw [HN.out]; omega)⟩
      obtain ⟨g, rfl, x0, x1, x2⟩ := (O1.out.below HB.out).cell hx
      obtain ⟨f1, f2, f3, f4, f5⟩ := FA.out k x hx
      have F5 := Ba.hide f5
      have HX := Ba.hide hx
      clear f5 hx
      go_upto_region 9 with fail
      have XB := Ba.hide (heap_new wr (.cells #[.int .i64 (x.f : Int), .int .i64 (x.t : Int), .int .i64 (x.r : Int)] 39))
      have BX := Ba.hide (below_alloc wr (.cells #[.int .i64 (x.f : Int), .int .i64 (x.t : Int), .int .i64 (x.r : Int)] 39))
      generalize wr.alloc (.cells #[.int .i64 (x.f : Int), .int .i64 (x.t : Int), .int .i64 (x.r : Int)] 39) = w2 at *
      clear x0 x1 x2
      have x0 : w2.cell? ⟨wr.heap.size, 0, none⟩ = some (.int .i64 (x.f : Int)) := cell_of XB.out 0
      have x1 : w2.cell? ⟨wr.heap.size, 1, none⟩ = some (.int .i64 (x.t : Int)) := cell_of XB.out 1
      have x2 : w2.cell? ⟨wr.heap.size, 2, none⟩ = some (.int .i64 (x.r : Int)) := cell_of XB.out 2
      have g1 : decide (x.f ≥ x.t) = false := by simp; omega
      have g1' : decide (x.t ≤ x.f) = false := by simp; omega
      have g2 : decide (M ≤ x.t) = false := by simp; omega
      have g3 : decide (x.r < 1) = false := by simp; omega
      have g4 : decide (6 < x.r) = false := by simp; omega
      have BW2 := Ba.hide (Ba.btr HB.out BX.out)
      by_cases hr : 1 < x.r
      · obtain ⟨e, he, htl⟩ := F5.out hr
        have EA := Ba.hide (HA.out.below (Ba.btr B1.out BW2.out))
        obtain ⟨bb, oo, rfl, -⟩ := EA.out _ e he
        obtain ⟨p0, p1, p2, p3, p4, p5, p6, p7⟩ := EA.out.read he
        have g5 : decide ((x.r : Int) > 1) = true := by simp; omega
        have g5' : decide (1 < x.r) = true := by simp; omega
        have fa : (0 : Int) ≤ (x.f : Int) := by omega
        have fb : (x.f : Int) < (M : Int) := by omega
        have TE := Ba.hide (fun u => tells_any e u)
        rw [htl] at TE
        unfold evv evc at TE
        clear he htl hr
        go_wp2_with fail
        refine (TE.out _).mono ?_
        rintro r w3 ⟨rfl, b3⟩
        have BW3 := Ba.hide (Ba.btr BW2.out b3)
        have XB3 := Ba.hide (heap_below XB.out b3)
        clear b3 TE p0 p1 p2 p3 p4 p5 p6 p7 x0 x1 x2 fa fb g5 g5'
        have x0 : w3.cell? ⟨wr.heap.size, 0, none⟩ = some (.int .i64 (x.f : Int)) := cell_of XB3.out 0
        have x1 : w3.cell? ⟨wr.heap.size, 1, none⟩ = some (.int .i64 (x.t : Int)) := cell_of XB3.out 1
        have x2 : w3.cell? ⟨wr.heap.size, 2, none⟩ = some (.int .i64 (x.r : Int)) := cell_of XB3.out 2
        go_upto_region 11 with fail
        clear g1 g1' g2 g3 g4
        rcases Nat.eq_zero_or_pos k with hk0 | hk0
        · have q1 : decide ((k : Int) > 0) = false := by simp; omega
          have q2 : decide (0 < k) = false := by simp; omega
          clear hk0 f1 f2 f3 f4
          go_quiet (fail)
          go_wp2_with fail
          go_roundw
          case measure => simp [intOf]; omega
          case rel => exact ⟨k + 1, by omega, by simp, Ba.btr BW3.out (Ba.bdrew _ _)⟩
        · obtain ⟨j, hj⟩ : ∃ j, k = j + 1 := ⟨k - 1, by omega⟩
          have q1 : decide ((k : Int) > 0) = true := by simp; omega
          have q2 : decide (0 < k) = true := by simp; omega
          have hj' : (k : Int) - 1 = (j : Int) := by omega
          have hjw : IntKind.i64.wrap (j : Int) = (j : Int) := by rw [IntKind.wrap_i64]; omega
          have j0 : (0 : Int) ≤ (j : Int) := by omega
          have j1 : (j : Int) < (n : Int) := by omega
          obtain ⟨y, hy⟩ : ∃ y, A[j]? = some y := ⟨_, List.getElem?_eq_getElem (by rw [HN.out]; omega)⟩
          have LT := ord_at SRT.out hy HX.out (by omega)
          obtain ⟨gy, ey, y0, y1, y2⟩ := (O1.out.below BW3.out).cell hy
          obtain rfl : gy = g := by cases ey; rfl
          clear hy ey hj hk0 f1 f2 f3 f4
          unfold ltE at LT
          by_cases c1 : y.t < x.t
          · have t1 : decide ((y.t : Int) > (x.t : Int)) = false := by simp; omega
            have t1n : decide (x.t < y.t) = false := by simp; omega
            have t2 : ((y.t : Int) == (x.t : Int)) = false := by simp; omega
            have t2n : (y.t == x.t) = false := by simp; omega
            clear LT c1
            go_quiet (fail)
            go_wp2_with fail
            go_roundw
            case measure => simp [intOf]; omega
            case rel => exact ⟨k + 1, by omega, by simp, Ba.btr BW3.out (Ba.bdrew _ _)⟩
          · have e1 : y.t = x.t := by omega
            have t1 : decide ((y.t : Int) > (x.t : Int)) = false := by simp; omega
            have t1n : decide (x.t < y.t) = false := by simp; omega
            have t2 : ((y.t : Int) == (x.t : Int)) = true := by simp; omega
            have t2n : (y.t == x.t) = true := by simp; omega
            by_cases c2 : y.f < x.f
            · have t3 : decide ((y.f : Int) > (x.f : Int)) = false := by simp; omega
              have t3n : decide (x.f < y.f) = false := by simp; omega
              have t4 : ((y.f : Int) == (x.f : Int)) = false := by simp; omega
              have t4n : (y.f == x.f) = false := by simp; omega
              clear LT c1 c2 e1
              go_quiet (fail)
              go_wp2_with fail
              go_roundw
              case measure => simp [intOf]; omega
              case rel => exact ⟨k + 1, by omega, by simp, Ba.btr BW3.out (Ba.bdrew _ _)⟩
            · have e2 : y.f = x.f := by omega
              have t3 : decide ((y.f : Int) > (x.f : Int)) = false := by simp; omega
              have t3n : decide (x.f < y.f) = false := by simp; omega
              have t4 : ((y.f : Int) == (x.f : Int)) = true := by simp; omega
              have t4n : (y.f == x.f) = true := by simp; omega
              have t5 : decide ((y.r : Int) ≥ (x.r : Int)) = false := by simp; omega
              have t5n : decide (x.r ≤ y.r) = false := by simp; omega
              clear LT c1 c2 e1 e2
              go_quiet (fail)
              go_wp2_with fail
              go_roundw
              case measure => simp [intOf]; omega
              case rel => exact ⟨k + 1, by omega, by simp, Ba.btr BW3.out (Ba.bdrew _ _)⟩
      · have g5 : decide ((x.r : Int) > 1) = false := by simp; omega
        have g5' : decide (1 < x.r) = false := by simp; omega
        have BW3 := BW2
        clear hr
        go_upto_region 11 with fail
        clear g1 g1' g2 g3 g4 g5 g5'
        rcases Nat.eq_zero_or_pos k with hk0 | hk0
        · have q1 : decide ((k : Int) > 0) = false := by simp; omega
          have q2 : decide (0 < k) = false := by simp; omega
          clear hk0 f1 f2 f3 f4
          go_quiet (fail)
          go_wp2_with fail
          go_roundw
          case measure => simp [intOf]; omega
          case rel => exact ⟨k + 1, by omega, by simp, Ba.btr BW3.out (Ba.bdrew _ _)⟩
        · obtain ⟨j, hj⟩ : ∃ j, k = j + 1 := ⟨k - 1, by omega⟩
          have q1 : decide ((k : Int) > 0) = true := by simp; omega
          have q2 : decide (0 < k) = true := by simp; omega
          have hj' : (k : Int) - 1 = (j : Int) := by omega
          have hjw : IntKind.i64.wrap (j : Int) = (j : Int) := by rw [IntKind.wrap_i64]; omega
          have j0 : (0 : Int) ≤ (j : Int) := by omega
          have j1 : (j : Int) < (n : Int) := by omega
          obtain ⟨y, hy⟩ : ∃ y, A[j]? = some y := ⟨_, List.getElem?_eq_getElem (by rw [HN.out]; omega)⟩
          have LT := ord_at SRT.out hy HX.out (by omega)
          obtain ⟨gy, ey, y0, y1, y2⟩ := (O1.out.below BW3.out).cell hy
          obtain rfl : gy = g := by cases ey; rfl
          clear hy ey hj hk0 f1 f2 f3 f4
          unfold ltE at LT
          by_cases c1 : y.t < x.t
          · have t1 : decide ((y.t : Int) > (x.t : Int)) = false := by simp; omega
            have t1n : decide (x.t < y.t) = false := by simp; omega
            have t2 : ((y.t : Int) == (x.t : Int)) = false := by simp; omega
            have t2n : (y.t == x.t) = false := by simp; omega
            clear LT c1
            go_quiet (fail)
            go_wp2_with fail
            go_roundw
            case measure => simp [intOf]; omega
            case rel => exact ⟨k + 1, by omega, by simp, Ba.btr BW3.out (Ba.bdrew _ _)⟩
          · have e1 : y.t = x.t := by omega
            have t1 : decide ((y.t : Int) > (x.t : Int)) = false := by simp; omega
            have t1n : decide (x.t < y.t) = false := by simp; omega
            have t2 : ((y.t : Int) == (x.t : Int)) = true := by simp; omega
            have t2n : (y.t == x.t) = true := by simp; omega
            by_cases c2 : y.f < x.f
            · have t3 : decide ((y.f : Int) > (x.f : Int)) = false := by simp; omega
              have t3n : decide (x.f < y.f) = false := by simp; omega
              have t4 : ((y.f : Int) == (x.f : Int)) = false := by simp; omega
              have t4n : (y.f == x.f) = false := by simp; omega
              clear LT c1 c2 e1
              go_quiet (fail)
              go_wp2_with fail
              go_roundw
              case measure => simp [intOf]; omega
              case rel => exact ⟨k + 1, by omega, by simp, Ba.btr BW3.out (Ba.bdrew _ _)⟩
            · have e2 : y.f = x.f := by omega
              have t3 : decide ((y.f : Int) > (x.f : Int)) = false := by simp; omega
              have t3n : decide (x.f < y.f) = false := by simp; omega
              have t4 : ((y.f : Int) == (x.f : Int)) = true := by simp; omega
              have t4n : (y.f == x.f) = true := by simp; omega
              have t5 : decide ((y.r : Int) ≥ (x.r : Int)) = false := by simp; omega
              have t5n : decide (x.r ≤ y.r) = false := by simp; omega
              clear LT c1 c2 e1 e2
              go_quiet (fail)
              go_wp2_with fail
              go_roundw
              case measure => simp [intOf]; omega
              case rel => exact ⟨k + 1, by omega, by simp, Ba.btr BW3.out (Ba.bdrew _ _)⟩
    · have dl : decide ((k : Int) < (n : Int)) = false := by simp; omega
      go_wp2_with fail
      refine (FV.out _).mono ?_
      rintro r w2 ⟨rfl, b2⟩
      have B2 := Ba.hide (Ba.btr (Ba.btr B1.out HB.out) b2)
      clear b2
      go_wp2_with fail
      go_ret
      exact ⟨rfl, B2.out⟩

/-! ### the row -/
set_option maxRecDepth 100000 in
theorem lifted (os : Os) (started : os.Started) (H : Type) (enc : TypeId × Value → H) :
    ReturnsInHanded {} Tryz.checked os 5 .any (Rows.edgeForwardSpec.pre6 enc Tryz.prog Tryz.f5 Rows.edgeForwardRow.domain false) (Rows.edgeForwardSpec.post enc Tryz.prog Tryz.f5 false true false false) := by
  refine returnsInHanded_of_change (C := Tryz.checked) own started (by kernel_rfl) Tryz.func5
    (ChangeSpec.witness6 (enc := enc) (C := Tryz.checked) false ⟨#[], #[.slice none 0 0], []⟩ 8 (by kernel_rfl) (by kernel_rfl) (by kernel_rfl) (by kernel_rfl)) ?_
  intro W base args ds gs before hval0 hW hcnd _
  have hval : ∀ (j : Nat) t v, Tryz.f5.params[j]? = some t → args[j]? = some v → Value.okWide Tryz.prog W .any base t v := hval0
  have hW' := hW
  obtain ⟨p, q, hA0, hV, rfl, hfz, hnd⟩ := hW
  have hA : DataW.TrodAll enc Tryz.prog W 0 (fun _ => true) true Tryz.f5.params.toList args.toList ds p := hA0
  rw [Tryz.params5] at hA hval
  obtain ⟨v0, vs0, d0, ds0, p0, q0, hargs, rfl, rfl, h0, r0⟩ := trodAll_cons hA
  obtain ⟨rfl, rfl, rfl⟩ := trodAll_nil r0
  obtain rfl : args = #[v0] := by cases args; simp_all
  obtain ⟨rfl, rfl⟩ := trodVars_none hV
  obtain ⟨oa0, n0, c0, rfl⟩ := okWide_slice Tryz.underlying22 (hval 0 22 v0 rfl rfl)
  have k0 := h0
  have lt0 : ∀ x ∈ p0, x.block < W.heap.size := by obtain ⟨m, hm⟩ := k0; exact DataW.trod_lt m _ _ _ hm
  obtain ⟨l0, rfl, A0, C0, M0⟩ := h0.elim fun _ hf => Gu.events_openC hf
  clear hA0 hval0
  refine (core (w := W) oa0 l0 c0 A0 (Nat.le_trans C0 M0)).mono fun e W' ⟨he, bel⟩ => ?_
  subst he
  exact ⟨_, rfl, _, _, _, [], _, [], hW', trodAll_mk1 (shut_bool Tryz.underlying4 _), (trodAll_cons_mk (Below.trod laidOut (by kernel_rfl) (of_decide_eq_true (by kernel_rfl)) k0 bel lt0) trodAll_mk0), rfl, bel.frame _, fun h => by cases h⟩

theorem over : Rows.edgeForwardRow.holds Tryz.pinned (OpenSpec.ofChange Rows.edgeForwardSpec) :=
  OpenClaim.holds_of_wide 5 Tryz.f5 rfl rfl rfl rfl rfl rfl rfl ⟨rfl, rfl, rfl, rfl, rfl⟩ rfl rfl rfl rfl rfl (by kernel_rfl) Tryz.func5 (by kernel_rfl)
    (of_decide_eq_true (by kernel_rfl)) (by unfold Func.isWrapper; first | (rw [if_pos (by decide +kernel)]; kernel_rfl) | (rw [if_neg (by decide +kernel)]; exact ⟨rfl, rfl⟩))
    (fun os started H enc _ => lifted os started H enc)

/-- the statement -/
theorem proved : Rows.EdgeForwardSaid := over
#print axioms proved
end Go.Proofs.YtiobcfldnfiiaaaGreat.edgeForward
