/- At each place each tid is one's at most, whatever steps are done with a table. -/
import Derived.Test.YtledfepeoajgoaaUb1
import Derived.ShutString
import Derived.ChangeOld
import Derived.Below
namespace Go.Proofs.Ytledfepeoajgoaa.remapOne
open Go.ChangeShapes Go.WideShapes Go.ChangeAt Go.RowKit
open Go.ChangeMaps (open_string shut_string)
open Rk Ba

theorem own : ownKnob Try.prog.godebug = none := by kernel_rfl
theorem laidOut : laidOutB Try.prog = true := by kernel_rfl

set_option maxRecDepth 100000 in
set_option maxHeartbeats 12800000 in
theorem core {w : World} (oa : Option Addr) (L : List (List Int)) (c : Nat) (hA : RAt w oa 4 L) (hl : L.length ≤ maxLen) (tid at_ : Int) :
    Calls Try.prog 4 #[.slice oa L.length c, .int .i64 tid, .int .i64 at_] w fun r w' => r = .returned (.bool true) ∧ Below w.heap.size w w' := by
  have HA := hide hA
  unfold maxLen at hl
  have TU := hide fun u => turns_any u
  clear hA
  by_cases h3 : 200 < L.length
  · have h3' : (200 : Int) < (L.length : Int) := by omega
    go_enter Try.func4, Try.ntmps4
    go_wp2_with fail
    refine (new_x _).mono ?_
    rintro r w1 ⟨B, rfl, p1⟩
    have B1 := hide p1.b
    clear p1
    go_wp2_with fail
    refine (TU.out _).mono ?_
    rintro r w2 ⟨rfl, b2⟩
    have B2 := hide (btr B1.out b2)
    clear b2
    go_wp2_with fail
    go_ret
    exact ⟨rfl, B2.out⟩
  have h3' : ¬ (200 : Int) < (L.length : Int) := by omega
  go_enter Try.func4, Try.ntmps4
  go_wp2_with fail
  refine (new_x _).mono ?_
  rintro r w1 ⟨B, rfl, p1⟩
  have P1 := hide p1
  clear p1
  go_wp2_with fail
  go_loopw [8, 33] (fun now i wr => ∃ (k : Nat) (n : Int) (l : List Rd), k ≤ L.length ∧ now = .int .i64 n ∧ i = .int .i64 k ∧ Go k l ∧ Tx w wr B l) (fun _ i _ => L.length - (intOf i).toNat)
  case atStart => exact ⟨0, -1, _, Nat.zero_le _, rfl, rfl, Go.one, P1.out⟩
  case round =>
    clear P1
    obtain ⟨k, n, l, hk, rfl, rfl, g1, t1⟩ := hrel
    have GO := hide g1
    have TX := hide t1
    clear g1 t1
    by_cases hlt : k < L.length
    · have hlt' : (k : Int) < (L.length : Int) := by omega
      obtain ⟨x, hx⟩ : ∃ x, L[k]? = some x := ⟨_, List.getElem?_eq_getElem hlt⟩
      obtain ⟨b', o', rfl, hc⟩ := (HA.out.below TX.out.b) k x hx
      have q0 := hc 0 (by decide)
      have q1 := hc 1 (by decide)
      have q2 := hc 2 (by decide)
      have q3 := hc 3 (by decide)
      rw [Nat.add_zero] at q0
      clear hc hx
      generalize nth x 0 = sq at q0
      generalize nth x 1 = sg at q1
      generalize nth x 2 = sn at q2
      generalize nth x 3 = sa at q3
      have T2 := hide (TX.out.below (below_alloc wr (.cells #[.int .i64 sq, .int .i64 sg, .int .i64 sn, .int .i64 sa] 29)))
      have BN := hide fun u (hu : Tx w u B l) => born_x hu sg sn sa GO.out.gd (by have := GO.out.le; omega)
      have GN := hide fun u (hu : Tx w u B l) => gone_x hu sg sa sn GO.out.gd (by have := GO.out.le; omega)
      have G2 := hide (GO.out.born sg sn sa)
      have G3 := hide (GO.out.gone sg sa sn)
      generalize bnE l sg sn sa = e1 at BN
      generalize gnE l sg sa sn = e2 at GN
      by_cases hsa : sa < n
      · go_wp2_with fail
        go_roundw
        case rel => exact ⟨k + 1, n, l, by omega, rfl, by go_num, GO.out.mono (by omega), T2.out⟩
        case measure => simp [intOf]; omega
      by_cases hsq : sq < 2
      · go_wp2_with fail
        generalize wr.alloc (.cells #[.int .i64 sq, .int .i64 sg, .int .i64 sn, .int .i64 sa] 29) = W at T2 ⊢
        refine (BN.out _ T2.out).mono ?_
        rintro r w4 ⟨rfl, t4⟩
        have T4 := hide t4
        clear t4
        go_wp2_with fail
        go_roundw
        case rel => exact ⟨k + 1, sa, _, by omega, rfl, by go_num, G2.out, T4.out⟩
        case measure => simp [intOf]; omega
      · go_wp2_with fail
        generalize wr.alloc (.cells #[.int .i64 sq, .int .i64 sg, .int .i64 sn, .int .i64 sa] 29) = W at T2 ⊢
        refine (GN.out _ T2.out).mono ?_
        rintro r w4 ⟨rfl, t4⟩
        have T4 := hide t4
        clear t4
        go_wp2_with fail
        go_roundw
        case rel => exact ⟨k + 1, sa, _, by omega, rfl, by go_num, G3.out, T4.out⟩
        case measure => simp [intOf]; omega
    · have hlt' : ¬ ((k : Int) < (L.length : Int)) := by omega
      have AL := hide (all_x TX.out (by have := GO.out.le; omega))
      have OW := hide fun u (hu : Tx w u B l) => owner_x hu tid at_ (by have := GO.out.le; omega)
      have OF := hide fun g u (hu : Tx w u B l) => of_x hu g GO.out.gd (by have := GO.out.le; omega)
      have CI := hide (cnt_is tid at_ GO.out.gd.ok GO.out.un)
      have hll : l.length ≤ 10000 := by have := GO.out.le; omega
      obtain ⟨N, hN⟩ : ∃ N, l.length = N := ⟨_, rfl⟩
      have HN := hide hN
      rw [hN] at AL hll
      clear hN
      go_wp2_with fail
      refine AL.out.mono ?_
      rintro r w2 ⟨ob, d, rfl, a2, b2⟩
      have A2 := hide a2
      have T2 := hide (TX.out.below b2)
      clear a2 b2 TX AL
      go_wp2_with fail
      go_loopw [11, 66] (fun cn i wr => ∃ (j m : Nat), j ≤ N ∧ m ≤ j ∧ cn = .int .i64 (m : Int) ∧ i = .int .i64 j ∧ Hid (cnt (l.take j) tid at_ = m) ∧ Below w2.heap.size w2 wr) (fun _ i _ => N - (intOf i).toNat)
      case atStart => exact ⟨0, 0, Nat.zero_le _, Nat.le_refl _, rfl, rfl, rfl, Below.refl _ _⟩
      case round =>
        obtain ⟨j, m, hj, hmj, rfl, rfl, CM, bl⟩ := hrel
        have BL := hide bl
        clear bl
        by_cases hjt : j < N
        · have hjt' : (j : Int) < (N : Int) := by omega
          obtain ⟨x, hx⟩ : ∃ x, l[j]? = some x := ⟨_, List.getElem?_eq_getElem (by rw [HN.out]; exact hjt)⟩
          obtain ⟨b', rfl, c0, c1, c2, c3, c4, c5⟩ := (A2.out.below BL.out) j x hx
          have RF := hide fun u => ref_any x u
          have HS := hide fun u => has_any x tid at_ u
          rw [hsR_ok (GO.out.gd.ok x (List.mem_of_getElem? hx))] at HS
          have CT := hide (cnt_take hx tid at_)
          rw [CM.out] at CT
          have B2 := hide (btr BL.out (below_alloc wr (.cells #[.int .i64 x.g, .int .i64 x.t, .int .i64 x.f, .bool x.b, .int .i64 x.l, .int .i64 x.c] 32)))
          unfold rv at RF HS
          clear hx
          generalize hsT x tid at_ = z at HS CT
          obtain ⟨xg, xt, xf, xb, xl, xc⟩ := x
          simp only at *
          cases z
          · have CN : Hid (cnt (l.take (j + 1)) tid at_ = m) := CT.out
            clear CT
            go_wp2_with fail
            generalize wr.alloc (.cells #[.int .i64 xg, .int .i64 xt, .int .i64 xf, .bool xb, .int .i64 xl, .int .i64 xc] 32) = W at *
            refine (RF.out _).mono ?_
            rintro r w3 ⟨rfl, b3⟩
            have B3 := hide (btr B2.out b3)
            clear b3
            go_wp2_with fail
            refine (HS.out _).mono ?_
            rintro r w4 ⟨rfl, b4⟩
            have B4 := hide (btr B3.out b4)
            clear b4
            go_wp2_with fail
            go_roundw
            case rel => exact ⟨j + 1, m, by omega, by omega, rfl, by go_num, CN.out, B4.out⟩
            case measure => simp [intOf]; omega
          · have CN : Hid (cnt (l.take (j + 1)) tid at_ = m + 1) := CT.out
            clear CT
            go_wp2_with fail
            generalize wr.alloc (.cells #[.int .i64 xg, .int .i64 xt, .int .i64 xf, .bool xb, .int .i64 xl, .int .i64 xc] 32) = W at *
            refine (RF.out _).mono ?_
            rintro r w3 ⟨rfl, b3⟩
            have B3 := hide (btr B2.out b3)
            clear b3
            go_wp2_with fail
            refine (HS.out _).mono ?_
            rintro r w4 ⟨rfl, b4⟩
            have B4 := hide (btr B3.out b4)
            clear b4
            go_wp2_with fail
            go_roundw
            case rel => exact ⟨j + 1, m + 1, by omega, by omega, by go_num, by go_num, CN.out, B4.out⟩
            case measure => simp [intOf]; omega
        · have hjt' : ¬ ((j : Int) < (N : Int)) := by omega
          have hcm : Hid (m = if (ow1 l tid at_).isSome then 1 else 0) := by
            show m = _
            have e := CM.out
            rw [List.take_of_length_le (by rw [HN.out]; omega)] at e
            rw [← e]
            exact CI.out
          have T3 := hide (T2.out.below BL.out)
          have OH := hide (fun x => @ow_has l tid at_ x)
          have SF := hide (fun (x : Rd) (hx : x ∈ l) => by
            obtain ⟨i, hi, e⟩ := List.getElem_of_mem hx
            exact GO.out.gd.srt.fd (x := x) (k := i) (by rw [List.getElem?_eq_getElem hi, e]))
          clear A2 CI T2 BL CM
          generalize ow1 l tid at_ = O at OW hcm OH
          cases O with
          | none =>
            have hm : m = 0 := hcm.out
            subst hm
            unfold owG at OW
            simp only [Option.isSome_none] at OW
            clear OH SF hcm
            have OF2 := hide (OF.out 0)
            generalize fdR (fd l 0) = y at OF2
            generalize hs l 0 = z at OF2
            obtain ⟨yg, yt, yf, yb, yl, yc⟩ := y
            unfold rv at OF2
            simp only at OF2
            go_wp2_with fail
            refine (OW.out _ T3.out).mono ?_
            rintro r w3 ⟨rfl, b3⟩
            have T4 := hide (T3.out.below b3)
            clear b3
            go_wp2_with fail
            refine (OF2.out _ T4.out).mono ?_
            rintro r w4 ⟨rfl, b4⟩
            have T5 := hide (T4.out.below b4)
            clear b4
            go_wp2_with fail
            refine (TU.out _).mono ?_
            rintro r w5 ⟨rfl, b5⟩
            have B5 := hide (btr (btr T5.out.b (below_alloc _ _)) b5)
            clear b5
            go_wp2_with fail
            go_ret
            exact ⟨rfl, B5.out⟩
          | some x =>
            have hm : m = 1 := hcm.out
            subst hm
            obtain ⟨xm, xh⟩ := OH.out x rfl
            unfold owG at OW
            simp only [Option.isSome_some] at OW
            have OF2 := hide (OF.out x.g)
            rw [SF.out x xm] at OF2
            unfold fdR at OF2
            simp only [Option.getD_some] at OF2
            generalize hs l x.g = z at OF2
            unfold hsT at xh
            clear OH SF hcm xm
            obtain ⟨yg, yt, yf, yb, yl, yc⟩ := x
            unfold rv at OF2
            simp only at OF2 xh OW
            rw [Bool.and_eq_true, Bool.and_eq_true] at xh
            obtain ⟨u1, u2, -⟩ := xh
            go_wp2_with fail
            refine (OW.out _ T3.out).mono ?_
            rintro r w3 ⟨rfl, b3⟩
            have T4 := hide (T3.out.below b3)
            clear b3
            go_wp2_with fail
            refine (OF2.out _ T4.out).mono ?_
            rintro r w4 ⟨rfl, b4⟩
            have T5 := hide (T4.out.below b4)
            clear b4
            go_wp2_with fail
            refine (TU.out _).mono ?_
            rintro r w5 ⟨rfl, b5⟩
            have B5 := hide (btr (btr T5.out.b (below_alloc _ _)) b5)
            clear b5
            go_wp2_with fail
            go_ret
            exact ⟨rfl, B5.out⟩

/-! ### the row -/
set_option maxRecDepth 100000 in
theorem lifted (os : Os) (started : os.Started) (H : Type) (enc : TypeId × Value → H) :
    ReturnsInHanded {} Try.checked os 4 .any (Rows.remapOneSpec.pre6 enc Try.prog Try.f4 Rows.remapOneRow.domain false) (Rows.remapOneSpec.post enc Try.prog Try.f4 false true false false) := by
  refine returnsInHanded_of_change (C := Try.checked) own started (by kernel_rfl) Try.func4
    (ChangeSpec.witness6 (enc := enc) (C := Try.checked) false ⟨#[], #[.slice none 0 0, .int .i64 0, .int .i64 0], []⟩ 8 (by kernel_rfl) (by kernel_rfl) (by kernel_rfl) (by kernel_rfl)) ?_
  intro W base args ds gs before hval0 hW hcnd _
  have hval : ∀ (j : Nat) t v, Try.f4.params[j]? = some t → args[j]? = some v → Value.okWide Try.prog W .any base t v := hval0
  have hW' := hW
  obtain ⟨p, q, hA0, hV, rfl, hfz, hnd⟩ := hW
  have hA : DataW.TrodAll enc Try.prog W 0 (fun _ => true) true Try.f4.params.toList args.toList ds p := hA0
  rw [Try.params4] at hA hval
  obtain ⟨v0, vs0, d0, ds0, p0, q0, hargs, rfl, rfl, h0, r0⟩ := trodAll_cons hA
  obtain ⟨v1, vs1, d1, ds1, p1, q1, rfl, rfl, rfl, h1, r1⟩ := trodAll_cons r0
  obtain ⟨v2, vs2, d2, ds2, p2, q2, rfl, rfl, rfl, h2, r2⟩ := trodAll_cons r1
  obtain ⟨rfl, rfl, rfl⟩ := trodAll_nil r2
  obtain rfl : args = #[v0, v1, v2] := by cases args; simp_all
  obtain ⟨rfl, rfl⟩ := trodVars_none hV
  obtain ⟨oa0, n0, c0, rfl⟩ := okWide_slice Try.underlying22 (hval 0 22 v0 rfl rfl)
  have k0 := h0
  have lt0 : ∀ x ∈ p0, x.block < W.heap.size := by obtain ⟨m, hm⟩ := k0; exact DataW.trod_lt m _ _ _ hm
  obtain ⟨l0, rfl, A0, C0, M0⟩ := h0.elim fun _ hf => steps_open hf
  obtain ⟨a1, rfl, rfl, rfl, w1⟩ := open_int Try.underlying3 (hval 1 3 v1 rfl rfl) h1
  obtain ⟨a2, rfl, rfl, rfl, w2⟩ := open_int Try.underlying3 (hval 2 3 v2 rfl rfl) h2
  clear hA0 hval0
  refine (core (w := W) oa0 l0 c0 A0 (Nat.le_trans C0 M0) a1 a2).mono fun e W' ⟨he, bel⟩ => ?_
  subst he
  exact ⟨_, rfl, _, _, _, [], _, [], hW', trodAll_mk1 (shut_bool Try.underlying4 _), (trodAll_cons_mk (Below.trod laidOut (by kernel_rfl) (of_decide_eq_true (by kernel_rfl)) k0 bel lt0) (trodAll_cons_mk (shut_int Try.underlying3 w1) (trodAll_cons_mk (shut_int Try.underlying3 w2) trodAll_mk0))), rfl, bel.frame _, fun h => by cases h⟩

theorem over : Rows.remapOneRow.holds Try.pinned (OpenSpec.ofChange Rows.remapOneSpec) :=
  OpenClaim.holds_of_wide 4 Try.f4 rfl rfl rfl rfl rfl rfl rfl ⟨rfl, rfl, rfl, rfl, rfl⟩ rfl rfl rfl rfl rfl (by kernel_rfl) Try.func4 (by kernel_rfl)
    (of_decide_eq_true (by kernel_rfl)) (by unfold Func.isWrapper; first | (rw [if_pos (by decide +kernel)]; kernel_rfl) | (rw [if_neg (by decide +kernel)]; exact ⟨rfl, rfl⟩))
    (fun os started H enc _ => lifted os started H enc)

/-- the statement -/
theorem proved : Rows.RemapOneSaid := over
#print axioms proved
end Go.Proofs.Ytledfepeoajgoaa.remapOne
