/- Whatever size and whatever steps there are (sends, receives, a close, tids that are dropped), slots answer each step as the document says, and all that is kept says the same: SlotsSteps is true for every size and every list. -/
import Derived.Test.YtekdcfdjohlfcaaTz
import Derived.Deep.Cut
import Derived.Deep.DeepCutAuto
import Derived.ShutString
import Derived.ChangeOld
import Derived.Below
namespace Go.Proofs.Ytekdcfdjohlfcaa.slotsSteps
open Go.ChangeShapes Go.WideShapes Go.ChangeAt Go.RowKit
open Go.ChangeMaps (open_string shut_string)
open Sl Ck

theorem own : ownKnob Try.prog.godebug = none := by kernel_rfl
theorem laidOut : laidOutB Try.prog = true := by kernel_rfl

set_option maxRecDepth 100000 in
set_option maxHeartbeats 12800000 in
theorem core {w : World} (n : Int) (oa : Option Addr) (l : List (List Int × List Int)) (c : Nat) (hJ : Ba.JAt w oa 2 l) :
    Calls Try.prog 3 #[.int .i64 n, .slice oa l.length c] w fun r w' => r = .returned (.bool true) ∧ Below w.heap.size w w' := by
  have HJ := hide hJ
  clear hJ
  by_cases hn : n < 0 ∨ 4 < n
  · have NB := hide (new_bad n w hn)
    have NR := hide (rnew_bad (w := w) hn)
    clear hn
    go_enter Try.func3, Try.ntmps3
    go_wp2_with fail
    refine NB.out.mono ?_
    rintro r w1 ⟨rfl, e1⟩
    obtain rfl := e1.symm
    go_wp2_with fail
    refine NR.out.mono ?_
    rintro r w1 ⟨rfl, e1⟩
    obtain rfl := e1.symm
    go_wp2_with fail
    refine (fetches_any _).mono ?_
    rintro r w3 ⟨rfl, b3⟩
    have B3 := hide b3
    clear b3
    go_wp2_with fail
    go_ret
    exact ⟨rfl, B3.out⟩
  obtain ⟨m, rfl⟩ : ∃ m : Nat, n = (m : Int) := ⟨n.toNat, by omega⟩
  have hm : m ≤ 4 := by omega
  have NW := hide (new_any m (Lw w) h0 w hm (cx0 w))
  have NR := hide (fun u => rnew_ok (w := u) hm)
  have HM := hide hm
  clear hm hn
  obtain ⟨N, hN⟩ : ∃ N, l.length = N := ⟨_, rfl⟩
  have HN := hide hN
  rw [hN]
  clear hN
  by_cases hl : 150 < N
  · have d : decide (150 < (N : Int)) = true := decide_eq_true (by omega)
    go_enter Try.func3, Try.ntmps3
    go_wp2_with fail
    refine NW.out.mono ?_
    rintro r w1 ⟨S, rfl, s1, b1⟩
    have B1 := hide b1
    clear s1 b1 NW
    go_wp2_with fail
    refine (NR.out _).mono ?_
    rintro r w2 ⟨rfl, -, e2⟩
    have B2 := hide (btr B1.out (show Below w1.heap.size w1 w2 by rw [e2]; exact below_alloc _ _))
    clear e2
    go_wp2_with fail
    refine (fetches_any _).mono ?_
    rintro r w3 ⟨rfl, b3⟩
    have B3 := hide (btr B2.out b3)
    clear b3
    go_wp2_with fail
    go_ret
    exact ⟨rfl, B3.out⟩
  have d : decide (150 < (N : Int)) = false := decide_eq_false (by omega)
  go_enter Try.func3, Try.ntmps3
  go_wp2_with fail
  refine NW.out.mono ?_
  rintro r w1 ⟨S, rfl, s1, b1⟩
  have S1 := hide s1
  have B1 := hide b1
  clear s1 b1 NW
  go_wp2_with fail
  refine (NR.out _).mono ?_
  rintro r w2 ⟨rfl, r2, e2⟩
  have b2 : Below w1.heap.size w1 w2 := by rw [e2]; exact below_alloc _ _
  have I0 : Hid (IV w S w1.heap.size w2 0) := ⟨_, _, _, jh_zero S1.out B1.out r2 b2, CR.zero m h0, Nat.le_refl _, HM.out, Kp.of (btr B1.out b2) fun _ q => q⟩
  clear r2 e2 b2 S1 B1 NR
  obtain ⟨G, hG⟩ : ∃ G, w1.heap.size = G := ⟨_, rfl⟩
  rw [hG] at I0 ⊢
  clear hG
  go_wp2_with fail
  rename World => w00
  go_loopw [53] (fun i wr => ∃ k : Nat, k ≤ N ∧ i = .int .i64 (k : Int) ∧ IV w S G wr k) (fun i _ => N - (intOf i).toNat)
  case atStart => exact ⟨0, Nat.zero_le _, rfl, I0.out⟩
  case round =>
    clear I0
    obtain ⟨k, hkl, rfl, iv⟩ := hrel
    have IVH := hide iv
    clear iv
    by_cases hlt : k < N
    · have hlt' : (k : Int) < (N : Int) := by omega
      obtain ⟨x, hx⟩ : ∃ x, l[k]? = some x := ⟨_, List.getElem?_eq_getElem (by have := HN.out; omega)⟩
      obtain ⟨st, h, rs, j, cr, hls, hsz, kp⟩ := IVH.out
      have CRH := hide cr
      have HS := hide (And.intro hls hsz)
      have KP := hide kp
      obtain ⟨b0, off, rfl, hI⟩ := HJ.out.below (Kp.lw kp) k x hx
      obtain ⟨h1, ca, cc, h2, h3, h4, h5⟩ := hI
      have c0 := h1 0 (by decide)
      have c1 := h1 1 (by decide)
      rw [Nat.add_zero] at c0
      have A3 := hide (show Ck.At wr ca x.2 from h3)
      generalize Ba.nth x.1 0 = x0 at *
      generalize Ba.nth x.1 1 = x1 at *
      obtain ⟨xl, hxl⟩ : ∃ xl, x.2 = xl := ⟨_, rfl⟩
      rw [hxl] at h2 h4 A3
      clear h1 h3 hx hxl
      obtain ⟨nx, hnx⟩ : ∃ nx, xl.length = nx := ⟨_, rfl⟩
      rw [hnx] at h2 h4
      have BA := hide (below_alloc wr (.cells #[.int .i64 x0, .int .i64 x1, .slice ca nx cc] 33))
      have JN := hide (j.new (.cells #[.int .i64 x0, .int .i64 x1, .slice ca nx cc] 33))
      have X10 := hide (heap_new wr (.cells #[.int .i64 x0, .int .i64 x1, .slice ca nx cc] 33))
      have KN := hide (kp_b kp BA.out j.ylt)
      have AN := hide (A3.out.below BA.out)
      have HNX := hide hnx
      have H45 := hide (And.intro h4 h5)
      clear j cr hls hsz kp A3 h4 h5 hnx
      by_cases hv : xl.length ≤ 256 ∧ Valid xl
      case neg =>
        obtain ⟨xe, O1, O2⟩ : ∃ xe : Int, Hid ((xe == 0) = false ∧ Calls Try.prog 8 #[.slice ca nx cc] (wr.alloc (.cells #[.int .i64 x0, .int .i64 x1, .slice ca nx cc] 33)) fun r w' => r = .returned (.tuple #[.pointer none, .int .i64 xe]) ∧ w' = (wr.alloc (.cells #[.int .i64 x0, .int .i64 x1, .slice ca nx cc] 33))) ∧ Hid (Calls Try.prog 9 #[.slice ca nx cc] (wr.alloc (.cells #[.int .i64 x0, .int .i64 x1, .slice ca nx cc] 33)) fun r w' => r = .returned (.tuple #[.agg (ra nf), .int .i64 xe]) ∧ Below (wr.alloc (.cells #[.int .i64 x0, .int .i64 x1, .slice ca nx cc] 33)).heap.size (wr.alloc (.cells #[.int .i64 x0, .int .i64 x1, .slice ca nx cc] 33)) w') := by
          have hx := HNX.out
          subst hx
          by_cases h : 256 < xl.length
          · exact ⟨2, ⟨rfl, of_long ca xl.length cc _ h (Nat.le_trans H45.out.1 H45.out.2)⟩, rof_long ca xl.length cc _ h (Nat.le_trans H45.out.1 H45.out.2)⟩
          · exact ⟨1, ⟨rfl, of_bad ca xl cc _ AN.out (by omega) (fun q => hv ⟨by omega, q⟩)⟩, rof_bad ca xl cc _ AN.out (by omega) (fun q => hv ⟨by omega, q⟩)⟩
        have hx0 := O1.out.1
        have O1 := hide O1.out.2
        have zr := zero_ref
        have zs := ra_size nf
        clear hv
        go_wp2_with fail
        generalize wr.alloc (.cells #[.int .i64 x0, .int .i64 x1, .slice ca nx cc] 33) = W10 at *
        generalize wr.heap.size = B10 at *
        refine O1.out.mono ?_
        rintro r w0 ⟨rfl, e0⟩
        obtain rfl := e0.symm
        have y2 : W10.cell? ⟨B10, 2, none⟩ = some (.slice ca nx cc) := cell_of X10.out 2
        have hB10 : B10 < W10.heap.size := Ba.heap_lt X10.out
        go_wp2_with fail
        refine O2.out.mono ?_
        rintro r w2 ⟨rfl, b2⟩
        have s1 := st_ref nf (heap_new w2 (.cells (ra nf) 39)) (ra_size nf)
        rw [setRow_new] at s1
        have IV3 : Hid (IV w S G (w2.alloc (.cells (ra nf) 39)) (k + 1)) := MV.iv (Y1 := fun x => Lw w x ∨ x = B10) ⟨fun x q => .inl q, _, _, _, JN.out.below (btr b2 (below_alloc _ _)), CRH.out, by have := HS.out.1; omega, HS.out.2, kp_b KN.out (btr b2 (below_alloc _ _)) fun x q => JN.out.ylt x (.inl q)⟩
        clear b2 O1 O2
        generalize ra nf = Z0 at *
        go_wp2_with fail
        go_roundw
        case rel => exact ⟨k + 1, by omega, by go_num, IV3.out⟩
        case measure => simp [intOf]; omega
      case pos =>
        have OF := hide (ofJ JN.out ca xl nx cc HNX.out AN.out H45.out.1 H45.out.2 (by have := HNX.out; have := hv.1; omega) hv.2)
        have RO := hide (fun u (b : Below (wr.alloc (.cells #[.int .i64 x0, .int .i64 x1, .slice ca nx cc] 33)).heap.size (wr.alloc (.cells #[.int .i64 x0, .int .i64 x1, .slice ca nx cc] 33)) u) => rof_ok ca xl cc u (AN.out.below b) hv.1 hv.2)
        rw [HNX.out] at RO
        have zr := zero_ref
        have zs := ra_size nf
        have vs_ := ra_size (nth xl)
        clear hv IVH
        go_wp2_with fail
        generalize wr.alloc (.cells #[.int .i64 x0, .int .i64 x1, .slice ca nx cc] 33) = W10 at *
        generalize wr.heap.size = B10 at *
        refine OF.out.mono ?_
        rintro r w2 ⟨a, h2', rfl, e2, ea, j2, b2⟩
        have J2 := hide j2
        have EA := hide ea
        have CR2 := hide (CRH.out.ext e2)
        have X2 := hide (Ba.heap_below X10.out b2)
        have K2 := hide (kp_b KN.out b2 fun x q => JN.out.ylt x (.inl q))
        have RO2 := hide (RO.out w2 b2)
        have y2 : w2.cell? ⟨B10, 2, none⟩ = some (.slice ca nx cc) := cell_of X2.out 2
        have hB10 : B10 < w2.heap.size := Ba.heap_lt X2.out
        clear j2 ea e2 b2 OF RO JN X10 KN CRH
        go_wp2_with fail
        refine RO2.out.mono ?_
        rintro r w3 ⟨rfl, b3⟩
        have st1 := st_ref (nth xl) (heap_new w3 (.cells (ra nf) 39)) (ra_size nf)
        rw [setRow_new] at st1
        have J3 := hide ((J2.out.below b3).new (.cells (ra (nth xl)) 39))
        have X3 := hide (Ba.heap_below X2.out (btr b3 (below_alloc w3 (.cells (ra (nth xl)) 39))))
        have Y3 := hide (heap_new w3 (.cells (ra (nth xl)) 39))
        have K3 := hide (kp_b K2.out (btr b3 (below_alloc w3 (.cells (ra (nth xl)) 39))) fun x q => J2.out.ylt x (.inl q))
        have GD := hide (good_trm xl)
        clear b3 J2 X2 K2 RO2 y2 hB10
        obtain ⟨F, hF⟩ : ∃ F, nth xl = F := ⟨_, rfl⟩
        rw [hF] at st1 J3 X3 Y3 K3 GD vs_ ⊢
        clear hF
        obtain ⟨V, hV⟩ : ∃ V, ra F = V := ⟨_, rfl⟩
        obtain ⟨Z0, hZ0⟩ : ∃ Z0, ra nf = Z0 := ⟨_, rfl⟩
        rw [hV] at st1 J3 X3 Y3 K3 vs_ ⊢
        rw [hZ0] at st1 zr zs
        have HV := hide (And.intro hV hZ0)
        clear hV hZ0
        go_upto_region 15 with fail
        clear st1 zr zs
        generalize w3.alloc (.cells V 39) = W3 at *
        generalize w3.heap.size = B13 at *
        obtain ⟨Y1, hY1⟩ : ∃ Y1 : Nat → Prop, Y1 = fun x => (fun x => Lw w x ∨ x = B10) x ∨ x = B13 := ⟨_, rfl⟩
        have YB : Hid (Y1 B10 ∧ Y1 B13) := by rw [hY1]; exact ⟨.inl (.inr rfl), .inr rfl⟩
        have YI : Hid (∀ x, Lw w x → Y1 x) := by rw [hY1]; exact fun x q => .inl (.inl q)
        have J3' : Hid (JH Y1 S G W3 st h2' rs) := by rw [hY1]; exact J3.out
        clear hY1 J3
        have J3 := J3'
        clear J3'
        have x0c : W3.cell? ⟨B10, 0, none⟩ = some (.int .i64 x0) := cell_of X3.out 0
        have hB10 : B10 < W3.heap.size := Ba.heap_lt X3.out
        have key : (x0 = 0 ∨ x0 = 1) ∨ (x0 = 2 ∨ x0 = 3) ∨ x0 = 4 ∨ x0 = 5 ∨ ((x0 == 0) = false ∧ (x0 == 1) = false ∧ (x0 == 2) = false ∧ (x0 == 3) = false ∧ (x0 == 4) = false ∧ (x0 == 5) = false) := by
          simp only [beq_eq_false_iff_ne]
          omega
        rcases key with (rfl | rfl) | (rfl | rfl) | rfl | rfl | ⟨e0, e1, e2, e3, e4, e5⟩
        case inl.inl | inl.inr =>
          all_goals
            have SP := hide (sendP J3.out CR2.out (by have := HS.out.1; omega) a _ EA.out F GD.out)
            go_wp2_with fail
            refine SP.out.mono ?_
            rintro r w4 ⟨p, st4, h4', rfl, -, j4, k4, cr4, pf4⟩
            have J4 := hide j4
            have C4 := hide cr4
            have PF4 := hide pf4
            have K4 := hide (K3.out.trans (Kp.mono k4 YI.out))
            have Y4 : w4.heap[B13]? = some (.cells V 39 (0, 0)) := (k4.block B13 YB.out.2).trans Y3.out
            have LD := hide (ldv_ref (RA.of (show w4.heap[B13]? = some (.cells (ra F) 39 (0, 0)) by rw [HV.out.1]; exact Y4)))
            rw [HV.out.1] at LD
            have SQ := hide (sendQ J4.out CR2.out.le (by have := HS.out.1; omega) HS.out.2 F)
            rw [HV.out.1] at SQ
            obtain ⟨F4, hF4⟩ := rfv_is (seF rs)
            rw [hF4] at SQ
            obtain ⟨q4, hq4⟩ := clv_ptr p
            rw [hq4]
            have LEN := hide (se_len rs F)
            clear j4 k4 cr4 pf4 SP Y4
            have zf := zero_f
            have zs := fe_size nf false
            have fs := fe_size F4 (seF rs).isSome
            obtain ⟨b4, hb4⟩ : ∃ b4, (seF rs).isSome = b4 := ⟨_, rfl⟩
            rw [hb4] at SQ fs
            go_wp2_with (refine wpL_load rfl 39 _ rfl _ _ rfl LD.out ?_)
            refine SQ.out.mono ?_
            rintro r w5 ⟨rfl, j5, k5⟩
            have stf := sc_fe F4 b4 (heap_new w5 (.cells (fe nf false) 44)) (fe_size nf false)
            rw [setRow_fe] at stf
            have K5 := hide (K4.out.trans (Kp.mono k5 YI.out))
            have SM := hide (same_pf (j5.below (below_alloc w5 (.cells (fe F4 b4) 44))) PF4.out)
            rw [hF4, hb4, hq4] at SM
            have MV5 : Hid (MV w Y1 S G (w5.alloc (.cells (fe F4 b4) 44)) (k + 1)) := MV.below ⟨YI.out, _, _, _, j5, C4.out, by have := LEN.out.1; have := HS.out.1; omega, by rw [LEN.out.2]; exact HS.out.2, K5.out⟩ (below_alloc _ _)
            have LD5 := hide (ldv_fe (heap_new w5 (.cells (fe F4 b4) 44)))
            clear j5 k5 hF4 hq4 hb4 LD SQ K4 J4 C4 PF4
            generalize fe F4 b4 = R4 at *
            generalize fe nf false = Z4 at *
            go_wp2_with (refine wpL_load rfl 44 _ rfl _ _ rfl LD5.out ?_)
            refine SM.out.mono ?_
            rintro r w6 ⟨rfl, b6⟩
            have LO := hide (looks_mv (MV5.out.below b6) (by omega))
            clear b6 MV5 LD5 stf SM
            go_wp2_with fail
            refine LO.out.mono ?_
            rintro r w9 ⟨rfl, iv9⟩
            have IV9 := hide iv9
            clear iv9 LO
            go_wp2_with fail
            go_roundw
            case rel => exact ⟨k + 1, by omega, by go_num, IV9.out⟩
            case measure => simp [intOf]; omega
        case inr.inl.inl | inr.inl.inr =>
          all_goals
            have SP := hide (recvP J3.out CR2.out (by have := HS.out.1; omega) a _ EA.out F GD.out)
            go_wp2_with fail
            refine SP.out.mono ?_
            rintro r w4 ⟨p, st4, h4', rfl, -, j4, k4, cr4, pf4⟩
            have J4 := hide j4
            have C4 := hide cr4
            have PF4 := hide pf4
            have K4 := hide (K3.out.trans (Kp.mono k4 YI.out))
            have Y4 : w4.heap[B13]? = some (.cells V 39 (0, 0)) := (k4.block B13 YB.out.2).trans Y3.out
            have LD := hide (ldv_ref (RA.of (show w4.heap[B13]? = some (.cells (ra F) 39 (0, 0)) by rw [HV.out.1]; exact Y4)))
            rw [HV.out.1] at LD
            have SQ := hide (recvQ J4.out CR2.out.le (by have := HS.out.1; omega) F)
            rw [HV.out.1] at SQ
            obtain ⟨F4, hF4⟩ := rfv_is (rpk rs false)
            rw [hF4] at SQ
            obtain ⟨q4, hq4⟩ := clv_ptr p
            rw [hq4]
            have LEN := hide (re_len rs F)
            clear j4 k4 cr4 pf4 SP Y4
            have zf := zero_f
            have zs := fe_size nf false
            have fs := fe_size F4 (rpk rs false).isSome
            obtain ⟨b4, hb4⟩ : ∃ b4, (rpk rs false).isSome = b4 := ⟨_, rfl⟩
            rw [hb4] at SQ fs
            go_wp2_with (refine wpL_load rfl 39 _ rfl _ _ rfl LD.out ?_)
            refine SQ.out.mono ?_
            rintro r w5 ⟨rfl, j5, k5⟩
            have stf := sc_fe F4 b4 (heap_new w5 (.cells (fe nf false) 44)) (fe_size nf false)
            rw [setRow_fe] at stf
            have K5 := hide (K4.out.trans (Kp.mono k5 YI.out))
            have SM := hide (same_pf (j5.below (below_alloc w5 (.cells (fe F4 b4) 44))) PF4.out)
            rw [hF4, hb4, hq4] at SM
            have MV5 : Hid (MV w Y1 S G (w5.alloc (.cells (fe F4 b4) 44)) (k + 1)) := MV.below ⟨YI.out, _, _, _, j5, C4.out, by have := LEN.out.1; have := HS.out.1; omega, by rw [LEN.out.2]; exact HS.out.2, K5.out⟩ (below_alloc _ _)
            have LD5 := hide (ldv_fe (heap_new w5 (.cells (fe F4 b4) 44)))
            clear j5 k5 hF4 hq4 hb4 LD SQ K4 J4 C4 PF4
            generalize fe F4 b4 = R4 at *
            generalize fe nf false = Z4 at *
            go_wp2_with (refine wpL_load rfl 44 _ rfl _ _ rfl LD5.out ?_)
            refine SM.out.mono ?_
            rintro r w6 ⟨rfl, b6⟩
            have LO := hide (looks_mv (MV5.out.below b6) (by omega))
            clear b6 MV5 LD5 stf SM
            go_wp2_with fail
            refine LO.out.mono ?_
            rintro r w9 ⟨rfl, iv9⟩
            have IV9 := hide iv9
            clear iv9 LO
            go_wp2_with fail
            go_roundw
            case rel => exact ⟨k + 1, by omega, by go_num, IV9.out⟩
            case measure => simp [intOf]; omega
        case inr.inr.inl =>
          have SP := hide (fun u (j : JH Y1 S G u st h2' rs) => closeP j CR2.out a _ EA.out F GD.out)
          have J3d := hide (J3.out.below (Ba.bdrew1 _))
          obtain ⟨LC, hLC⟩ : ∃ LC : Nat → Sem (Array Value), ∀ n, loadCellsFrom (⟨B13, 0, none⟩ : Addr) 0 n #[] = LC n := ⟨fun n => loadCellsFrom (⟨B13, 0, none⟩ : Addr) 0 n #[], fun _ => rfl⟩
          have LD : Hid (∀ u, u.heap[B13]? = W3.heap[B13]? → (LC 256).run Try.prog u = .ok V u) := fun u hu => by
            rw [← hLC, ← HV.out.1]
            exact ld_ref (RA.of (show u.heap[B13]? = some (.cells (ra F) 39 (0, 0)) by rw [hu, HV.out.1]; exact Y3.out))
          have LEN := hide (cl_len rs F)
          obtain ⟨ce, hce⟩ : ∃ ce, clE rs = ce := ⟨_, rfl⟩
          have QC := hide (fun u st' h' (j : JH Y1 S G u st' h' rs) => closeQ j F)
          rw [HV.out.1, hce] at QC
          rw [hce] at SP
          clear hce
          go_wp2_with fail
          try simp only [List.append_eq, List.cons_append, List.nil_append]
          refine wp_region_held_drew (S := (fun w' => (LC 256).run Try.prog w' = .ok V w')) (by kernel_rfl) ?_ (fun hHeld => ?_)
          · exact LD.out _ rfl
          refine wpAnyH_take (i := 0) (v := ?_) rfl (by kernel_rfl) (by kernel_rfl) (by kernel_rfl) (fun _ _ _ h => h) (Or.inl ⟨by rfl, ?_⟩) (by assumption) ?_
          rotate_left
          · intro w0 hSw; (try dsimp only at hSw); go_simp <;> with_reducible rfl
          try simp only [Act.put, List.getElem_toArray, List.getElem_cons_zero, List.setIfInBounds_toArray, List.set_cons_zero, List.set_cons_succ]
          refine wpAnyH_take (i := 1) (v := ?_) rfl (by kernel_rfl) (by kernel_rfl) (by kernel_rfl) (fun _ _ _ h => h) (Or.inl ⟨by rfl, ?_⟩) (by assumption) ?_
          rotate_left
          · intro w0 hSw; (try dsimp only at hSw); go_simp <;> with_reducible rfl
          try simp only [Act.put, List.getElem_toArray, List.getElem_cons_zero, List.getElem_cons_succ, List.setIfInBounds_toArray, List.set_cons_zero, List.set_cons_succ]
          refine wpAnyH_take (i := 3) (v := ?_) rfl (by kernel_rfl) (by kernel_rfl) (by kernel_rfl) (fun _ _ _ h => h) (Or.inl ⟨by rfl, ?_⟩) (by assumption) ?_
          rotate_left
          · intro w0 hSw; (try dsimp only at hSw); go_simp <;> with_reducible rfl
          try simp only [Act.put, List.getElem_toArray, List.getElem_cons_zero, List.getElem_cons_succ, List.setIfInBounds_toArray, List.set_cons_zero, List.set_cons_succ]
          refine wpAnyH_take (i := 4) (v := ?_) rfl (by kernel_rfl) (by kernel_rfl) (by kernel_rfl) (fun _ _ _ h => h) (Or.inl ⟨by rfl, ?_⟩) (by assumption) ?_
          rotate_left
          · intro w0 hSw; (try dsimp only at hSw); go_simp <;> with_reducible rfl
          try simp only [Act.put, List.getElem_toArray, List.getElem_cons_zero, List.getElem_cons_succ, List.setIfInBounds_toArray, List.set_cons_zero, List.set_cons_succ]
          refine wpAnyH_ready (rs := [2]) (by kernel_rfl) (by simp) ?_
          refine AllReadyH.cons rfl (fun K hK => ?_) AllReadyH.nil
          go_simp
          (go_at_call 15; refine (SP.out _ J3d.out).mono ?_; rintro r v1 ⟨st5, h5, rfl, -, j5, k5, cr5⟩)
          (try go_wp2_with fail)
          refine hK.out _ _ ?_ (fun hHeld => ?_)
          · (exact LD.out _ (k5.block B13 YB.out.2))
          clear hK K
          try simp only [Act.put, List.getElem_toArray, List.getElem_cons_zero, List.getElem_cons_succ, List.setIfInBounds_toArray, List.set_cons_zero, List.set_cons_succ]
          refine wpAnyH_ready (rs := [5]) (by kernel_rfl) (by simp) ?_
          refine AllReadyH.cons rfl (fun K hK => ?_) AllReadyH.nil
          go_simp
          (go_at_call 16; refine (QC.out _ _ _ j5).mono ?_; rintro r v2 ⟨rfl, j6, k6⟩)
          (try go_wp2_with fail)
          refine hK.out _ _ ?_ (fun hHeld => ?_)
          · (exact LD.out _ ((k6.block B13 YB.out.2).trans (k5.block B13 YB.out.2)))
          clear hK K
          try simp only [Act.put, List.getElem_toArray, List.getElem_cons_zero, List.getElem_cons_succ, List.setIfInBounds_toArray, List.set_cons_zero, List.set_cons_succ]
          refine wpAnyH_take (i := 6) (v := ?_) rfl (by kernel_rfl) (by kernel_rfl) (by kernel_rfl) (fun _ _ _ h => h) (Or.inl ⟨by rfl, ?_⟩) (by assumption) ?_
          rotate_left
          · intro w0 hSw; (try dsimp only at hSw); go_simp <;> with_reducible rfl
          try simp only [Act.put, List.getElem_toArray, List.getElem_cons_zero, List.getElem_cons_succ, List.setIfInBounds_toArray, List.set_cons_zero, List.set_cons_succ]
          refine wpAnyH_done (by kernel_rfl) ?_ _
          have M6 : Hid (MV w Y1 S G v2 (k + 1)) := ⟨YI.out, _, _, _, j6, cr5, by have := LEN.out.1; have := HS.out.1; omega, by rw [LEN.out.2]; exact HS.out.2, ((kp_b K3.out (Ba.bdrew1 _) fun x q => J3.out.ylt x (YI.out x q)).trans (Kp.mono k5 YI.out)).trans (Kp.mono k6 YI.out)⟩
          clear j6 cr5 k5 k6 j5 hLC LD QC SP J3d
          have LO := hide (looks_mv M6.out (by omega))
          go_wp2_with fail
          refine LO.out.mono ?_
          rintro r w9 ⟨rfl, iv9⟩
          have IV9 := hide iv9
          clear iv9 LO
          go_wp2_with fail
          go_roundw
          case rel => exact ⟨k + 1, by omega, by go_num, IV9.out⟩
          case measure => simp [intOf]; omega
        case inr.inr.inr.inl =>
          have x1c : W3.cell? ⟨B10, 1, none⟩ = some (.int .i64 x1) := cell_of X3.out 1
          have SP := hide (dropP J3.out CR2.out (by have := HS.out.1; omega) x1)
          have LEN := hide (dr_len rs x1)
          go_wp2_with fail
          refine SP.out.mono ?_
          rintro r w4 ⟨h4', rfl, j4, k4, cr4⟩
          have J4 := hide j4
          have C4 := hide cr4
          have K4 := hide (K3.out.trans (Kp.mono k4 YI.out))
          have X4 := hide ((k4.block B10 YB.out.1).trans X3.out)
          have x1d : w4.cell? ⟨B10, 1, none⟩ = some (.int .i64 x1) := cell_of X4.out 1
          have hB4 : B10 < w4.heap.size := Ba.heap_lt X4.out
          have SQ := hide (dropQ J4.out CR2.out.le (by have := HS.out.1; omega) x1)
          clear j4 k4 cr4 SP x1c x0c
          go_wp2_with fail
          refine SQ.out.mono ?_
          rintro r w5 ⟨rfl, j5, k5⟩
          have M5 : Hid (MV w Y1 S G w5 (k + 1)) := ⟨YI.out, _, _, _, j5, C4.out, by have := LEN.out.1; have := HS.out.1; omega, by rw [LEN.out.2]; exact HS.out.2, K4.out.trans (Kp.mono k5 YI.out)⟩
          clear j5 k5 SQ x1d
          have LO := hide (looks_mv M5.out (by omega))
          go_wp2_with fail
          refine LO.out.mono ?_
          rintro r w9 ⟨rfl, iv9⟩
          have IV9 := hide iv9
          clear iv9 LO
          go_wp2_with fail
          go_roundw
          case rel => exact ⟨k + 1, by omega, by go_num, IV9.out⟩
          case measure => simp [intOf]; omega
        case inr.inr.inr.inr =>
          have M5 : Hid (MV w Y1 S G W3 (k + 1)) := ⟨YI.out, _, _, _, J3.out, CR2.out, by have := HS.out.1; omega, HS.out.2, K3.out⟩
          have LO := hide (looks_mv M5.out (by omega))
          go_wp2_with fail
          refine LO.out.mono ?_
          rintro r w9 ⟨rfl, iv9⟩
          have IV9 := hide iv9
          clear iv9 LO
          go_wp2_with fail
          go_roundw
          case rel => exact ⟨k + 1, by omega, by go_num, IV9.out⟩
          case measure => simp [intOf]; omega
    · have hlt' : ¬ ((k : Int) < (N : Int)) := by omega
      go_wp2_with fail
      refine (fetches_any _).mono ?_
      rintro r w3 ⟨rfl, b3⟩
      have B3 : Hid (Below w.heap.size w w3) := by
        obtain ⟨_, _, _, _, _, _, _, kp⟩ := IVH.out
        exact btr (Kp.lw kp) b3
      clear b3
      go_wp2_with fail
      go_ret
      exact ⟨rfl, B3.out⟩

/-! ### the row -/
set_option maxRecDepth 100000 in
theorem lifted (os : Os) (started : os.Started) (H : Type) (enc : TypeId × Value → H) :
    ReturnsInHanded {} Try.checked os 3 .any (Rows.slotsStepsSpec.pre6 enc Try.prog Try.f3 Rows.slotsStepsRow.domain false) (Rows.slotsStepsSpec.post enc Try.prog Try.f3 false true false false) := by
  refine returnsInHanded_of_change (C := Try.checked) own started (by kernel_rfl) Try.func3
    (ChangeSpec.witness6 (enc := enc) (C := Try.checked) false ⟨#[], #[.int .i64 0, .slice none 0 0], []⟩ 8 (by kernel_rfl) (by kernel_rfl) (by kernel_rfl) (by kernel_rfl)) ?_
  intro W base args ds gs before hval0 hW hcnd _
  have hval : ∀ (j : Nat) t v, Try.f3.params[j]? = some t → args[j]? = some v → Value.okWide Try.prog W .any base t v := hval0
  have hW' := hW
  obtain ⟨p, q, hA0, hV, rfl, hfz, hnd⟩ := hW
  have hA : DataW.TrodAll enc Try.prog W 0 (fun _ => true) true Try.f3.params.toList args.toList ds p := hA0
  rw [Try.params3] at hA hval
  obtain ⟨v0, vs0, d0, ds0, p0, q0, hargs, rfl, rfl, h0, r0⟩ := trodAll_cons hA
  obtain ⟨v1, vs1, d1, ds1, p1, q1, rfl, rfl, rfl, h1, r1⟩ := trodAll_cons r0
  obtain ⟨rfl, rfl, rfl⟩ := trodAll_nil r1
  obtain rfl : args = #[v0, v1] := by cases args; simp_all
  obtain ⟨rfl, rfl⟩ := trodVars_none hV
  obtain ⟨a0, rfl, rfl, rfl, w0⟩ := open_int Try.underlying3 (hval 0 3 v0 rfl rfl) h0
  obtain ⟨oa1, n1, c1, rfl⟩ := okWide_slice Try.underlying22 (hval 1 22 v1 rfl rfl)
  have k1 := h1
  have lt1 : ∀ x ∈ p1, x.block < W.heap.size := by obtain ⟨m, hm⟩ := k1; exact DataW.trod_lt m _ _ _ hm
  obtain ⟨l1, rfl, A1, C1, M1⟩ := h1.elim fun _ hf => steps_open hf
  clear hA0 hval0
  refine (core (w := W) a0 oa1 l1 c1 A1).mono fun e W' ⟨he, bel⟩ => ?_
  subst he
  exact ⟨_, rfl, _, _, _, [], _, [], hW', trodAll_mk1 (shut_bool Try.underlying4 _), (trodAll_cons_mk (shut_int Try.underlying3 w0) (trodAll_cons_mk (Below.trod laidOut (by kernel_rfl) (of_decide_eq_true (by kernel_rfl)) k1 bel lt1) trodAll_mk0)), rfl, bel.frame _, fun h => by cases h⟩

theorem over : Rows.slotsStepsRow.holds Try.pinned (OpenSpec.ofChange Rows.slotsStepsSpec) :=
  OpenClaim.holds_of_wide 3 Try.f3 rfl rfl rfl rfl rfl rfl rfl ⟨rfl, rfl, rfl, rfl, rfl⟩ rfl rfl rfl rfl rfl (by kernel_rfl) Try.func3 (by kernel_rfl)
    (of_decide_eq_true (by kernel_rfl)) (by unfold Func.isWrapper; first | (rw [if_pos (by decide +kernel)]; kernel_rfl) | (rw [if_neg (by decide +kernel)]; exact ⟨rfl, rfl⟩))
    (fun os started H enc _ => lifted os started H enc)

/-- the statement -/
theorem proved : Rows.SlotsStepsSaid := over
#print axioms proved
end Go.Proofs.Ytekdcfdjohlfcaa.slotsSteps
