/- The first race is found, and none that is none: of four goroutines that access a cell and tell one another what they know. -/
import Derived.Test.YtodppbahihjegaaAz
import Derived.Test.YtodppbahihjegaaAj
import Derived.Test.YtodppbahihjegaaRm
import Derived.Test.YtodppbahihjegaaBo
import Derived.Deep.Cut
import Derived.Deep.RegionHeld3
import Derived.ShutString
import Derived.ChangeOld
import Derived.Below
namespace Go.Proofs.Ytodppbahihjegaa.cellFirst
open Go.ChangeShapes Go.WideShapes Go.ChangeAt Go.RowKit
open Go.ChangeMaps (open_string shut_string)
open Ce Ck
open Ep (ownB tidOf clkOf rdN rdT rdt rdc rdk)
open Ba (KF)

theorem own : ownKnob Try.prog.godebug = none := by kernel_rfl
theorem laidOut : laidOutB Try.prog = true := by kernel_rfl

set_option maxRecDepth 100000 in
set_option maxHeartbeats 3200000 in
theorem core {w : World} (oa : Option Addr) (l : List Asq) (c : Nat) (hA : Ba.GAt w oa 3 AsE l) (hM : l.length ≤ maxLen) :
    Calls Try.prog 3 #[.slice oa l.length c] w fun r w' => r = .returned (.bool true) ∧ Below w.heap.size w w' := by
  have hM2 : l.length ≤ 9223372036854775807 := by simp only [maxLen] at hM; omega
  clear hM
  have RC := hide races_any
  have HA := hide hA
  clear hA
  obtain ⟨n, hn⟩ : ∃ n, l.length = n := ⟨_, rfl⟩
  rw [hn] at hM2 ⊢
  by_cases hbig : 60 < n
  · have g1' : (60 : Int) < (n : Int) := by omega
    go_enter Try.func3, Try.ntmps3
    go_wp2_with fail
    refine (Ce.new_any w).mono ?_
    rintro r w1 ⟨rfl, -, b1⟩
    have B1 := hide b1
    clear b1
    go_wp2_with fail
    refine (RC.out _).mono ?_
    rintro r w2 ⟨rfl, b2⟩
    have B2 := hide (Ba.btr B1.out b2)
    clear b2
    go_wp2_with fail
    go_ret
    exact ⟨rfl, B2.out⟩
  have hb1 : ¬ ((60 : Int) < (n : Int)) := by omega
  have hb60 : n ≤ 60 := by omega
  clear hbig
  go_enter Try.func3, Try.ntmps3
  go_wp2_with fail
  refine (Ce.new_any w).mono ?_
  rintro r w1 ⟨rfl, c1, b1⟩
  have C1 := hide c1
  have B1 := hide b1
  clear c1 b1
  obtain ⟨X, hX⟩ : ∃ X, w.heap.size = X := ⟨_, rfl⟩
  have HX := hide hX
  rw [hX] at C1 B1 ⊢
  go_wp2_with fail
  have hK : (w1.alloc (.cells Try.zeroCells29 29)).heap[w1.heap.size]? = some (.cells Try.zeroCells29 29 (0, 0)) := heap_new _ _
  have RA0 : Hid (∀ g, g < 4 → Ck.RA (w1.alloc (.cells Try.zeroCells29 29)) w1.heap.size (g * 256) (Ci 0 g)) := fun g hg k hk => by
    rw [Ci_zero]
    exact ⟨by rw [cell_of hK]; exact z4_at _ (by omega), Ba.frozen_of hK _⟩
  have hb2 := Ba.below_alloc w1 (.cells Try.zeroCells29 29)
  have B2 := hide hb2
  have CW2 : Hid (CW (Bs w w1.heap.size (.slice none 0 0) (.slice none 0 0)) X (w1.alloc (.cells Try.zeroCells29 29)) ⟨0, [], false⟩) := by
    refine C1.out.more hb2 (fun k q => ?_) (fun k q => ?_)
    · rcases q with q | q | q | q
      · exact .inl q
      · exact .inr (by omega)
      · cases q
      · cases q
    · rcases q with q | q | q | q
      · exact Nat.lt_of_lt_of_le (C1.out.yl k q) hb2.size
      · rw [q, World.size_alloc]; omega
      · cases q
      · cases q
  have KB : Hid (w.heap.size ≤ w1.heap.size) := by rw [hX]; have := B1.out.size; rw [hX] at this; exact this
  clear hK hb2 C1 hX
  generalize w1.alloc (.cells Try.zeroCells29 29) = w2 at *
  obtain ⟨K, hKq⟩ : ∃ K, w1.heap.size = K := ⟨_, rfl⟩
  rw [hKq] at RA0 CW2 KB ⊢
  have B02 : Hid (Below w.heap.size w w2) := by rw [HX.out] ; exact (show Below X w w2 from by have := Ba.btr (a := w) (by rw [HX.out]; exact B1.out) B2.out; rw [HX.out] at this; exact this)
  clear hKq B1 B2
  go_loopw [5] (fun i wr => ∃ k : Nat, k ≤ 4 ∧ i = .int .i64 (k : Int) ∧ (∀ g, g < 4 → Ck.RA wr K (g * 256) (Ci k g)) ∧ KF (fun x => x = K) w2 wr) (fun i _ => 4 - (intOf i).toNat)
  case atStart => exact ⟨0, by decide, rfl, RA0.out, KF.refl _ _⟩
  case round =>
    obtain ⟨k, hk, rfl, ra, kf⟩ := hrel
    have RAk := hide ra
    have KFk := hide kf
    clear ra kf
    by_cases hlt : k < 4
    · have hlt' : (k : Int) < 4 := by omega
      have ST := hide (rset_ok K (k * 256) (Ci k k) k 1 wr (RAk.out k hlt) (by omega) (by decide))
      go_wp2_with fail
      refine ST.out.mono ?_
      rintro r w3 ⟨rfl, e3⟩
      have R3 : Hid (∀ g, g < 4 → Ck.RA w3 K (g * 256) (Ci (k + 1) g)) := by
        rw [e3]
        refine ra_set4 RAk.out hlt (by omega) 1 (fun g hg j hj => ?_)
        unfold Ci
        by_cases e : g = k ∧ j = k
        · rw [if_pos ⟨by omega, by omega⟩, if_pos e]
        · rw [if_neg e]
          by_cases e2 : g = j ∧ g < k
          · rw [if_pos e2, if_pos ⟨e2.1, by omega⟩]
          · rw [if_neg e2, if_neg (fun q => by
              by_cases e3 : g = k
              · exact e ⟨e3, by omega⟩
              · exact e2 ⟨q.1, by omega⟩)]
      have K3 : Hid (KF (fun x => x = K) w2 w3) := by rw [e3]; exact KFk.out.set (q := K) rfl _ _
      clear e3 ST
      go_wp2_with fail
      go_roundw
      case rel => exact ⟨k + 1, by omega, by go_num, R3.out, K3.out⟩
      case measure => simp [intOf]; omega
    · obtain rfl : k = 4 := by omega
      have F0 : Hid (FW w X K (.slice none 0 0) (.slice none 0 0) C0 [] ⟨0, [], false⟩ wr) := by
        have f2 : FW w X K (.slice none 0 0) (.slice none 0 0) (Ci 0) [] ⟨0, [], false⟩ w2 := ⟨CW2.out, RA0.out, World.ownsRow_nil _ _ _ _, World.ownsRow_nil _ _ _ _, KB.out, by simp [Value.ownBlock], by simp [Value.ownBlock], by simp [Value.ownBlock], KY.of B02.out fun _ q => q⟩
        exact f2.clk KFk.out (by rw [← Ci_four]; exact RAk.out)
      clear CW2 RAk KFk RA0 B02 KB
      go_wp2_with fail
      rename World => w00
      go_loopw [6, 7, 43] (fun vd vw i wr => ∃ (k : Nat) (C : Nat → Nat → Int) (D : List Ax) (st : Cst), k ≤ n ∧ D.length ≤ k ∧ i = .int .i64 (k : Int) ∧ FW w X K vd vw C D st wr ∧ Fi C D k ∧ Fc D st) (fun _ _ i _ => n - (intOf i).toNat)
      case atStart => exact ⟨0, C0, [], _, Nat.zero_le _, Nat.le_refl _, rfl, F0.out, Fi.zero, Fc.zero⟩
      case round =>
        clear F0
        obtain ⟨k, C, D, st, hk, hDk, rfl, fw, fi, fc⟩ := hrel
        have FWH := hide fw
        have FIH := hide fi
        have FCH := hide fc
        clear fw fi fc
        by_cases hlt : k < n
        · have hlt' : (k : Int) < (n : Int) := by omega
          obtain ⟨z, hz⟩ : ∃ z, l[k]? = some z := ⟨_, List.getElem?_eq_getElem (by omega)⟩
          obtain ⟨b, off, cs, rfl, hcl, hcell, hcs⟩ := HA.out k z hz
          unfold AsE at hcs
          subst hcs
          have p0 := at_ky2 (hcell 0 (by decide)) FWH.out.ky
          have p1 := at_ky2 (hcell 1 (by decide)) FWH.out.ky
          have p2 := at_ky2 (hcell 2 (by decide)) FWH.out.ky
          simp only [Nat.add_zero] at p0
          obtain ⟨zg, zt, zw⟩ := z
          simp only at p0 p1 p2
          obtain ⟨oD, cD, oW, cW, rfl, rfl⟩ := FWH.out.sl
          have F1 := hide (FWH.out.below (Ba.below_alloc wr (.cells #[.int .i64 zg, .int .i64 zt, .bool zw] 34)))
          have h1 : (wr.alloc (.cells #[.int .i64 zg, .int .i64 zt, .bool zw] 34)).heap[wr.heap.size]? = some (.cells #[.int .i64 zg, .int .i64 zt, .bool zw] 34 (0, 0)) := heap_new _ _
          have H1 := hide h1
          have HAD := hide (fun g (e : (Value.slice oD D.length cD).ownBlock = some g) => (FWH.out.od.lt g e).2)
          have HAW := hide (fun g (e : (Value.slice oW D.length cW).ownBlock = some g) => (FWH.out.ow.lt g e).2)
          have HAK := hide (FWH.out.cw.yl K (.inr (.inl rfl)))
          have CA1 : Hid (CW (fun k => Bs w K (.slice oD D.length cD) (.slice oW D.length cW) k ∨ k = wr.heap.size) X (wr.alloc (.cells #[.int .i64 zg, .int .i64 zt, .bool zw] 34)) st) := by
            refine FWH.out.cw.more (Ba.below_alloc wr _) (fun k q => ?_) (fun k q => ?_)
            · rcases q with q | q
              · exact .inl q
              · exact .inr (by omega)
            · rw [World.size_alloc]
              rcases q with q | q
              · exact Nat.lt_succ_of_lt (FWH.out.cw.yl k q)
              · omega
          clear h1 hz hcell hcl FWH
          by_cases hbad : zg < 0 ∨ 3 < zg
          · by_cases g0 : zg < 0
            · clear hbad
              go_wp2_with fail
              go_roundw
              case rel => exact ⟨k + 1, C, D, st, by omega, by omega, by go_num, F1.out, FIH.out.more, FCH.out⟩
              case measure => simp [intOf]; omega
            · have g3 : 3 < zg := by omega
              clear hbad
              go_wp2_with fail
              go_roundw
              case rel => exact ⟨k + 1, C, D, st, by omega, by omega, by go_num, F1.out, FIH.out.more, FCH.out⟩
              case measure => simp [intOf]; omega
          obtain ⟨G, rfl⟩ : ∃ G : Nat, zg = (G : Int) := ⟨zg.toNat, by omega⟩
          have hG : G < 4 := by omega
          have hG' : (G : Int) < 4 := by omega
          have hG3 : (G : Int) ≤ 3 := by omega
          clear hbad
          go_upto_region 15 with fail
          generalize wr.alloc (.cells #[.int .i64 (G : Int), .int .i64 zt, .bool zw] 34) = w3 at *
          generalize wr.heap.size = A at *
          have a0 := cell_of H1.out 0
          simp at a0
          have GT := hide (fun q => rget_any K (G * 256) (C G) (G : Int) (w3.drewN q) ((F1.out.ra G hG).below (bdrew w3 q)))
          rw [rg_nat _ G (by omega)] at GT
          clear p0 p1 p2
          go_quiet ((go_at_call 10; exact Calls.quiet_of_same (GT.out _)))
          have F4 := hide (F1.out.below (bdrew w3 nq))
          have H4 : Hid ((w3.drewN nq).heap[A]? = some (.cells #[.int .i64 (G : Int), .int .i64 zt, .bool zw] 34 (0, 0))) := H1.out
          have CA4 := hide (CA1.out.kept (bdrew w3 nq))
          clear F1 H1 a0 GT CA1
          generalize w3.drewN nq = w4 at *
          obtain ⟨nd, hnd⟩ : ∃ nd, D.length = nd := ⟨_, rfl⟩
          rw [hnd] at F4 HAD HAW CA4 ⊢
          have hDk' : nd ≤ 60 := by omega
          go_wp2_with fail
          rename World => w01
          go_loopw [11, 63] (fun rb i wr => ∃ j : Nat, j ≤ nd ∧ i = .int .i64 (j : Int) ∧ (∃ rv, rb = .bool rv ∧ Hid (rcB C G zw (D.take j) = rv)) ∧ FW w X K (.slice oD nd cD) (.slice oW nd cW) C D st wr ∧ wr.heap[A]? = some (.cells #[.int .i64 (G : Int), .int .i64 zt, .bool zw] 34 (0, 0)) ∧ CW (fun k => Bs w K (.slice oD nd cD) (.slice oW nd cW) k ∨ k = A) X wr st) (fun _ i _ => nd - (intOf i).toNat)
          case atStart => exact ⟨0, Nat.zero_le _, rfl, ⟨false, rfl, (rfl : rcB C G zw (D.take 0) = false)⟩, F4.out, H4.out, CA4.out⟩
          case round =>
            clear F4 H4 CA4
            obtain ⟨j, hj, rfl, ⟨rv, rfl, hrv⟩, fw5, h5, ca5⟩ := hrel
            have CA5 := hide ca5
            clear ca5
            by_cases hjl : j < nd
            · have hjl' : (j : Int) < (nd : Int) := by omega
              obtain ⟨d, hd⟩ : ∃ d, D[j]? = some d := ⟨_, List.getElem?_eq_getElem (by omega)⟩
              obtain ⟨gD, cD', gW, cW', eD, eW, q0, q1, q2, q3, q4⟩ := fw5.done hd
              simp only [Value.slice.injEq, hnd] at eD eW
              obtain ⟨rfl, -, rfl⟩ := eD
              obtain ⟨rfl, -, rfl⟩ := eW
              have hd4 := (FIH.out.d0 d (List.mem_of_getElem? hd)).1
              have RS := hide (rcB_succ C G zw D j d hd)
              obtain ⟨dt, dn, dw, dV_⟩ := d
              simp only at q0 q1 q4 RS hd4
              have F6 := hide (fw5.below (Ba.below_alloc wr (.cells #[.int .i64 (dt : Int), .int .i64 dn, .bool false, .bool false] 37)))
              have H6 : Hid ((wr.alloc (.cells #[.int .i64 (dt : Int), .int .i64 dn, .bool false, .bool false] 37)).heap[A]? = some (.cells #[.int .i64 (G : Int), .int .i64 zt, .bool zw] 34 (0, 0))) := ((Ba.below_alloc wr _).block A (heap_lt' h5)).trans h5
              have I6 : Hid ((wr.alloc (.cells #[.int .i64 (dt : Int), .int .i64 dn, .bool false, .bool false] 37)).heap[wr.heap.size]? = some (.cells #[.int .i64 (dt : Int), .int .i64 dn, .bool false, .bool false] 37 (0, 0))) := heap_new _ _
              have Q4 : Hid ((wr.alloc (.cells #[.int .i64 (dt : Int), .int .i64 dn, .bool false, .bool false] 37)).cell? ⟨gW, j, none⟩ = some (.bool dw)) := cellB q4 (Ba.below_alloc wr _)
              have CA6 := hide (CA5.out.kept (Ba.below_alloc wr (.cells #[.int .i64 (dt : Int), .int .i64 dn, .bool false, .bool false] 37)))
              clear fw5 h5 q4 hd CA5
              go_upto_region 20 with fail
              generalize wr.alloc (.cells #[.int .i64 (dt : Int), .int .i64 dn, .bool false, .bool false] 37) = w6 at *
              generalize wr.heap.size = Bk at *
              clear q0 q1 q2 q3
              have a0 := cell_of H6.out 0
              have a2 := cell_of H6.out 2
              have i0 := cell_of I6.out 0
              have i1 := cell_of I6.out 1
              simp at a0 a2 i0 i1
              have q4 := Q4.out
              have GT := hide (fun q => rget_any K (G * 256) (C G) (dt : Int) (w6.drewN q) ((F6.out.ra G hG).below (bdrew w6 q)))
              rw [rg_nat _ dt (by omega)] at GT
              clear Q4
              obtain ⟨vv, hvv⟩ : ∃ vv, decide (C G dt < dn) = vv := ⟨_, rfl⟩
              rw [hrv.out] at RS
              by_cases hT : dt = G
              · have RS2 := hide (show rcB C G zw (D.take (j + 1)) = rv from by rw [RS.out, hT]; simp)
                rw [hT] at i0
                clear RS GT hvv hT
                cases rv
                · cases dw
                  · cases zw
                    all_goals
                      go_quiet (fail)
                      go_wp2_with fail
                      go_roundw
                      case rel => exact ⟨j + 1, by omega, by go_num, ⟨_, rfl, RS2.out⟩, F6.out.below (bdrew _ _), H6.out, CA6.out.kept (bdrew _ _)⟩
                      case measure => simp [intOf]; omega
                  · go_quiet (fail)
                    go_wp2_with fail
                    go_roundw
                    case rel => exact ⟨j + 1, by omega, by go_num, ⟨_, rfl, RS2.out⟩, F6.out.below (bdrew _ _), H6.out, CA6.out.kept (bdrew _ _)⟩
                    case measure => simp [intOf]; omega
                · go_quiet (fail)
                  go_wp2_with fail
                  go_roundw
                  case rel => exact ⟨j + 1, by omega, by go_num, ⟨_, rfl, RS2.out⟩, F6.out.below (bdrew _ _), H6.out, CA6.out.kept (bdrew _ _)⟩
                  case measure => simp [intOf]; omega
              · have t1 : ((dt : Int) == (G : Int)) = false := beq_eq_false_iff_ne.2 (by omega)
                have t2 : decide ((dt : Int) = (G : Int)) = false := by simp; omega
                have t3 : (dt == G) = false := beq_eq_false_iff_ne.2 hT
                have t4 : decide (dt = G) = false := by simp [hT]
                have t5 : ((dt : Int) != (G : Int)) = true := by simp [bne, t1]
                have t6 : (dt != G) = true := by simp [bne, t3]
                have t7 : ¬ ((dt : Int) = (G : Int)) := by omega
                rw [t2, hvv] at RS
                generalize C G dt = cgd at *
                cases rv
                · cases dw
                  · cases zw
                    · have RS2 := hide (show rcB C G false (D.take (j + 1)) = false from by rw [RS.out]; rfl)
                      clear RS GT hvv
                      go_quiet (fail)
                      go_wp2_with fail
                      go_roundw
                      case rel => exact ⟨j + 1, by omega, by go_num, ⟨_, rfl, RS2.out⟩, F6.out.below (bdrew _ _), H6.out, CA6.out.kept (bdrew _ _)⟩
                      case measure => simp [intOf]; omega
                    · have RS2 := hide (show rcB C G true (D.take (j + 1)) = vv from by rw [RS.out]; cases vv <;> rfl)
                      clear RS
                      go_quiet ((go_at_call 10; exact Calls.quiet_of_same (GT.out _)))
                      go_wp2_with fail
                      go_roundw
                      case rel => exact ⟨j + 1, by omega, by go_num, ⟨_, rfl, RS2.out⟩, F6.out.below (bdrew _ _), H6.out, CA6.out.kept (bdrew _ _)⟩
                      case measure => simp [intOf]; omega
                  · have RS2 := hide (show rcB C G zw (D.take (j + 1)) = vv from by rw [RS.out]; cases vv <;> rfl)
                    clear RS
                    go_quiet ((go_at_call 10; exact Calls.quiet_of_same (GT.out _)))
                    go_wp2_with fail
                    go_roundw
                    case rel => exact ⟨j + 1, by omega, by go_num, ⟨_, rfl, RS2.out⟩, F6.out.below (bdrew _ _), H6.out, CA6.out.kept (bdrew _ _)⟩
                    case measure => simp [intOf]; omega
                · have RS2 := hide (show rcB C G zw (D.take (j + 1)) = true from by rw [RS.out]; rfl)
                  clear RS GT hvv
                  go_quiet (fail)
                  go_wp2_with fail
                  go_roundw
                  case rel => exact ⟨j + 1, by omega, by go_num, ⟨_, rfl, RS2.out⟩, F6.out.below (bdrew _ _), H6.out, CA6.out.kept (bdrew _ _)⟩
                  case measure => simp [intOf]; omega
            · have hjl' : ¬ ((j : Int) < (nd : Int)) := by omega
              obtain rfl : nd = j := by omega
              rw [← hnd, List.take_length] at hrv
              have FWI := hide fw5
              have HI := hide h5
              have hcn1 := FIH.out.c1 G hG
              have hcn2 := (FIH.out.c0 G hG G (by omega)).2
              have NO := hide (now_own FIH.out (by omega) hG zw)
              have PK := hide (fun u => Ep.pack_ok (G : Int) (C G G) (by omega) (by omega) hcn1 (by omega) u)
              have eE : ((G : Int) + 1) * 4294967296 + C G G = epx (nowA C G zw) := rfl
              rw [eE] at PK
              clear eE
              have LI := hide (rlist_c K (G * 256) (C G) wr (FWI.out.ra G hG) (fun k hk => (FIH.out.c0 G hG k hk).1))
              have a0 := cell_of HI.out 0
              simp at a0
              clear fw5 h5
              obtain ⟨E, hE⟩ : ∃ E, epx (nowA C G zw) = E := ⟨_, rfl⟩
              have HE := hide hE
              rw [hE] at PK NO
              clear hE
              go_wp2_with fail
              refine (PK.out _).mono ?_
              rintro r w0 ⟨rfl, e0⟩
              obtain rfl := e0.symm
              go_wp2_with fail
              refine LI.out.mono ?_
              rintro r w7 ⟨L, oL, cL, rfl, atL, hL1, -, hL2, b7, hL3, hL4⟩
              have F7 := hide (FWI.out.below b7)
              have CA7 := hide (CA5.out.kept b7)
              have H7 := hide ((b7.block A (heap_lt' HI.out)).trans HI.out)
              have OF := hide (of_y oL L L.length cL rfl w7 atL hL1 hL3 hL4 (fun k hk => by
                rw [okN_iff, hL2 k (by omega)]
                have := FIH.out.c0 G hG k (by omega)
                omega))
              unfold OfR at OF
              have HL2 : Hid (∀ k, k < 256 → nth (trm L) k = C G k) := fun k hk => (nth_trm L k).trans (hL2 k hk)
              clear atL b7 hL2 LI PK a0 FWI HI
              generalize trm L = tL at *
              generalize L.length = nL at *
              go_wp2_with fail
              refine OF.out.mono ?_
              rintro r w8 ⟨b8, rfl, bl8, n8⟩
              have F8 := hide (F7.out.below bl8)
              have C8 := hide (CA7.out.new bl8)
              have N8 := hide (n8 (fun k => Bs w K (.slice oD nd cD) (.slice oW nd cW) k ∨ k = A))
              have H8 := hide ((bl8.block A (heap_lt' H7.out)).trans H7.out)
              have a2 := cell_of H8.out 2
              simp at a2
              clear bl8 n8 OF F7 H7
              obtain ⟨Y8, hY8⟩ : ∃ Y8, Y8 = Yp (fun k => Bs w K (.slice oD nd cD) (.slice oW nd cW) k ∨ k = A) w7 w8 := ⟨_, rfl⟩
              rw [← hY8] at C8 N8
              have FIN : Hid (∀ st9 w9, CW Y8 X w9 st9 → KY Y8 w8 w9 → FW w X K (.slice oD nd cD) (.slice oW nd cW) C D st9 w9 ∧ w9.heap[A]? = some (.cells #[.int .i64 (G : Int), .int .i64 zt, .bool zw] 34 (0, 0))) := by
                intro st9 w9 c9 k9
                rw [hY8] at c9 k9
                exact ⟨F8.out.cell (c9.more (Below.refl _ _) (fun k q => .inl (.inl (.inl q))) (fun k q => c9.yl k (.inl (.inl q)))) (k9.mono fun k q => .inl (.inl q)), (k9.block A (.inl (.inr rfl))).trans H8.out⟩
              clear hY8
              have KEY : Hid (∀ v : Int, (v ≠ 0 ↔ Ce.Race C D G zw) → (v == 0) = !rv) := by
                intro v hv
                rw [← rcB_iff, hrv.out] at hv
                cases rv
                · have : ¬ (v ≠ 0) := fun q => by have := hv.1 q; cases this
                  simpa using this
                · have := hv.2 rfl
                  simpa using this
              have NRC : Hid (rv = false → ¬ Ce.Race C D G zw) := by
                intro e q
                rw [← rcB_iff, hrv.out, e] at q
                cases q
              clear F8 CA7 hrv
              cases zw
              · have RD := hide (read_ok C8.out E NO.out.1 b8 tL N8.out)
                obtain ⟨v, hv⟩ : ∃ v, rdR st E tL = v := ⟨_, rfl⟩
                have hv0 : (v == 0) = !rv := KEY.out v (by rw [← hv, ← HE.out]; exact first_read FIH.out FCH.out (by omega) hG HL2.out)
                have hv1 : v = 0 ∨ v = 1 := by
                  rw [← hv]; unfold rdR
                  split
                  · exact .inl rfl
                  · exact .inr rfl
                rw [hv] at RD
                clear hv
                cases rv
                · obtain rfl : v = 0 := by simpa using hv0
                  clear hv0 hv1
                  go_wp2_with fail
                  refine RD.out.mono ?_
                  rintro r w9 ⟨rfl, c9, k9⟩
                  have F9 := hide (FIN.out _ _ c9 k9)
                  have FC9 : Hid (Fc (D ++ [nowA C G false]) (rdS st E tL)) := by
                    rw [← HE.out]
                    exact Fc.read FIH.out FCH.out (by omega) hG HL2.out
                  have FI9 : Hid (Fi C (D ++ [nowA C G false]) k) := FIH.out.now hG false
                  clear c9 k9 RD FIN FCH HL2 NO KEY NRC C8 N8
                  generalize (rdS st E tL) = st9 at *
                  go_upto_region 35 with fail
                  obtain ⟨i1, hi1, hy1, hy2, hy3⟩ := info_parts info_acc
                  have INA := hide (And.intro hi1 (And.intro hy1 (And.intro hy2 hy3)))
                  clear hi1 hy1 hy2 hy3
                  obtain ⟨i2, hi1, hy1, hy2, hy3⟩ := info_parts info_boo
                  have INB := hide (And.intro hi1 (And.intro hy1 (And.intro hy2 hy3)))
                  clear hi1 hy1 hy2 hy3
                  have a0 := cell_of F9.out.2 0
                  simp at a0
                  clear a2
                  have O1 := hide (own_same F9.out.1.od (w' := w9.alloc (.cells #[.int .i64 (G : Int), .int .i64 (C G G), .bool false, .bool false] 37)) (fun g e => (Ba.below_alloc w9 _).block g (F9.out.1.od.lt g e).2))
                  have CF := hide (cell_four w9 (.int .i64 (G : Int)) (.int .i64 (C G G)) (.bool false) (.bool false) 37)
                  have ON := hide (one_four (nowA C G false))
                  have LB := hide (show w.heap.size ≤ w9.heap.size from F9.out.1.ky.size)
                  have L1 : Hid (w.heap.size ≤ (w9.alloc (.cells #[.int .i64 (G : Int), .int .i64 (C G G), .bool false, .bool false] 37)).heap.size) := by
                    show _ ≤ _
                    rw [World.size_alloc]; have := LB.out; omega
                  have hn1 : D.length + 1 ≤ maxLen := by rw [hnd]; simp only [maxLen]; omega
                  have hn2 : (D.length + 1) * 24 ≤ 140737488355328 := by rw [hnd]; omega
                  have hn3 : (D.length + 1) * 1 ≤ 140737488355328 := by rw [hnd]; omega
                  go_wp2_with (at_builtin; refine wpList_append_own_at _ rfl _ _ 31 rfl w.heap.size 37 i1 _ 4 24 Try.underlying31 INA.out.1 INA.out.2.1 INA.out.2.2.1 INA.out.2.2.2 rfl (by decide) _ _ _ rfl O1.out ⟨w9.heap.size, 0, none⟩ 1 1 (dV (nowA C G false)) rfl rfl CF.out ON.out hn1 hn2 L1.out ?_)
                  intro vD2 w10 o1 g1 x1 b1
                  clear x1 a0
                  have A10 : Hid (w10.heap[A]? = some (.cells #[.int .i64 (G : Int), .int .i64 zt, .bool false] 34 (0, 0))) :=
                    (g1.block A (by rw [World.size_alloc]; have := heap_lt' F9.out.2; omega) (fun q => Nat.lt_irrefl _ (HAD.out A q.symm))).trans (((Ba.below_alloc w9 _).block A (heap_lt' F9.out.2)).trans F9.out.2)
                  have OW2 : Hid (w10.ownsRow w.heap.size 4 1 (.slice oW nd cW) D.length (wC D)) :=
                    own_same F9.out.1.ow (fun g e => (g1.block g (by rw [World.size_alloc]; have := (F9.out.1.ow.lt g e).2; omega) (fun q => F9.out.1.dw g q.symm e)).trans ((Ba.below_alloc w9 _).block g (F9.out.1.ow.lt g e).2))
                  have O2 := hide (own_same OW2.out (w' := w10.alloc (.cells #[.bool false] 4)) (fun g e => (Ba.below_alloc w10 _).block g (OW2.out.lt g e).2))
                  have L2 : Hid (w.heap.size ≤ (w10.alloc (.cells #[.bool false] 4)).heap.size) := by
                    show _ ≤ _
                    rw [World.size_alloc]; have := L1.out; have := g1.size; omega
                  have CO := hide (cell_one_new w10 (.bool false) 4)
                  have ON2 := hide (one_bool false)
                  have R1 := hide o1
                  have G1 := hide g1
                  have E1 := hide b1
                  clear o1 g1 b1 OW2 L1 CF ON O1
                  have a2 := cell_of A10.out 2
                  simp at a2
                  go_wp2_with (at_builtin; refine wpList_append_own_at _ rfl _ _ 32 rfl w.heap.size 4 i2 _ 1 1 Try.underlying32 INB.out.1 INB.out.2.1 INB.out.2.2.1 INB.out.2.2.2 rfl (by decide) _ _ _ rfl O2.out ⟨w10.heap.size, 0, none⟩ 1 1 [.bool false] rfl rfl CO.out ON2.out hn1 hn3 L2.out ?_)
                  intro vW2 w11 o2 g2 x2 b2
                  clear x2 a2
                  have A11 : Hid (w11.heap[A]? = some (.cells #[.int .i64 (G : Int), .int .i64 zt, .bool false] 34 (0, 0))) :=
                    (g2.block A (by rw [World.size_alloc]; have := heap_lt' A10.out; omega) (fun q => Nat.lt_irrefl _ (HAW.out A q.symm))).trans (((Ba.below_alloc w10 _).block A (heap_lt' A10.out)).trans A10.out)
                  have F11 : Hid (FW w X K vD2 vW2 C (D ++ [nowA C G false]) st9 w11) := F9.out.1.app (nowA C G false) (Ba.below_alloc w9 _) (by rw [hnd]; exact R1.out) G1.out (by rw [World.size_alloc]; exact E1.out) (Ba.below_alloc w10 _) (by rw [hnd]; exact o2) g2 (by rw [World.size_alloc]; exact b2)
                  clear o2 g2 b2 R1 G1 E1 A10 F9 O2 L2 CO ON2 LB INA INB
                  have a0 := cell_of A11.out 0
                  have a1 := cell_of A11.out 1
                  simp at a0 a1
                  by_cases t0 : zt < 0
                  · go_wp2_with fail
                    go_roundw
                    case rel => (repeat apply Exists.intro); exact ⟨⟨k + 1, C, _, st9, by omega, by simp; omega, by go_num, F11.out, FI9.out.more, FC9.out⟩, rfl⟩
                    case measure => simp [intOf]; omega
                  by_cases t3 : 4 ≤ zt
                  · go_wp2_with fail
                    go_roundw
                    case rel => (repeat apply Exists.intro); exact ⟨⟨k + 1, C, _, st9, by omega, by simp; omega, by go_num, F11.out, FI9.out.more, FC9.out⟩, rfl⟩
                    case measure => simp [intOf]; omega
                  obtain ⟨T, rfl⟩ : ∃ T : Nat, zt = (T : Int) := ⟨zt.toNat, by omega⟩
                  have hT : T < 4 := by omega
                  have hT' : (T : Int) < 4 := by omega
                  clear t0 t3
                  go_upto_region 38 with fail
                  have lc : (loadCellsFrom ⟨K, G * 256, none⟩ 0 256 #[]).run Try.prog w11.drew = .ok (ra (C G)) w11.drew := ld_ref ((F11.out.ra G hG).below (Ba.bdrew1 w11))
                  have JN := hide (rjoin_any K (T * 256) (C T) (C G) w11.drew ((F11.out.ra T hT).below (Ba.bdrew1 w11)))
                  have F11d := hide (F11.out.below (Ba.bdrew1 w11))
                  have KP : Hid (∀ u, RJ (w11.drew.alloc (.cells (ra (C G)) 28)) K (T * 256) (jf (C T) (C G) 256) u → u.cell? ⟨A, 0, none⟩ = some (.int .i64 (G : Int)) ∧ u.cell? ⟨A, 1, none⟩ = some (.int .i64 (T : Int)) ∧ (loadCellsFrom ⟨K, G * 256, none⟩ 0 256 #[]).run Try.prog u = .ok (ra (C G)) u) := by
                    intro u ju
                    obtain ⟨h1, h2⟩ := F11d.out.jkeep (A := A) hG ju A11.out HAK.out
                    exact ⟨cell_of h1 0, cell_of h1 1, h2⟩
                  obtain ⟨LC, hLC⟩ : ∃ LC : Nat → Sem (Array Value), ∀ n, loadCellsFrom (⟨K, G * 256, none⟩ : Addr) 0 n #[] = LC n := ⟨fun n => loadCellsFrom (⟨K, G * 256, none⟩ : Addr) 0 n #[], fun _ => rfl⟩
                  rw [hLC] at lc KP
                  have TL : Hid (∀ u, RJ (w11.drew.alloc (.cells (ra (C G)) 28)) K (T * 256) (jf (C T) (C G) 256) u → u.heap[A]? = some (.cells #[.int .i64 (G : Int), .int .i64 (T : Int), .bool false] 34 (0, 0)) ∧ Ck.RA (u.drewN 1) K (G * 256) (C G) ∧ FW w X K vD2 vW2 (tellC C G T) (D ++ [nowA C G false]) st9 (((u.drewN 1).setCell ⟨K, G * 256 + G, none⟩ (.int .i64 (C G G + 1))).drew)) := by
                    intro u ju
                    exact ⟨(F11d.out.jkeep (A := A) hG ju A11.out HAK.out).1, F11d.out.tell hG ju 1⟩
                  have hc0 := (FI9.out.c0 G hG G (by omega)).1
                  have hc2 := (FI9.out.c0 G hG G (by omega)).2
                  have TK := hide (fun u (h : Ck.RA u K (G * 256) (C G)) => rtick_ok K (G * 256) (C G) G 1048576 u h (by omega) (by decide) hc0 (by omega))
                  clear hc0 hc2
                  generalize ra (C G) = AG at *
                  go_region_held3 (fun w' => w'.cell? ⟨A, 0, none⟩ = some (.int .i64 (G : Int)) ∧ w'.cell? ⟨A, 1, none⟩ = some (.int .i64 (T : Int)) ∧ (LC 256).run Try.prog w' = .ok AG w')
                    (first | (go_keep; done) | exact KP.out _ j12)
                    ((go_at_call 16; refine JN.out.mono ?_; rintro r w12 ⟨rfl, j12⟩))
                  obtain ⟨h12, r12, f12⟩ := TL.out _ j12
                  have T12 := hide (TK.out _ r12)
                  have F12 := hide f12
                  have a0 := cell_of h12 0
                  simp at a0
                  have KP2 : Hid ((((w12.drewN 1).setCell ⟨K, G * 256 + G, none⟩ (.int .i64 (C G G + 1))).drew).cell? ⟨A, 0, none⟩ = some (.int .i64 (G : Int))) := by
                    show ((w12.drewN 1).setCell ⟨K, G * 256 + G, none⟩ (.int .i64 (C G G + 1))).cell? ⟨A, 0, none⟩ = _
                    rw [World.cell?_setCell_other _ _ _ _ (fun q => by have : K = A := congrArg Addr.block q; have := HAK.out; omega)]
                    exact cell_of h12 0
                  clear j12 h12 r12 f12 TL TK KP JN
                  go_wp2_with fail
                  go_region_held3 (fun w' => w'.cell? ⟨A, 0, none⟩ = some (.int .i64 (G : Int)))
                    (first | (go_keep; done) | exact KP2.out)
                    ((go_at_call 17; refine T12.out.mono ?_; rintro r w13 ⟨rfl, rfl⟩))
                  go_wp2_with fail
                  go_roundw
                  case rel => (repeat apply Exists.intro); exact ⟨⟨k + 1, tellC C G T, _, st9, by omega, by simp; omega, by go_num, F12.out, FI9.out.tell hG hT, FC9.out⟩, rfl⟩
                  case measure => simp [intOf]; omega
                · have hv2 : v ≠ 0 := by simpa using hv0
                  clear hv0
                  obtain rfl : v = 1 := by omega
                  clear hv1 hv2
                  go_wp2_with fail
                  refine RD.out.mono ?_
                  rintro r w9 ⟨rfl, c9, k9⟩
                  have F9 := hide (FIN.out _ _ c9 k9)
                  clear c9 k9 RD FIN
                  go_wp2_with fail
                  refine (RC.out _).mono ?_
                  rintro r w10 ⟨rfl, b10⟩
                  have B10 := hide (F9.out.1.ky.trans (KY.of b10 F9.out.1.ylt)).lw
                  clear b10
                  go_wp2_with fail
                  go_ret
                  exact ⟨rfl, B10.out⟩
              · have RD := hide (write_ok C8.out E NO.out.1 b8 tL N8.out)
                obtain ⟨v, hv⟩ : ∃ v, wrR st E tL = v := ⟨_, rfl⟩
                have hv0 : (v == 0) = !rv := KEY.out v (by rw [← hv, ← HE.out]; exact first_write FIH.out FCH.out (by omega) hG HL2.out)
                have hv1 : v = 0 ∨ v = 1 ∨ v = 2 := by
                  rw [← hv]; unfold wrR
                  split
                  · exact .inr (.inl rfl)
                  · (split; exact .inr (.inr rfl); exact .inl rfl)
                rw [hv] at RD
                clear hv
                cases rv
                · obtain rfl : v = 0 := by simpa using hv0
                  clear hv0 hv1
                  go_wp2_with fail
                  refine RD.out.mono ?_
                  rintro r w9 ⟨rfl, c9, k9⟩
                  have F9 := hide (FIN.out _ _ c9 k9)
                  have FC9 : Hid (Fc (D ++ [nowA C G true]) (wrS E)) := by
                    rw [← HE.out]
                    exact Fc.write FIH.out (NRC.out (by first | rfl | trivial))
                  have FI9 : Hid (Fi C (D ++ [nowA C G true]) k) := FIH.out.now hG true
                  clear c9 k9 RD FIN FCH HL2 NO KEY NRC C8 N8
                  generalize (wrS E) = st9 at *
                  go_upto_region 35 with fail
                  obtain ⟨i1, hi1, hy1, hy2, hy3⟩ := info_parts info_acc
                  have INA := hide (And.intro hi1 (And.intro hy1 (And.intro hy2 hy3)))
                  clear hi1 hy1 hy2 hy3
                  obtain ⟨i2, hi1, hy1, hy2, hy3⟩ := info_parts info_boo
                  have INB := hide (And.intro hi1 (And.intro hy1 (And.intro hy2 hy3)))
                  clear hi1 hy1 hy2 hy3
                  have a0 := cell_of F9.out.2 0
                  simp at a0
                  clear a2
                  have O1 := hide (own_same F9.out.1.od (w' := w9.alloc (.cells #[.int .i64 (G : Int), .int .i64 (C G G), .bool false, .bool false] 37)) (fun g e => (Ba.below_alloc w9 _).block g (F9.out.1.od.lt g e).2))
                  have CF := hide (cell_four w9 (.int .i64 (G : Int)) (.int .i64 (C G G)) (.bool false) (.bool false) 37)
                  have ON := hide (one_four (nowA C G true))
                  have LB := hide (show w.heap.size ≤ w9.heap.size from F9.out.1.ky.size)
                  have L1 : Hid (w.heap.size ≤ (w9.alloc (.cells #[.int .i64 (G : Int), .int .i64 (C G G), .bool false, .bool false] 37)).heap.size) := by
                    show _ ≤ _
                    rw [World.size_alloc]; have := LB.out; omega
                  have hn1 : D.length + 1 ≤ maxLen := by rw [hnd]; simp only [maxLen]; omega
                  have hn2 : (D.length + 1) * 24 ≤ 140737488355328 := by rw [hnd]; omega
                  have hn3 : (D.length + 1) * 1 ≤ 140737488355328 := by rw [hnd]; omega
                  go_wp2_with (at_builtin; refine wpList_append_own_at _ rfl _ _ 31 rfl w.heap.size 37 i1 _ 4 24 Try.underlying31 INA.out.1 INA.out.2.1 INA.out.2.2.1 INA.out.2.2.2 rfl (by decide) _ _ _ rfl O1.out ⟨w9.heap.size, 0, none⟩ 1 1 (dV (nowA C G true)) rfl rfl CF.out ON.out hn1 hn2 L1.out ?_)
                  intro vD2 w10 o1 g1 x1 b1
                  clear x1 a0
                  have A10 : Hid (w10.heap[A]? = some (.cells #[.int .i64 (G : Int), .int .i64 zt, .bool true] 34 (0, 0))) :=
                    (g1.block A (by rw [World.size_alloc]; have := heap_lt' F9.out.2; omega) (fun q => Nat.lt_irrefl _ (HAD.out A q.symm))).trans (((Ba.below_alloc w9 _).block A (heap_lt' F9.out.2)).trans F9.out.2)
                  have OW2 : Hid (w10.ownsRow w.heap.size 4 1 (.slice oW nd cW) D.length (wC D)) :=
                    own_same F9.out.1.ow (fun g e => (g1.block g (by rw [World.size_alloc]; have := (F9.out.1.ow.lt g e).2; omega) (fun q => F9.out.1.dw g q.symm e)).trans ((Ba.below_alloc w9 _).block g (F9.out.1.ow.lt g e).2))
                  have O2 := hide (own_same OW2.out (w' := w10.alloc (.cells #[.bool true] 4)) (fun g e => (Ba.below_alloc w10 _).block g (OW2.out.lt g e).2))
                  have L2 : Hid (w.heap.size ≤ (w10.alloc (.cells #[.bool true] 4)).heap.size) := by
                    show _ ≤ _
                    rw [World.size_alloc]; have := L1.out; have := g1.size; omega
                  have CO := hide (cell_one_new w10 (.bool true) 4)
                  have ON2 := hide (one_bool true)
                  have R1 := hide o1
                  have G1 := hide g1
                  have E1 := hide b1
                  clear o1 g1 b1 OW2 L1 CF ON O1
                  have a2 := cell_of A10.out 2
                  simp at a2
                  go_wp2_with (at_builtin; refine wpList_append_own_at _ rfl _ _ 32 rfl w.heap.size 4 i2 _ 1 1 Try.underlying32 INB.out.1 INB.out.2.1 INB.out.2.2.1 INB.out.2.2.2 rfl (by decide) _ _ _ rfl O2.out ⟨w10.heap.size, 0, none⟩ 1 1 [.bool true] rfl rfl CO.out ON2.out hn1 hn3 L2.out ?_)
                  intro vW2 w11 o2 g2 x2 b2
                  clear x2 a2
                  have A11 : Hid (w11.heap[A]? = some (.cells #[.int .i64 (G : Int), .int .i64 zt, .bool true] 34 (0, 0))) :=
                    (g2.block A (by rw [World.size_alloc]; have := heap_lt' A10.out; omega) (fun q => Nat.lt_irrefl _ (HAW.out A q.symm))).trans (((Ba.below_alloc w10 _).block A (heap_lt' A10.out)).trans A10.out)
                  have F11 : Hid (FW w X K vD2 vW2 C (D ++ [nowA C G true]) st9 w11) := F9.out.1.app (nowA C G true) (Ba.below_alloc w9 _) (by rw [hnd]; exact R1.out) G1.out (by rw [World.size_alloc]; exact E1.out) (Ba.below_alloc w10 _) (by rw [hnd]; exact o2) g2 (by rw [World.size_alloc]; exact b2)
                  clear o2 g2 b2 R1 G1 E1 A10 F9 O2 L2 CO ON2 LB INA INB
                  have a0 := cell_of A11.out 0
                  have a1 := cell_of A11.out 1
                  simp at a0 a1
                  by_cases t0 : zt < 0
                  · go_wp2_with fail
                    go_roundw
                    case rel => (repeat apply Exists.intro); exact ⟨⟨k + 1, C, _, st9, by omega, by simp; omega, by go_num, F11.out, FI9.out.more, FC9.out⟩, rfl⟩
                    case measure => simp [intOf]; omega
                  by_cases t3 : 4 ≤ zt
                  · go_wp2_with fail
                    go_roundw
                    case rel => (repeat apply Exists.intro); exact ⟨⟨k + 1, C, _, st9, by omega, by simp; omega, by go_num, F11.out, FI9.out.more, FC9.out⟩, rfl⟩
                    case measure => simp [intOf]; omega
                  obtain ⟨T, rfl⟩ : ∃ T : Nat, zt = (T : Int) := ⟨zt.toNat, by omega⟩
                  have hT : T < 4 := by omega
                  have hT' : (T : Int) < 4 := by omega
                  clear t0 t3
                  go_upto_region 38 with fail
                  have lc : (loadCellsFrom ⟨K, G * 256, none⟩ 0 256 #[]).run Try.prog w11.drew = .ok (ra (C G)) w11.drew := ld_ref ((F11.out.ra G hG).below (Ba.bdrew1 w11))
                  have JN := hide (rjoin_any K (T * 256) (C T) (C G) w11.drew ((F11.out.ra T hT).below (Ba.bdrew1 w11)))
                  have F11d := hide (F11.out.below (Ba.bdrew1 w11))
                  have KP : Hid (∀ u, RJ (w11.drew.alloc (.cells (ra (C G)) 28)) K (T * 256) (jf (C T) (C G) 256) u → u.cell? ⟨A, 0, none⟩ = some (.int .i64 (G : Int)) ∧ u.cell? ⟨A, 1, none⟩ = some (.int .i64 (T : Int)) ∧ (loadCellsFrom ⟨K, G * 256, none⟩ 0 256 #[]).run Try.prog u = .ok (ra (C G)) u) := by
                    intro u ju
                    obtain ⟨h1, h2⟩ := F11d.out.jkeep (A := A) hG ju A11.out HAK.out
                    exact ⟨cell_of h1 0, cell_of h1 1, h2⟩
                  obtain ⟨LC, hLC⟩ : ∃ LC : Nat → Sem (Array Value), ∀ n, loadCellsFrom (⟨K, G * 256, none⟩ : Addr) 0 n #[] = LC n := ⟨fun n => loadCellsFrom (⟨K, G * 256, none⟩ : Addr) 0 n #[], fun _ => rfl⟩
                  rw [hLC] at lc KP
                  have TL : Hid (∀ u, RJ (w11.drew.alloc (.cells (ra (C G)) 28)) K (T * 256) (jf (C T) (C G) 256) u → u.heap[A]? = some (.cells #[.int .i64 (G : Int), .int .i64 (T : Int), .bool true] 34 (0, 0)) ∧ Ck.RA (u.drewN 1) K (G * 256) (C G) ∧ FW w X K vD2 vW2 (tellC C G T) (D ++ [nowA C G true]) st9 (((u.drewN 1).setCell ⟨K, G * 256 + G, none⟩ (.int .i64 (C G G + 1))).drew)) := by
                    intro u ju
                    exact ⟨(F11d.out.jkeep (A := A) hG ju A11.out HAK.out).1, F11d.out.tell hG ju 1⟩
                  have hc0 := (FI9.out.c0 G hG G (by omega)).1
                  have hc2 := (FI9.out.c0 G hG G (by omega)).2
                  have TK := hide (fun u (h : Ck.RA u K (G * 256) (C G)) => rtick_ok K (G * 256) (C G) G 1048576 u h (by omega) (by decide) hc0 (by omega))
                  clear hc0 hc2
                  generalize ra (C G) = AG at *
                  go_region_held3 (fun w' => w'.cell? ⟨A, 0, none⟩ = some (.int .i64 (G : Int)) ∧ w'.cell? ⟨A, 1, none⟩ = some (.int .i64 (T : Int)) ∧ (LC 256).run Try.prog w' = .ok AG w')
                    (first | (go_keep; done) | exact KP.out _ j12)
                    ((go_at_call 16; refine JN.out.mono ?_; rintro r w12 ⟨rfl, j12⟩))
                  obtain ⟨h12, r12, f12⟩ := TL.out _ j12
                  have T12 := hide (TK.out _ r12)
                  have F12 := hide f12
                  have a0 := cell_of h12 0
                  simp at a0
                  have KP2 : Hid ((((w12.drewN 1).setCell ⟨K, G * 256 + G, none⟩ (.int .i64 (C G G + 1))).drew).cell? ⟨A, 0, none⟩ = some (.int .i64 (G : Int))) := by
                    show ((w12.drewN 1).setCell ⟨K, G * 256 + G, none⟩ (.int .i64 (C G G + 1))).cell? ⟨A, 0, none⟩ = _
                    rw [World.cell?_setCell_other _ _ _ _ (fun q => by have : K = A := congrArg Addr.block q; have := HAK.out; omega)]
                    exact cell_of h12 0
                  clear j12 h12 r12 f12 TL TK KP JN
                  go_wp2_with fail
                  go_region_held3 (fun w' => w'.cell? ⟨A, 0, none⟩ = some (.int .i64 (G : Int)))
                    (first | (go_keep; done) | exact KP2.out)
                    ((go_at_call 17; refine T12.out.mono ?_; rintro r w13 ⟨rfl, rfl⟩))
                  go_wp2_with fail
                  go_roundw
                  case rel => (repeat apply Exists.intro); exact ⟨⟨k + 1, tellC C G T, _, st9, by omega, by simp; omega, by go_num, F12.out, FI9.out.tell hG hT, FC9.out⟩, rfl⟩
                  case measure => simp [intOf]; omega
                · have hv2 : v ≠ 0 := by simpa using hv0
                  clear hv0
                  obtain rfl | rfl : v = 1 ∨ v = 2 := by omega
                  all_goals
                    clear hv1 hv2
                    go_wp2_with fail
                    refine RD.out.mono ?_
                    rintro r w9 ⟨rfl, c9, k9⟩
                    have F9 := hide (FIN.out _ _ c9 k9)
                    clear c9 k9 RD FIN
                    go_wp2_with fail
                    refine (RC.out _).mono ?_
                    rintro r w10 ⟨rfl, b10⟩
                    have B10 := hide (F9.out.1.ky.trans (KY.of b10 F9.out.1.ylt)).lw
                    clear b10
                    go_wp2_with fail
                    go_ret
                    exact ⟨rfl, B10.out⟩
        · have hlt' : ¬ ((k : Int) < (n : Int)) := by omega
          go_wp2_with fail
          refine (RC.out _).mono ?_
          rintro r w6 ⟨rfl, b6⟩
          have B6 := hide (FWH.out.ky.trans (KY.of b6 FWH.out.ylt)).lw
          clear b6
          go_wp2_with fail
          go_ret
          exact ⟨rfl, B6.out⟩

/-! ### the row -/
set_option maxRecDepth 100000 in
theorem lifted (os : Os) (started : os.Started) (H : Type) (enc : TypeId × Value → H) :
    ReturnsInHanded {} Try.checked os 3 .any (Rows.cellFirstSpec.pre6 enc Try.prog Try.f3 Rows.cellFirstRow.domain false) (Rows.cellFirstSpec.post enc Try.prog Try.f3 false true false false) := by
  refine returnsInHanded_of_change (C := Try.checked) own started (by kernel_rfl) Try.func3
    (ChangeSpec.witness6 (enc := enc) (C := Try.checked) false ⟨#[], #[.slice none 0 0], []⟩ 8 (by kernel_rfl) (by kernel_rfl) (by kernel_rfl) (by kernel_rfl)) ?_
  intro W base args ds gs before hval0 hW hcnd _
  have hval : ∀ (j : Nat) t v, Try.f3.params[j]? = some t → args[j]? = some v → Value.okWide Try.prog W .any base t v := hval0
  have hW' := hW
  obtain ⟨p, q, hA0, hV, rfl, hfz, hnd⟩ := hW
  have hA : DataW.TrodAll enc Try.prog W 0 (fun _ => true) true Try.f3.params.toList args.toList ds p := hA0
  rw [Try.params3] at hA hval
  obtain ⟨v0, vs0, d0, ds0, p0, q0, hargs, rfl, rfl, h0, r0⟩ := trodAll_cons hA
  obtain ⟨rfl, rfl, rfl⟩ := trodAll_nil r0
  obtain rfl : args = #[v0] := by cases args; simp_all
  obtain ⟨rfl, rfl⟩ := trodVars_none hV
  obtain ⟨oa0, n0, c0, rfl⟩ := okWide_slice Try.underlying22 (hval 0 22 v0 rfl rfl)
  have k0 := h0
  have lt0 : ∀ x ∈ p0, x.block < W.heap.size := by obtain ⟨m, hm⟩ := k0; exact DataW.trod_lt m _ _ _ hm
  obtain ⟨l0, rfl, A0, C0, M0⟩ := h0.elim fun _ hf => asks_open hf
  clear hA0 hval0
  refine (core (w := W) oa0 l0 c0 A0 (Nat.le_trans C0 M0)).mono fun e W' ⟨he, bel⟩ => ?_
  subst he
  exact ⟨_, rfl, _, _, _, [], _, [], hW', trodAll_mk1 (shut_bool Try.underlying4 _), (trodAll_cons_mk (Below.trod laidOut (by kernel_rfl) (of_decide_eq_true (by kernel_rfl)) k0 bel lt0) trodAll_mk0), rfl, bel.frame _, fun h => by cases h⟩

theorem over : Rows.cellFirstRow.holds Try.pinned (OpenSpec.ofChange Rows.cellFirstSpec) :=
  OpenClaim.holds_of_wide 3 Try.f3 rfl rfl rfl rfl rfl rfl rfl ⟨rfl, rfl, rfl, rfl, rfl⟩ rfl rfl rfl rfl rfl (by kernel_rfl) Try.func3 (by kernel_rfl)
    (of_decide_eq_true (by kernel_rfl)) (by unfold Func.isWrapper; first | (rw [if_pos (by decide +kernel)]; kernel_rfl) | (rw [if_neg (by decide +kernel)]; exact ⟨rfl, rfl⟩))
    (fun os started H enc _ => lifted os started H enc)

/-- the statement -/
theorem proved : Rows.CellFirstSaid := over
#print axioms proved
end Go.Proofs.Ytodppbahihjegaa.cellFirst
