/- Layer 18's laws, over this seat's program: a step of both (does), of a right clock. -/
import Derived.Test.YtnbheejahenejaaAr
import Derived.Deep.Cut
namespace Go.Proofs.Ytnbheejahenejaa
open Go.ChangeShapes Go.WideShapes Go.ChangeAt Go.RowKit
namespace Ce
open Ck
open Ba (KF Bd Nw)
open Ep (tidOf clkOf ownB rdN rdT rdt rdc rdk)

theorem cl_trm (l : List Int) : Cl (trm l) (nth l) := fun k _ => (nth_trm l k).symm
/-- what lies beside both cells while a step is done -/
structure Sd (Y1 : Nat → Prop) (W : World) (B D P b : Nat) (R : Nat) (cs : Array Value) (l : List Int) (e : Int) : Prop where
  sb : W.heap[B]? = some (.cells cs 32 (0, 0))
  sd : W.heap[D]? = some (.cells (ra (nth l)) 39 (0, 0))
  sp : W.heap[P]? = some (.cells (rdV e) 65 (0, 0))
  yb : Y1 B
  yd : Y1 D
  yp : Y1 P
  cl : CL (fun k => Y1 k ∨ k = R) W b (trm l)
theorem Sd.keep {Y1 : Nat → Prop} {W W' : World} {B D P b R : Nat} {cs : Array Value} {l : List Int} {e : Int} (s : Sd Y1 W B D P b R cs l e) (k : KY (fun k => Y1 k ∨ k = R) W W') : Sd Y1 W' B D P b R cs l e :=
  ⟨(k.block B (.inl s.yb)).trans s.sb, (k.block D (.inl s.yd)).trans s.sd, (k.block P (.inl s.yp)).trans s.sp, s.yb, s.yd, s.yp, s.cl.keep k⟩

set_option maxRecDepth 100000 in
set_option maxHeartbeats 4800000 in
theorem does_ok {Y0 : Nat → Prop} {X R : Nat} {w : World} {st : Cst} {a : Ac} {F : Nat → Int} {tl : Bool} (j : J Y0 X R w st a F tl) (wh tid cut e : Int) (a0 : 0 ≤ e) (a1 : e ≤ 18446744073709551615) (oa : Option Addr) (l : List Int) (c : Nat) (hA : Ck.At w oa l) (hlc : l.length ≤ c) (hcm : c ≤ maxLen) (hl : l.length ≤ 256) (hv : Valid l) :
    Calls Try.prog 11 #[.pointer (some ⟨X, 0, none⟩), .pointer (some ⟨R, 0, none⟩), .agg (stpV wh tid cut e oa l.length c)] w (DoR Y0 X R w) := by
  unfold DoR stpV
  have b1 := Ba.below_alloc w (.cells #[.int .i64 wh, .int .i64 tid, .int .i64 cut, .int .u64 e, .slice oa l.length c] 32)
  have h1 : (w.alloc (.cells #[.int .i64 wh, .int .i64 tid, .int .i64 cut, .int .u64 e, .slice oa l.length c] 32)).heap[w.heap.size]? = some (.cells #[.int .i64 wh, .int .i64 tid, .int .i64 cut, .int .u64 e, .slice oa l.length c] 32 (0, 0)) := heap_new _ _
  have z1 : (w.alloc (.cells #[.int .i64 wh, .int .i64 tid, .int .i64 cut, .int .u64 e, .slice oa l.length c] 32)).heap.size = w.heap.size + 1 := World.size_alloc _ _
  have A1 := hA.below b1
  have O1 := hide (of_y oa l l.length c rfl _ A1 hl hlc hcm hv)
  unfold OfR at O1
  have O2 := hide (fun u (b : Below _ (w.alloc (.cells #[.int .i64 wh, .int .i64 tid, .int .i64 cut, .int .u64 e, .slice oa l.length c] 32)) u) => rof_ok oa l c u (A1.below b) hl hv)
  have SP := hide (split_any e a0 a1)
  unfold SplR rdV at SP
  have zr := zero_ref
  have rs := ra_size nf
  have rs2 := ra_size (nth l)
  have JJ := hide j
  have B1 := hide b1
  have H1 := hide h1
  have Z1 := hide z1
  clear j hA A1 hlc hcm hl hv b1 h1 z1
  obtain ⟨N, hN⟩ : ∃ N, l.length = N := ⟨_, rfl⟩
  rw [hN] at O1 O2 H1 B1 Z1 ⊢
  clear hN
  go_enter Try.func11, Try.ntmps11
  go_wp2_with fail
  generalize w.alloc (.cells #[.int .i64 wh, .int .i64 tid, .int .i64 cut, .int .u64 e, .slice oa N c] 32) = w1 at *
  have d0 := cell_of H1.out 4
  simp at d0
  refine O1.out.mono ?_
  rintro r w2 ⟨b, rfl, b2, n2⟩
  have B2 := hide b2
  have N2 := hide (n2 (fun _ => False))
  have d1 := cell_of ((b2.block w.heap.size (by rw [Z1.out]; omega)).trans H1.out) 4
  simp at d1
  clear b2 n2 O1 d0
  go_wp2_with fail
  refine (O2.out w2 B2.out).mono ?_
  rintro r w3 ⟨rfl, b3⟩
  have B3 := hide b3
  have s1 := st_ref (nth l) (heap_new w3 (.cells (ra nf) 39)) (ra_size nf)
  rw [setRow_new] at s1
  have HD0 : Hid ((w3.alloc (.cells (ra (nth l)) 39)).heap[w3.heap.size]? = some (.cells (ra (nth l)) 39 (0, 0))) := heap_new _ _
  have B4 := hide (Ba.below_alloc w3 (.cells (ra (nth l)) 39))
  have Z4 : Hid ((w3.alloc (.cells (ra (nth l)) 39)).heap.size = w3.heap.size + 1) := World.size_alloc _ _
  clear b3 O2 d1
  go_upto_region 7 with fail
  generalize w3.alloc (.cells (ra (nth l)) 39) = w4 at *
  clear s1 zr
  have d2 := cell_of ((btr (btr B2.out B3.out) B4.out).block w.heap.size (by rw [Z1.out]; omega) |>.trans H1.out) 3
  simp at d2
  go_wp2_with fail
  refine (SP.out _).mono ?_
  rintro r w5 ⟨rfl, b5⟩
  have B5 := hide b5
  have HP0 : Hid ((w5.alloc (.cells #[.bool (rdN e), .bool (rdT e), .int .i64 (rdt e), .int .i64 (rdc e)] 65)).heap[w5.heap.size]? = some (.cells #[.bool (rdN e), .bool (rdT e), .int .i64 (rdt e), .int .i64 (rdc e)] 65 (0, 0))) := heap_new _ _
  have B6 := hide (Ba.below_alloc w5 (.cells #[.bool (rdN e), .bool (rdT e), .int .i64 (rdt e), .int .i64 (rdc e)] 65))
  have Z6 : Hid ((w5.alloc (.cells #[.bool (rdN e), .bool (rdT e), .int .i64 (rdt e), .int .i64 (rdc e)] 65)).heap.size = w5.heap.size + 1) := World.size_alloc _ _
  clear b5 d2 SP
  go_upto_region 8 with fail
  generalize w5.alloc (.cells #[.bool (rdN e), .bool (rdT e), .int .i64 (rdt e), .int .i64 (rdc e)] 65) = w6 at *
  have b46 := btr B5.out B6.out
  have b16 := btr (btr (btr B2.out B3.out) B4.out) b46
  have b06 := btr B1.out b16
  have SD : Hid (Sd (Yp Y0 w w6) w6 w.heap.size w3.heap.size w5.heap.size b R #[.int .i64 wh, .int .i64 tid, .int .i64 cut, .int .u64 e, .slice oa N c] l e) := by
    have i1 := B1.out.size
    have i2 := B2.out.size
    have i3 := B3.out.size
    have i4 := B4.out.size
    have i5 := B5.out.size
    have q1 := Z1.out
    have q4 := Z4.out
    have q6 := Z6.out
    refine ⟨(b16.block _ (by omega)).trans H1.out, (b46.block _ (by omega)).trans HD0.out, HP0.out, .inr ⟨by omega, by omega⟩, .inr ⟨by omega, by omega⟩, .inr ⟨by omega, by omega⟩, ?_⟩
    refine (N2.out.keep (KY.of (btr (btr B3.out B4.out) b46) (fun k q => ?_))).mono (fun k q => ?_)
    · rcases q with q | q
      · exact q.elim
      · exact q.2
    · rcases q with q | q
      · exact q.elim
      · exact .inl (.inr ⟨by omega, by omega⟩)
  have J6 : Hid (J (Yp Y0 w w6) X R w6 st a F tl) := JJ.out.more b06 (fun k q => q.imp id And.left) (fun k q => by
    rcases q with q | q
    · exact Nat.lt_of_lt_of_le (JJ.out.y0 k q) b06.size
    · exact q.2)
  have K6 : Hid (KY Y0 w w6) := KY.of b06 JJ.out.y0
  have SUB : Hid (∀ k, Y0 k → Yp Y0 w w6 k) := fun k q => .inl q
  clear b46 b16 b06 HP0 HD0 B1 B2 B3 B4 B5 B6 Z1 Z4 Z6 N2 H1 JJ
  generalize Yp Y0 w w6 = Y1 at *
  obtain ⟨B, hB⟩ : ∃ B, w.heap.size = B := ⟨_, rfl⟩
  obtain ⟨D, hD⟩ : ∃ D, w3.heap.size = D := ⟨_, rfl⟩
  obtain ⟨P, hP⟩ : ∃ P, w5.heap.size = P := ⟨_, rfl⟩
  simp only [hB, hD, hP] at SD ⊢
  clear hB hD hP
  have y0 := cell_of SD.out.sb 0
  have y3 := cell_of SD.out.sb 3
  simp at y0 y3
  have GD := hide J6.out.cw.gd
  have CLT := hide (cl_trm l)
  have DON : Hid (∀ st' a' F' tl' W, CW (fun k => Y1 k ∨ k = R) X W st' → RX W R a' F' tl' → Eqc st' a' F' tl' → (∃ st a F tl, J Y0 X R W st a F tl)) := by
    intro st' a' F' tl' W h1 h2 h3
    exact ⟨_, _, _, _, (J.mk (Y0 := Y1) h1 h2 J6.out.nr h3).less SUB.out⟩
  by_cases h0 : wh = 0
  · subst h0
    obtain ⟨ob, hob⟩ : ∃ ob, ownB e = ob := ⟨_, rfl⟩
    cases ob
    · have RN := hide (read_no e a0 a1 (some ⟨X, 0, none⟩) (.pointer (some ⟨b, 0, none⟩)) w6 (.inl hob))
      have ha : accE e = 1 := by simp [accE, hob]
      rw [ha] at RN
      rw [hob]
      have DN := hide (DON.out _ _ _ _ w6 J6.out.cw J6.out.rx J6.out.eq)
      clear hob ha DON J6
      go_wp2_with fail
      refine RN.out.mono ?_
      rintro r w0 ⟨rfl, e0⟩
      obtain rfl := e0.symm
      go_wp2_with fail
      go_ret
      exact ⟨rfl, DN.out, K6.out⟩
    · have RN := hide (read_ok J6.out.cw e hob b (trm l) SD.out.cl)
      rw [hob]
      have et : rdt e = ((tidOf e).toNat : Int) := by
        have h1 := (Ep.rd_own e hob).2.2.1
        have h2 := Ep.tid_own e hob
        have h3 := own_tid hob
        omega
      have ec : rdc e = clkOf e := by rw [(Ep.rd_own e hob).2.2.2.1, Ep.clk_own e hob]
      have HOB := hide hob
      have ET := hide et
      have EC := hide ec
      clear hob et ec
      go_wp2_with fail
      refine RN.out.mono ?_
      rintro r w7 ⟨rfl, c7, k7⟩
      have C7 := hide c7
      have K7 := hide (K6.out.trans (k7.mono fun k q => .inl (SUB.out k q)))
      have SD7 := hide (SD.out.keep k7)
      have X7 := hide (J6.out.rx.block (k7.block R (.inr rfl)))
      have RR0 := rread_ok X7.out (tidOf e).toNat (by have := own_tid HOB.out; omega) (clkOf e) (nth l)
      have SA : Hid (rdR st e (trm l) = rrR a ((tidOf e).toNat : Int) (nth l)) := by
        show rdR st e (trm l) = rrR a ((tidOf e).toNat : Int) (nth l)
        rw [read_same J6.out.eq CLT.out HOB.out]
        have := own_tid HOB.out
        rw [show ((tidOf e).toNat : Int) = tidOf e by omega]
      have EQ : Hid (Eqc (rdS st e (trm l)) a (upF (ff F ((tidOf e).toNat : Int) (nth l) 256) (tidOf e).toNat (clkOf e)) tl) := by
        have := own_tid HOB.out
        have q := J6.out.eq.read GD.out CLT.out HOB.out
        rw [show ((tidOf e).toNat : Int) = tidOf e by omega]
        exact q
      rw [← ET.out, ← EC.out] at RR0 EQ
      rw [← ET.out] at SA
      have RR := hide RR0
      rw [SA.out]
      have p2 := cell_of SD7.out.sp 2
      have p3 := cell_of SD7.out.sp 3
      unfold rdV at p2 p3
      simp at p2 p3
      have lc : (loadCellsFrom ⟨D, 0, none⟩ 0 256 #[]).run Try.prog w7 = .ok (ra (nth l)) w7 := ld_ref (RA.of SD7.out.sd)
      obtain ⟨LC, hLC⟩ : ∃ LC : Nat → Sem (Array Value), ∀ n, loadCellsFrom (⟨D, 0, none⟩ : Addr) 0 n #[] = LC n := ⟨fun n => loadCellsFrom (⟨D, 0, none⟩ : Addr) 0 n #[], fun _ => rfl⟩
      rw [hLC] at lc
      have DN := hide (fun W (k : KF (fun k => k = R) w7 W) h => DON.out _ _ _ _ W (C7.out.ref (.inr rfl) k) h EQ.out)
      have KN := hide (fun W (k : KF (fun k => k = R) w7 W) => K7.out.trans ((KY.ref J6.out.nr (fun k q => C7.out.yl k (.inl q)) k).mono SUB.out))
      clear c7 k7 RR0 SA EQ RN SD SD7 C7 X7 DON J6 y0 y3
      generalize ra (nth l) = AG at *
      go_wp2_with fail
      refine RR.out.mono ?_
      rintro r w8 ⟨rfl, x8, k8⟩
      have D8 := hide (DN.out w8 k8 x8)
      have K8 := hide (KN.out w8 k8)
      clear x8 k8
      go_wp2_with fail
      go_ret
      exact ⟨by simp, D8.out, K8.out⟩
  by_cases h1 : wh = 1
  · subst h1
    clear h0
    obtain ⟨ob, hob⟩ : ∃ ob, ownB e = ob := ⟨_, rfl⟩
    cases ob
    · have RN := hide (read_no e a0 a1 (some ⟨X, 0, none⟩) (.pointer (some ⟨b, 0, none⟩)) w6 (.inl hob))
      have ha : accE e = 1 := by simp [accE, hob]
      rw [ha] at RN
      rw [hob]
      have DN := hide (DON.out _ _ _ _ w6 J6.out.cw J6.out.rx J6.out.eq)
      clear hob ha DON J6
      go_wp2_with fail
      refine RN.out.mono ?_
      rintro r w0 ⟨rfl, e0⟩
      obtain rfl := e0.symm
      go_wp2_with fail
      go_ret
      exact ⟨rfl, DN.out, K6.out⟩
    · have RN := hide (read_ok J6.out.cw e hob b (trm l) SD.out.cl)
      rw [hob]
      have et : rdt e = ((tidOf e).toNat : Int) := by
        have h1 := (Ep.rd_own e hob).2.2.1
        have h2 := Ep.tid_own e hob
        have h3 := own_tid hob
        omega
      have ec : rdc e = clkOf e := by rw [(Ep.rd_own e hob).2.2.2.1, Ep.clk_own e hob]
      have HOB := hide hob
      have ET := hide et
      have EC := hide ec
      clear hob et ec
      go_wp2_with fail
      refine RN.out.mono ?_
      rintro r w7 ⟨rfl, c7, k7⟩
      have C7 := hide c7
      have K7 := hide (K6.out.trans (k7.mono fun k q => .inl (SUB.out k q)))
      have SD7 := hide (SD.out.keep k7)
      have X7 := hide (J6.out.rx.block (k7.block R (.inr rfl)))
      have RR0 := rread_ok X7.out (tidOf e).toNat (by have := own_tid HOB.out; omega) (clkOf e) (nth l)
      have SA : Hid (rdR st e (trm l) = rrR a ((tidOf e).toNat : Int) (nth l)) := by
        show rdR st e (trm l) = rrR a ((tidOf e).toNat : Int) (nth l)
        rw [read_same J6.out.eq CLT.out HOB.out]
        have := own_tid HOB.out
        rw [show ((tidOf e).toNat : Int) = tidOf e by omega]
      have EQ : Hid (Eqc (rdS st e (trm l)) a (upF (ff F ((tidOf e).toNat : Int) (nth l) 256) (tidOf e).toNat (clkOf e)) tl) := by
        have := own_tid HOB.out
        have q := J6.out.eq.read GD.out CLT.out HOB.out
        rw [show ((tidOf e).toNat : Int) = tidOf e by omega]
        exact q
      rw [← ET.out, ← EC.out] at RR0 EQ
      rw [← ET.out] at SA
      have RR := hide RR0
      rw [SA.out]
      have p2 := cell_of SD7.out.sp 2
      have p3 := cell_of SD7.out.sp 3
      unfold rdV at p2 p3
      simp at p2 p3
      have lc : (loadCellsFrom ⟨D, 0, none⟩ 0 256 #[]).run Try.prog w7 = .ok (ra (nth l)) w7 := ld_ref (RA.of SD7.out.sd)
      obtain ⟨LC, hLC⟩ : ∃ LC : Nat → Sem (Array Value), ∀ n, loadCellsFrom (⟨D, 0, none⟩ : Addr) 0 n #[] = LC n := ⟨fun n => loadCellsFrom (⟨D, 0, none⟩ : Addr) 0 n #[], fun _ => rfl⟩
      rw [hLC] at lc
      have DN := hide (fun W (k : KF (fun k => k = R) w7 W) h => DON.out _ _ _ _ W (C7.out.ref (.inr rfl) k) h EQ.out)
      have KN := hide (fun W (k : KF (fun k => k = R) w7 W) => K7.out.trans ((KY.ref J6.out.nr (fun k q => C7.out.yl k (.inl q)) k).mono SUB.out))
      clear c7 k7 RR0 SA EQ RN SD SD7 C7 X7 DON J6 y0 y3
      generalize ra (nth l) = AG at *
      go_wp2_with fail
      refine RR.out.mono ?_
      rintro r w8 ⟨rfl, x8, k8⟩
      have D8 := hide (DN.out w8 k8 x8)
      have K8 := hide (KN.out w8 k8)
      clear x8 k8
      go_wp2_with fail
      go_ret
      exact ⟨by simp, D8.out, K8.out⟩
  by_cases h2 : wh = 2
  · subst h2
    clear h0 h1
    obtain ⟨ob, hob⟩ : ∃ ob, ownB e = ob := ⟨_, rfl⟩
    cases ob
    · have RN := hide (read_no e a0 a1 (some ⟨X, 0, none⟩) (.pointer (some ⟨b, 0, none⟩)) w6 (.inl hob))
      have ha : accE e = 1 := by simp [accE, hob]
      rw [ha] at RN
      rw [hob]
      have DN := hide (DON.out _ _ _ _ w6 J6.out.cw J6.out.rx J6.out.eq)
      clear hob ha DON J6
      go_wp2_with fail
      refine RN.out.mono ?_
      rintro r w0 ⟨rfl, e0⟩
      obtain rfl := e0.symm
      go_wp2_with fail
      go_ret
      exact ⟨rfl, DN.out, K6.out⟩
    · have RN := hide (read_ok J6.out.cw e hob b (trm l) SD.out.cl)
      rw [hob]
      have et : rdt e = ((tidOf e).toNat : Int) := by
        have h1 := (Ep.rd_own e hob).2.2.1
        have h2 := Ep.tid_own e hob
        have h3 := own_tid hob
        omega
      have ec : rdc e = clkOf e := by rw [(Ep.rd_own e hob).2.2.2.1, Ep.clk_own e hob]
      have HOB := hide hob
      have ET := hide et
      have EC := hide ec
      clear hob et ec
      go_wp2_with fail
      refine RN.out.mono ?_
      rintro r w7 ⟨rfl, c7, k7⟩
      have C7 := hide c7
      have K7 := hide (K6.out.trans (k7.mono fun k q => .inl (SUB.out k q)))
      have SD7 := hide (SD.out.keep k7)
      have X7 := hide (J6.out.rx.block (k7.block R (.inr rfl)))
      have RR0 := rread_ok X7.out (tidOf e).toNat (by have := own_tid HOB.out; omega) (clkOf e) (nth l)
      have SA : Hid (rdR st e (trm l) = rrR a ((tidOf e).toNat : Int) (nth l)) := by
        show rdR st e (trm l) = rrR a ((tidOf e).toNat : Int) (nth l)
        rw [read_same J6.out.eq CLT.out HOB.out]
        have := own_tid HOB.out
        rw [show ((tidOf e).toNat : Int) = tidOf e by omega]
      have EQ : Hid (Eqc (rdS st e (trm l)) a (upF (ff F ((tidOf e).toNat : Int) (nth l) 256) (tidOf e).toNat (clkOf e)) tl) := by
        have := own_tid HOB.out
        have q := J6.out.eq.read GD.out CLT.out HOB.out
        rw [show ((tidOf e).toNat : Int) = tidOf e by omega]
        exact q
      rw [← ET.out, ← EC.out] at RR0 EQ
      rw [← ET.out] at SA
      have RR := hide RR0
      rw [SA.out]
      have p2 := cell_of SD7.out.sp 2
      have p3 := cell_of SD7.out.sp 3
      unfold rdV at p2 p3
      simp at p2 p3
      have lc : (loadCellsFrom ⟨D, 0, none⟩ 0 256 #[]).run Try.prog w7 = .ok (ra (nth l)) w7 := ld_ref (RA.of SD7.out.sd)
      obtain ⟨LC, hLC⟩ : ∃ LC : Nat → Sem (Array Value), ∀ n, loadCellsFrom (⟨D, 0, none⟩ : Addr) 0 n #[] = LC n := ⟨fun n => loadCellsFrom (⟨D, 0, none⟩ : Addr) 0 n #[], fun _ => rfl⟩
      rw [hLC] at lc
      have DN := hide (fun W (k : KF (fun k => k = R) w7 W) h => DON.out _ _ _ _ W (C7.out.ref (.inr rfl) k) h EQ.out)
      have KN := hide (fun W (k : KF (fun k => k = R) w7 W) => K7.out.trans ((KY.ref J6.out.nr (fun k q => C7.out.yl k (.inl q)) k).mono SUB.out))
      clear c7 k7 RR0 SA EQ RN SD SD7 C7 X7 DON J6 y0 y3
      generalize ra (nth l) = AG at *
      go_wp2_with fail
      refine RR.out.mono ?_
      rintro r w8 ⟨rfl, x8, k8⟩
      have D8 := hide (DN.out w8 k8 x8)
      have K8 := hide (KN.out w8 k8)
      clear x8 k8
      go_wp2_with fail
      go_ret
      exact ⟨by simp, D8.out, K8.out⟩
  by_cases h3 : wh = 3
  · subst h3
    clear h0 h1 h2
    obtain ⟨ob, hob⟩ : ∃ ob, ownB e = ob := ⟨_, rfl⟩
    cases ob
    · have RN := hide (write_no e a0 a1 (some ⟨X, 0, none⟩) (.pointer (some ⟨b, 0, none⟩)) w6 (.inl hob))
      have ha : accE e = 1 := by simp [accE, hob]
      rw [ha] at RN
      rw [hob]
      have DN := hide (DON.out _ _ _ _ w6 J6.out.cw J6.out.rx J6.out.eq)
      clear hob ha DON J6
      go_wp2_with fail
      refine RN.out.mono ?_
      rintro r w0 ⟨rfl, e0⟩
      obtain rfl := e0.symm
      go_wp2_with fail
      go_ret
      exact ⟨rfl, DN.out, K6.out⟩
    · have RN := hide (write_ok J6.out.cw e hob b (trm l) SD.out.cl)
      rw [hob]
      have et : rdt e = ((tidOf e).toNat : Int) := by
        have h1 := (Ep.rd_own e hob).2.2.1
        have h2 := Ep.tid_own e hob
        have h3 := own_tid hob
        omega
      have ec : rdc e = clkOf e := by rw [(Ep.rd_own e hob).2.2.2.1, Ep.clk_own e hob]
      have HOB := hide hob
      have ET := hide et
      have EC := hide ec
      clear hob et ec
      go_wp2_with fail
      refine RN.out.mono ?_
      rintro r w7 ⟨rfl, c7, k7⟩
      have C7 := hide c7
      have K7 := hide (K6.out.trans (k7.mono fun k q => .inl (SUB.out k q)))
      have SD7 := hide (SD.out.keep k7)
      have X7 := hide (J6.out.rx.block (k7.block R (.inr rfl)))
      have RR0 := rput_ok X7.out ((tidOf e).toNat : Int) (clkOf e) (nth l)
      have SA : Hid (wrR st e (trm l) = rpR a F tl ((tidOf e).toNat : Int) (nth l)) := by
        show wrR st e (trm l) = rpR a F tl ((tidOf e).toNat : Int) (nth l)
        rw [write_same J6.out.eq GD.out CLT.out HOB.out]
        have := own_tid HOB.out
        rw [show ((tidOf e).toNat : Int) = tidOf e by omega]
      have EQ : Hid (Eqc (wrS e) ⟨((tidOf e).toNat : Int), clkOf e, false, false⟩ nf false) := by
        have := own_tid HOB.out
        rw [show ((tidOf e).toNat : Int) = tidOf e by omega]
        exact Eqc.write HOB.out
      rw [← ET.out, ← EC.out] at RR0 EQ
      rw [← ET.out] at SA
      have RR := hide RR0
      rw [SA.out]
      have p2 := cell_of SD7.out.sp 2
      have p3 := cell_of SD7.out.sp 3
      unfold rdV at p2 p3
      simp at p2 p3
      have lc : (loadCellsFrom ⟨D, 0, none⟩ 0 256 #[]).run Try.prog w7 = .ok (ra (nth l)) w7 := ld_ref (RA.of SD7.out.sd)
      obtain ⟨LC, hLC⟩ : ∃ LC : Nat → Sem (Array Value), ∀ n, loadCellsFrom (⟨D, 0, none⟩ : Addr) 0 n #[] = LC n := ⟨fun n => loadCellsFrom (⟨D, 0, none⟩ : Addr) 0 n #[], fun _ => rfl⟩
      rw [hLC] at lc
      have DN := hide (fun W (k : KF (fun k => k = R) w7 W) h => DON.out _ _ _ _ W (C7.out.ref (.inr rfl) k) h EQ.out)
      have KN := hide (fun W (k : KF (fun k => k = R) w7 W) => K7.out.trans ((KY.ref J6.out.nr (fun k q => C7.out.yl k (.inl q)) k).mono SUB.out))
      clear c7 k7 RR0 SA EQ RN SD SD7 C7 X7 DON J6 y0 y3
      generalize ra (nth l) = AG at *
      go_wp2_with fail
      refine RR.out.mono ?_
      rintro r w8 ⟨rfl, x8, k8⟩
      have D8 := hide (DN.out w8 k8 x8)
      have K8 := hide (KN.out w8 k8)
      clear x8 k8
      go_wp2_with fail
      go_ret
      exact ⟨by simp, D8.out, K8.out⟩
  have g0 : (wh == 0) = false := beq_eq_false_iff_ne.2 h0
  have g1 : (wh == 1) = false := beq_eq_false_iff_ne.2 h1
  have g2 : (wh == 2) = false := beq_eq_false_iff_ne.2 h2
  have g3 : (wh == 3) = false := beq_eq_false_iff_ne.2 h3
  by_cases h4 : wh = 4
  · subst h4
    clear h0 h1 h2 h3 g0 g1 g2 g3
    have y1 := cell_of SD.out.sb 1
    have y2 := cell_of SD.out.sb 2
    simp at y1 y2
    by_cases hb : tid < 0 ∨ 256 ≤ tid ∨ cut < 0 ∨ 1048576 < cut
    · have R1 := hide (retire_arg (some ⟨X, 0, none⟩) tid cut hb w6.drew)
      have R2 := hide (rret_arg (.pointer (some ⟨R, 0, none⟩)) tid cut hb w6.drew)
      have DN := hide (DON.out _ _ _ _ w6.drew (J6.out.cw.kept (Ba.bdrew1 _)) (J6.out.rx.below (Ba.bdrew1 _)) J6.out.eq)
      have KD := hide (K6.out.trans (KY.of (Ba.bdrew1 w6) (fun k q => J6.out.y0 k (SUB.out k q))))
      clear hb DON J6 y3
      go_wp2_with fail
      go_region_held3 (fun w' => w'.cell? ⟨B, 1, none⟩ = some (.int .i64 tid) ∧ w'.cell? ⟨B, 2, none⟩ = some (.int .i64 cut))
        (go_keep)
        ((first | (go_at_call 23; refine R1.out.mono ?_; rintro r w7 ⟨rfl, rfl⟩) | (go_at_call 32; refine R2.out.mono ?_; rintro r w8 ⟨rfl, rfl⟩)))
      go_wp2_with fail
      go_ret
      exact ⟨rfl, DN.out, KD.out⟩
    · obtain ⟨t, rfl⟩ : ∃ t : Nat, tid = (t : Int) := ⟨tid.toNat, by omega⟩
      have ht : t < 256 := by omega
      have J7 := hide (J6.out.below (Ba.bdrew1 w6))
      have R1 := hide (retire_ok J7.out.cw (t : Int) cut (by omega) (by omega) (by omega) (by omega))
      unfold RetR at R1
      have R2 : Hid (∀ W, KY (fun k => Y1 k ∨ k = R) w6.drew W → Calls Try.prog 32 #[.pointer (some ⟨R, 0, none⟩), .int .i64 (t : Int), .int .i64 cut] W fun r w' => r = .returned (.int .i64 0) ∧ RX w' R (rtA a (t : Int) cut) (upF F t 0) (tl || decide (cut < F t)) ∧ KF (fun k => k = R) W w') :=
        fun W k => rret_ok (J7.out.rx.block (k.block R (.inr rfl))) t ht cut (by omega) (by omega)
      have EQ := hide (J6.out.eq.retire GD.out t ht cut (by omega))
      have DN := hide (fun W V (c : CW (fun k => Y1 k ∨ k = R) X W (retS st (t : Int) cut)) (k : KF (fun k => k = R) W V) h => DON.out _ _ _ _ V (c.ref (.inr rfl) k) h EQ.out)
      have KN := hide (fun W V (c : CW (fun k => Y1 k ∨ k = R) X W (retS st (t : Int) cut)) (k0 : KY (fun k => Y1 k ∨ k = R) w6.drew W) (k : KF (fun k => k = R) W V) => ((K6.out.trans (KY.of (Ba.bdrew1 w6) (fun k q => J6.out.y0 k (SUB.out k q)))).trans (k0.mono fun k q => .inl (SUB.out k q))).trans ((KY.ref J6.out.nr (fun k q => c.yl k (.inl q)) k).mono SUB.out))
      have SB : Hid (∀ W, KY (fun k => Y1 k ∨ k = R) w6.drew W → W.cell? ⟨B, 1, none⟩ = some (.int .i64 (t : Int)) ∧ W.cell? ⟨B, 2, none⟩ = some (.int .i64 cut)) := fun W k => by
        have e := (k.block B (.inl SD.out.yb)).trans (show w6.drew.heap[B]? = _ from SD.out.sb)
        exact ⟨by rw [cell_of e]; rfl, by rw [cell_of e]; rfl⟩
      have SB2 : Hid (∀ W V, (c : CW (fun k => Y1 k ∨ k = R) X W (retS st (t : Int) cut)) → KY (fun k => Y1 k ∨ k = R) w6.drew W → KF (fun k => k = R) W V → V.cell? ⟨B, 1, none⟩ = some (.int .i64 (t : Int)) ∧ V.cell? ⟨B, 2, none⟩ = some (.int .i64 cut)) := fun W V c k0 k => by
        have e := (k0.block B (.inl SD.out.yb)).trans (show w6.drew.heap[B]? = _ from SD.out.sb)
        have hBR : B ≠ R := fun q => J6.out.nr (q ▸ SD.out.yb)
        have e2 := (k.block B (c.yl B (.inl SD.out.yb)) hBR).trans e
        exact ⟨by rw [cell_of e2]; rfl, by rw [cell_of e2]; rfl⟩
      clear hb DON J6 y3 J7 EQ
      go_wp2_with fail
      go_region_held3 (fun w' => w'.cell? ⟨B, 1, none⟩ = some (.int .i64 (t : Int)) ∧ w'.cell? ⟨B, 2, none⟩ = some (.int .i64 cut))
        (first | (go_keep; done) | exact SB2.out _ _ c7 k7 k8 | exact SB.out _ k7)
        ((first | (go_at_call 23; refine R1.out.mono ?_; rintro r w7 ⟨rfl, c7, k7⟩) | (go_at_call 32; refine (R2.out _ k7).mono ?_; rintro r w8 ⟨rfl, x8, k8⟩)))
      have D8 := hide (DN.out _ _ c7 k8 x8)
      have K8 := hide (KN.out _ _ c7 k7 k8)
      go_wp2_with fail
      go_ret
      exact ⟨rfl, D8.out, K8.out⟩
  · have g4 : (wh == 4) = false := beq_eq_false_iff_ne.2 h4
    have DN := hide (DON.out _ _ _ _ w6 J6.out.cw J6.out.rx J6.out.eq)
    clear h0 h1 h2 h3 h4 DON J6
    go_wp2_with fail
    go_ret
    exact ⟨rfl, DN.out, K6.out⟩
end Ce
end Go.Proofs.Ytnbheejahenejaa
