/- What was told first of a cell stays, and accesses of other cells say nothing of it. -/
import Derived.Test.YtodppbahihjegaaZh
import Derived.Test.YtodppbahihjegaaRg
import Derived.Deep.Cut
import Derived.Deep.DeepCutAuto
import Derived.ShutString
import Derived.ChangeOld
import Derived.Below
namespace Go.Proofs.Ytodppbahihjegaa.reportStays
open Go.ChangeShapes Go.WideShapes Go.ChangeAt Go.RowKit
open Go.ChangeMaps (open_string shut_string)
open Rep Ck Ce
open Ep (ownB tidOf clkOf rdN rdT rdt rdc rdk)
open Ba (hide)

theorem own : ownKnob Try.prog.godebug = none := by kernel_rfl
theorem laidOut : laidOutB Try.prog = true := by kernel_rfl

theorem at_ky {w wr : World} {oa : Option Addr} {l : List Int} (h : Ck.At w oa l) (k : KY (Lw w) w wr) : Ck.At wr oa l := by
  intro j hj
  obtain ⟨b, off, he, hc⟩ := h j hj
  exact ⟨b, off, he, (World.cell?_of_block (w := w) (a := ⟨b, off + j, none⟩) (k.block b (World.block_lt_of_cell? w _ hc))).trans hc⟩
theorem at_ky2 {w wr : World} {b o : Nat} {v : Value} (h : w.cell? ⟨b, o, none⟩ = some v) (k : KY (Lw w) w wr) : wr.cell? ⟨b, o, none⟩ = some v :=
  (World.cell?_of_block (w := w) (a := ⟨b, o, none⟩) (k.block b (World.block_lt_of_cell? w _ h))).trans h
/-- what the law holds -/
structure Iv (w : World) (X1 X2 : Nat) (i : Int) (wr : World) : Prop where
  ex : ∃ S1 S2, PW (Lw w) X1 X2 wr S1 S2 ∧ Al i S1 S2
  ky : KY (Lw w) w wr
theorem Iv.below {w wr w' : World} {X1 X2 : Nat} {i : Int} (h : Iv w X1 X2 i wr) (b : Below wr.heap.size wr w') : Iv w X1 X2 i w' := by
  obtain ⟨⟨S1, S2, p, a⟩, k⟩ := h
  exact ⟨⟨S1, S2, p.below b, a⟩, k.trans (KY.of b p.yl)⟩

set_option maxRecDepth 100000 in
set_option maxHeartbeats 6400000 in
theorem core {w : World} (oa : Option Addr) (l : List Stp) (c : Nat) (hA : Ba.GAt w oa 8 (StE w) l) (hM : l.length ≤ maxLen) (i : Int) (hw : (Lit.int .i64 i).wf = true) :
    Calls Try.prog 5 #[.slice oa l.length c, .int .i64 i] w fun r w' => r = .returned (.bool true) ∧ Below w.heap.size w w' := by
  have hM2 : l.length ≤ 9223372036854775807 := by simp only [maxLen] at hM; omega
  have HWF : Hid (wfk i) := hw
  clear hM hw
  have TW := hide small19
  have NA := hide new_any'
  unfold pt at NA
  have HA := hide hA
  clear hA
  obtain ⟨n, hn⟩ : ∃ n, l.length = n := ⟨_, rfl⟩
  rw [hn] at hM2 ⊢
  by_cases hbig : 100 < n
  · have g1' : (100 : Int) < (n : Int) := by omega
    go_enter Try.func5, Try.ntmps5
    go_wp2_with fail
    refine (NA.out w).mono ?_
    rintro r w1 ⟨rfl, s1, k1⟩
    have B1 := hide k1.lw
    clear s1 k1
    go_wp2_with fail
    refine (NA.out w1).mono ?_
    rintro r w2 ⟨rfl, s2, k2⟩
    have B2 := hide (btr B1.out k2.lw)
    clear s2 k2
    go_wp2_with fail
    refine (TW.out _).mono ?_
    rintro r w3 ⟨rfl, b3⟩
    have B3 := hide (btr B2.out b3)
    clear b3
    go_wp2_with fail
    go_ret
    exact ⟨rfl, B3.out⟩
  have hb1 : ¬ ((100 : Int) < (n : Int)) := by omega
  clear hbig
  go_enter Try.func5, Try.ntmps5
  go_wp2_with fail
  refine (NA.out w).mono ?_
  rintro r w1 ⟨rfl, s1, k1⟩
  have S1H := hide s1
  have K1 := hide k1
  clear s1 k1
  obtain ⟨X1, hX1⟩ : ∃ X, w.heap.size + 1 = X := ⟨_, rfl⟩
  rw [hX1] at S1H ⊢
  clear hX1
  go_wp2_with fail
  refine (NA.out w1).mono ?_
  rintro r w2 ⟨rfl, s2, k2⟩
  have IV0 : Hid (Iv w X1 (w1.heap.size + 1) i w2) := ⟨⟨S00, S00, PW.two S1H.out K1.out.size s2 k2, ⟨rfl, fun _ _ => rfl⟩⟩, K1.out.trans (k2.mono fun k q => Nat.lt_of_lt_of_le q K1.out.size)⟩
  clear s2 k2 S1H K1 NA
  obtain ⟨X2, hX2⟩ : ∃ X, w1.heap.size + 1 = X := ⟨_, rfl⟩
  rw [hX2] at IV0 ⊢
  clear hX2
  go_wp2_with fail
  rename World => w00
  go_loopw [41] (fun iv wr => ∃ k : Nat, k ≤ n ∧ iv = .int .i64 (k : Int) ∧ Iv w X1 X2 i wr) (fun iv _ => n - (intOf iv).toNat)
  case atStart => exact ⟨0, Nat.zero_le _, rfl, IV0.out⟩
  case round =>
    clear IV0
    obtain ⟨k, hk, rfl, iv⟩ := hrel
    have IVH := hide iv
    clear iv
    by_cases hlt : k < n
    · have hlt' : (k : Int) < (n : Int) := by omega
      obtain ⟨z, hz⟩ : ∃ z, l[k]? = some z := ⟨_, List.getElem?_eq_getElem (by omega)⟩
      obtain ⟨b, off, cs, rfl, hcl, hcell, oc, cap, hcs, hAt, hc1, hc2, he0, he1⟩ := HA.out k z hz
      unfold stV at hcs
      subst hcs
      have p0 := at_ky2 (hcell 0 (by decide)) IVH.out.ky
      have p1 := at_ky2 (hcell 1 (by decide)) IVH.out.ky
      have p2 := at_ky2 (hcell 2 (by decide)) IVH.out.ky
      have p3 := at_ky2 (hcell 3 (by decide)) IVH.out.ky
      have p4 := at_ky2 (hcell 4 (by decide)) IVH.out.ky
      have p5 := at_ky2 (hcell 5 (by decide)) IVH.out.ky
      have p6 := at_ky2 (hcell 6 (by decide)) IVH.out.ky
      have p7 := at_ky2 (hcell 7 (by decide)) IVH.out.ky
      simp only [Nat.add_zero] at p0
      have AT := hide (at_ky hAt IVH.out.ky)
      obtain ⟨⟨p, g, cc, wr2⟩, e, zc, tid, cut⟩ := z
      simp only at p0 p1 p2 p3 p4 p5 p6 p7 AT hc1 hc2 he0 he1
      obtain ⟨⟨S1, S2, pw, al⟩, kyr⟩ := IVH.out
      have PWr := hide pw
      have AL1 := hide al
      have KYR := hide kyr
      have IVB := hide (fun u (b : Below wr.heap.size wr u) => IVH.out.below b)
      have FS0 := hide (fun u (b : Below wr.heap.size wr u) => (pw.below b).first i HWF.out)
      clear pw al kyr IVH
      obtain ⟨nz, hnz⟩ : ∃ nz, zc.length = nz := ⟨_, rfl⟩
      have OFN : Hid (∀ u, Below wr.heap.size wr u → ¬ (nz ≤ 256 ∧ Valid zc) → ∃ x : Int, (x == 0) = false ∧ Calls Try.prog 12 #[.slice oc nz cap] u fun r w' => r = .returned (.tuple #[.pointer none, .int .i64 x]) ∧ w' = u) := by
        intro u b hb
        subst hnz
        by_cases h : 256 < zc.length
        · exact ⟨2, rfl, of_long oc zc.length cap u h (Nat.le_trans hc1 hc2)⟩
        · exact ⟨1, rfl, of_bad oc zc cap u (AT.out.below b) (by omega) (fun q => hb ⟨by omega, q⟩)⟩
      have OFY : Hid (∀ u, Below wr.heap.size wr u → (nz ≤ 256 ∧ Valid zc) → Calls Try.prog 12 #[.slice oc nz cap] u (OfR u zc)) := by
        intro u b hb
        exact of_y oc zc nz cap hnz u (AT.out.below b) hb.1 (by omega) hc2 hb.2
      have B1 := hide (Ba.below_alloc wr (.cells #[.int .i64 p, .int .i64 g, .int .i64 cc, .bool wr2, .int .u64 e, .slice oc nz cap, .int .i64 tid, .int .i64 cut] 60))
      have H1 : Hid ((wr.alloc (.cells #[.int .i64 p, .int .i64 g, .int .i64 cc, .bool wr2, .int .u64 e, .slice oc nz cap, .int .i64 tid, .int .i64 cut] 60)).heap[wr.heap.size]? = some (.cells #[.int .i64 p, .int .i64 g, .int .i64 cc, .bool wr2, .int .u64 e, .slice oc nz cap, .int .i64 tid, .int .i64 cut] 60 (0, 0))) := heap_new _ _
      rw [hnz] at p5
      clear hnz hc1 hc2 AT hcell hcl hAt hz
      go_upto_region 8 with fail
      generalize wr.alloc (.cells #[.int .i64 p, .int .i64 g, .int .i64 cc, .bool wr2, .int .u64 e, .slice oc nz cap, .int .i64 tid, .int .i64 cut] 60) = w1 at *
      obtain ⟨A, hA⟩ : ∃ A, wr.heap.size = A := ⟨_, rfl⟩
      have HAr := hide hA
      rw [hA] at H1 ⊢
      clear hA p0 p1 p2 p3 p4 p5 p6 p7
      obtain ⟨xq, sb, HQ, FS1⟩ : ∃ (xq : Rc) (sb : Bool), Hid (sb = false ∨ (sb = true ∧ S1.f i = some xq)) ∧ Hid (∀ u, Below wr.heap.size wr u → Calls Try.prog 25 #[.pointer (some ⟨X1, 0, none⟩), .int .i64 i] u fun q w' => q = .returned (.tuple #[rv xq, .bool sb]) ∧ Below u.heap.size u w') := by
        refine ⟨(S1.f i).getD r0, (S1.f i).isSome, ?_, fun u b => FS0.out u b⟩
        cases S1.f i with
        | none => exact .inl rfl
        | some r => exact .inr ⟨rfl, rfl⟩
      clear FS0
      unfold rv ra5 at FS1
      go_wp2_with fail
      refine (FS1.out w1 B1.out).mono ?_
      rintro q w2 ⟨rfl, b2⟩
      have B2 := hide (btr (btr B1.out b2) (Ba.below_alloc w2 (.cells #[.int .i64 xq.c, .int .i64 xq.p, .int .i64 xq.g, .int .i64 xq.wi, .bool xq.wr] 70)))
      have B12 := hide (btr B1.out b2)
      have H2 := hide (((btr b2 (Ba.below_alloc w2 (.cells #[.int .i64 xq.c, .int .i64 xq.p, .int .i64 xq.g, .int .i64 xq.wi, .bool xq.wr] 70))).block A (Ba.heap_lt H1.out)).trans H1.out)
      have X2' : Hid ((w2.alloc (.cells #[.int .i64 xq.c, .int .i64 xq.p, .int .i64 xq.g, .int .i64 xq.wi, .bool xq.wr] 70)).heap[w2.heap.size]? = some (.cells #[.int .i64 xq.c, .int .i64 xq.p, .int .i64 xq.g, .int .i64 xq.wi, .bool xq.wr] 70 (0, 0))) := heap_new _ _
      have a5 := cell_of ((b2.block A (Ba.heap_lt H1.out)).trans H1.out) 5
      have ltA := Ba.heap_lt ((b2.block A (Ba.heap_lt H1.out)).trans H1.out)
      simp at a5
      have OFE := hide (OFN.out _ B2.out)
      have OFO := hide (OFY.out _ B2.out)
      clear b2 B1 H1 FS1 OFN OFY
      by_cases hv : nz ≤ 256 ∧ Valid zc
      · have OK := hide (OFO.out hv)
        clear OFE OFO hv
        unfold OfR at OK
        go_wp2_with fail
        refine OK.out.mono ?_
        rintro q w3 ⟨b3, rfl, bl3, n3⟩
        have B3 := hide (btr B2.out bl3)
        have P3 := hide (PWr.out.new B3.out)
        have CL3 : Hid (CL (Yp (Lw w) wr w3) w3 b3 (trm zc)) := (n3 (Lw w)).mono fun k q => by
          rcases q with q | ⟨q1, q2⟩
          · exact .inl q
          · exact .inr ⟨Nat.le_trans B2.out.size q1, q2⟩
        have H3 := hide ((bl3.block A (Ba.heap_lt H2.out)).trans H2.out)
        have X3 := hide ((bl3.block w2.heap.size (Ba.heap_lt X2'.out)).trans X2'.out)
        have INA : Hid (Yp (Lw w) wr w3 A) := .inr ⟨by rw [HAr.out]; exact Nat.le_refl _, Ba.heap_lt H3.out⟩
        have IN9 : Hid (Yp (Lw w) wr w3 w2.heap.size) := .inr ⟨B12.out.size, Ba.heap_lt X3.out⟩
        clear bl3 n3 H2 X2' B2 B12 OK a5 ltA
        have a7 := cell_of H3.out 7
        simp at a7
        go_upto_if 61 with fail
        go_cut [] (fun wc => ∃ SN1 SN2, PW (Yp (Lw w) wr w3) X1 X2 wc SN1 SN2 ∧ Al i SN1 SN2 ∧ KY (Yp (Lw w) wr w3) w3 wc ∧ ∀ r, S1.f i = some r → SN1.f i = some r)
        case first =>
          clear HQ KYR PWr IVB IN9 X3 B3
          by_cases hcut : 0 ≤ cut
          · have RT1 := hide (P3.out.ret tid cut)
            have a6 := cell_of H3.out 6
            simp at a6
            go_wp2_with fail
            refine RT1.out.mono ?_
            rintro q w4 ⟨rfl, p4, k4⟩
            have RT2 := hide (p4.sym.ret tid cut)
            have H4 := (k4.block A INA.out).trans H3.out
            have b6 := cell_of H4 6
            have b7 := cell_of H4 7
            simp at b6 b7
            have K4 := hide k4
            clear p4 k4 RT1 H4 a6 a7
            go_wp2_with fail
            refine RT2.out.mono ?_
            rintro q w5 ⟨rfl, p5, k5⟩
            have P5 := hide p5.sym
            have AL5 := hide (AL1.out.ret tid cut)
            have K5 := hide (K4.out.trans k5)
            clear p5 k5 RT2 K4 b6 b7
            go_wp2_with fail
            go_meet
            case rel => exact ⟨_, _, P5.out, AL5.out, K5.out, fun r h => by rw [ret_stays]; exact h⟩
          · have hcut' : cut < 0 := by omega
            have PU1 := hide (P3.out.put ⟨p, g, cc, wr2⟩ e he0 he1 b3 (trm zc) CL3.out)
            unfold aV at PU1
            simp only at PU1
            have a0 := cell_of H3.out 0
            have a1 := cell_of H3.out 1
            have a2 := cell_of H3.out 2
            have a3 := cell_of H3.out 3
            have a4 := cell_of H3.out 4
            simp at a0 a1 a2 a3 a4
            go_wp2_with fail
            refine PU1.out.mono ?_
            rintro q w4 ⟨rfl, p4, k4⟩
            have H4 := (k4.block A INA.out).trans H3.out
            have b0 := cell_of H4 0
            have b1 := cell_of H4 1
            have b2 := cell_of H4 2
            have b3' := cell_of H4 3
            have b4 := cell_of H4 4
            simp at b0 b1 b2 b3' b4
            clear PU1 H4 a0 a1 a2 a3 a4 a7
            by_cases hci : cc = i
            · subst hci
              have PU2 := hide (p4.sym.put ⟨p, g, cc, wr2⟩ e he0 he1 b3 (trm zc) (CL3.out.keep k4))
              have AL5 := hide (AL1.out.put2 (a := ⟨p, g, cc, wr2⟩) rfl e (trm zc))
              unfold aV at PU2
              simp only at PU2
              have K4 := hide k4
              clear p4 k4
              go_wp2_with fail
              refine PU2.out.mono ?_
              rintro q w5 ⟨rfl, p5, k5⟩
              have P5 := hide p5.sym
              have K5 := hide (K4.out.trans k5)
              clear p5 k5 PU2 K4 b0 b1 b2 b3' b4
              go_wp2_with fail
              go_meet
              case rel => exact ⟨_, _, P5.out, AL5.out, K5.out, fun r h => put_stays h _ _ _⟩
            · have hcb : (cc == i) = false := by simp [hci]
              have AL5 := hide (AL1.out.put1 (a := ⟨p, g, cc, wr2⟩) hci e (trm zc))
              have P5 := hide p4
              have K5 := hide k4
              clear p4 k4
              go_wp2_with fail
              go_meet
              case rel => exact ⟨_, _, P5.out, AL5.out, K5.out, fun r h => put_stays h _ _ _⟩
        case rest =>
          obtain ⟨SN1, SN2, p5, al5, k5, st5⟩ := hcut
          obtain ⟨w5, hw5⟩ : ∃ w5, w5 = wc := ⟨_, rfl⟩
          subst hw5
          have P5 := hide p5
          have AL5 := hide al5
          have K5 := hide k5
          have ST := hide st5
          clear p5 al5 k5 st5 a7 IVB
          rcases HQ.out with rfl | ⟨rfl, hq⟩
          · clear HQ
            obtain ⟨y, sy, PF, PG⟩ : ∃ (y : Rc) (sy : Bool), Hid (∀ u, Below w5.heap.size w5 u → Calls Try.prog 25 #[.pointer (some ⟨X1, 0, none⟩), .int .i64 i] u fun q w' => q = .returned (.tuple #[rv y, .bool sy]) ∧ Below u.heap.size u w') ∧ Hid (∀ u, Below w5.heap.size w5 u → Calls Try.prog 25 #[.pointer (some ⟨X2, 0, none⟩), .int .i64 i] u fun q w' => q = .returned (.tuple #[rv y, .bool sy]) ∧ Below u.heap.size u w') :=
              ⟨(SN1.f i).getD r0, (SN1.f i).isSome, fun u b => (P5.out.below b).first i HWF.out, fun u b => by rw [AL5.out.f]; exact (P5.out.sym.below b).first i HWF.out⟩
            unfold rv ra5 at PF PG
            have BK : Hid (∀ u, Below w5.heap.size w5 u → Iv w X1 X2 i u) := fun u b =>
              ⟨⟨SN1, SN2, (P5.out.below b).less fun k q => .inl q, AL5.out⟩, ((KYR.out.trans (KY.of B3.out fun _ q => PWr.out.yl _ q)).trans (K5.out.mono fun k q => .inl q)).trans (KY.of b fun k q => P5.out.yl k (.inl q))⟩
            have X5 := hide ((K5.out.block w2.heap.size IN9.out).trans X3.out)
            clear P5 AL5 K5 X3 H3 P3 CL3 PWr AL1 KYR B3 INA IN9 ST
            go_wp2_with fail
            refine (PF.out w5 (Below.refl _ _)).mono ?_
            rintro q w6 ⟨rfl, b6⟩
            have B6 := hide (btr b6 (Ba.below_alloc w6 (.cells #[.int .i64 y.c, .int .i64 y.p, .int .i64 y.g, .int .i64 y.wi, .bool y.wr] 70)))
            have Y6 : Hid ((w6.alloc (.cells #[.int .i64 y.c, .int .i64 y.p, .int .i64 y.g, .int .i64 y.wi, .bool y.wr] 70)).heap[w6.heap.size]? = some (.cells #[.int .i64 y.c, .int .i64 y.p, .int .i64 y.g, .int .i64 y.wi, .bool y.wr] 70 (0, 0))) := heap_new _ _
            clear b6 PF
            go_wp2_with fail
            refine (PG.out _ B6.out).mono ?_
            rintro q w7 ⟨rfl, b7⟩
            have B7 := hide (btr B6.out b7)
            have Y7 := (b7.block w6.heap.size (Ba.heap_lt Y6.out)).trans Y6.out
            have X7 := (B7.out.block w2.heap.size (Ba.heap_lt X5.out)).trans X5.out
            have lt9 := Ba.heap_lt X7
            have lt6 := Ba.heap_lt Y7
            have y0 := cell_of Y7 0
            have y1 := cell_of Y7 1
            have y2 := cell_of Y7 2
            have y3 := cell_of Y7 3
            have y4 := cell_of Y7 4
            have x0 := cell_of X7 0
            have x1 := cell_of X7 1
            have x2 := cell_of X7 2
            have x3 := cell_of X7 3
            have x4 := cell_of X7 4
            simp at y0 y1 y2 y3 y4 x0 x1 x2 x3 x4
            have E8 := hide (BK.out _ (btr B7.out (Ba.below_alloc w7 (.cells #[.int .i64 y.c, .int .i64 y.p, .int .i64 y.g, .int .i64 y.wi, .bool y.wr] 70))))
            clear b7 B7 B6 Y6 Y7 X5 X7 BK PG
            go_wp2_with fail
            go_roundw
            case rel => exact ⟨k + 1, by omega, by go_num, E8.out⟩
            case measure => simp [intOf]; omega
          · clear HQ
            obtain ⟨y, hy⟩ : ∃ y, y = xq := ⟨_, rfl⟩
            subst hy
            have ST5 : Hid (SN1.f i = some y) := ST.out y hq
            have PF : Hid (∀ u, Below w5.heap.size w5 u → Calls Try.prog 25 #[.pointer (some ⟨X1, 0, none⟩), .int .i64 i] u fun q w' => q = .returned (.tuple #[rv y, .bool true]) ∧ Below u.heap.size u w') := fun u b => by have h := (P5.out.below b).first i HWF.out; rw [ST5.out] at h; exact h
            have PG : Hid (∀ u, Below w5.heap.size w5 u → Calls Try.prog 25 #[.pointer (some ⟨X2, 0, none⟩), .int .i64 i] u fun q w' => q = .returned (.tuple #[rv y, .bool true]) ∧ Below u.heap.size u w') := fun u b => by have h := (P5.out.sym.below b).first i HWF.out; rw [← AL5.out.f, ST5.out] at h; exact h
            clear ST5 hq
            unfold rv ra5 at PF PG
            have BK : Hid (∀ u, Below w5.heap.size w5 u → Iv w X1 X2 i u) := fun u b =>
              ⟨⟨SN1, SN2, (P5.out.below b).less fun k q => .inl q, AL5.out⟩, ((KYR.out.trans (KY.of B3.out fun _ q => PWr.out.yl _ q)).trans (K5.out.mono fun k q => .inl q)).trans (KY.of b fun k q => P5.out.yl k (.inl q))⟩
            have X5 := hide ((K5.out.block w2.heap.size IN9.out).trans X3.out)
            clear P5 AL5 K5 X3 H3 P3 CL3 PWr AL1 KYR B3 INA IN9 ST
            go_wp2_with fail
            refine (PF.out w5 (Below.refl _ _)).mono ?_
            rintro q w6 ⟨rfl, b6⟩
            have B6 := hide (btr b6 (Ba.below_alloc w6 (.cells #[.int .i64 y.c, .int .i64 y.p, .int .i64 y.g, .int .i64 y.wi, .bool y.wr] 70)))
            have Y6 : Hid ((w6.alloc (.cells #[.int .i64 y.c, .int .i64 y.p, .int .i64 y.g, .int .i64 y.wi, .bool y.wr] 70)).heap[w6.heap.size]? = some (.cells #[.int .i64 y.c, .int .i64 y.p, .int .i64 y.g, .int .i64 y.wi, .bool y.wr] 70 (0, 0))) := heap_new _ _
            clear b6 PF
            go_wp2_with fail
            refine (PG.out _ B6.out).mono ?_
            rintro q w7 ⟨rfl, b7⟩
            have B7 := hide (btr B6.out b7)
            have Y7 := (b7.block w6.heap.size (Ba.heap_lt Y6.out)).trans Y6.out
            have X7 := (B7.out.block w2.heap.size (Ba.heap_lt X5.out)).trans X5.out
            have lt9 := Ba.heap_lt X7
            have lt6 := Ba.heap_lt Y7
            have y0 := cell_of Y7 0
            have y1 := cell_of Y7 1
            have y2 := cell_of Y7 2
            have y3 := cell_of Y7 3
            have y4 := cell_of Y7 4
            have x0 := cell_of X7 0
            have x1 := cell_of X7 1
            have x2 := cell_of X7 2
            have x3 := cell_of X7 3
            have x4 := cell_of X7 4
            simp at y0 y1 y2 y3 y4 x0 x1 x2 x3 x4
            have E8 := hide (BK.out _ (btr B7.out (Ba.below_alloc w7 (.cells #[.int .i64 y.c, .int .i64 y.p, .int .i64 y.g, .int .i64 y.wi, .bool y.wr] 70))))
            clear b7 B7 B6 Y6 Y7 X5 X7 BK PG
            go_wp2_with fail
            go_roundw
            case rel => exact ⟨k + 1, by omega, by go_num, E8.out⟩
            case measure => simp [intOf]; omega
      · obtain ⟨x, hx0, oe⟩ := OFE.out hv
        have OE := hide oe
        have EB := hide (IVB.out _ B2.out)
        clear OFE OFO oe hv
        go_wp2_with fail
        refine OE.out.mono ?_
        rintro q w0 ⟨rfl, e0⟩
        obtain rfl := e0.symm
        go_wp2_with fail
        go_roundw
        case rel => exact ⟨k + 1, by omega, by go_num, EB.out⟩
        case measure => simp [intOf]; omega
    · have hlt' : ¬ ((k : Int) < (n : Int)) := by omega
      go_wp2_with fail
      refine (TW.out _).mono ?_
      rintro r w6 ⟨rfl, b6⟩
      have B6 := hide (btr IVH.out.ky.lw b6)
      clear b6
      go_wp2_with fail
      go_ret
      exact ⟨rfl, B6.out⟩

/-! ### the row -/
set_option maxRecDepth 100000 in
theorem lifted (os : Os) (started : os.Started) (H : Type) (enc : TypeId × Value → H) :
    ReturnsInHanded {} Try.checked os 5 .any (Rows.reportStaysSpec.pre6 enc Try.prog Try.f5 Rows.reportStaysRow.domain false) (Rows.reportStaysSpec.post enc Try.prog Try.f5 false true false false) := by
  refine returnsInHanded_of_change (C := Try.checked) own started (by kernel_rfl) Try.func5
    (ChangeSpec.witness6 (enc := enc) (C := Try.checked) false ⟨#[], #[.slice none 0 0, .int .i64 0], []⟩ 8 (by kernel_rfl) (by kernel_rfl) (by kernel_rfl) (by kernel_rfl)) ?_
  intro W base args ds gs before hval0 hW hcnd _
  have hval : ∀ (j : Nat) t v, Try.f5.params[j]? = some t → args[j]? = some v → Value.okWide Try.prog W .any base t v := hval0
  have hW' := hW
  obtain ⟨p, q, hA0, hV, rfl, hfz, hnd⟩ := hW
  have hA : DataW.TrodAll enc Try.prog W 0 (fun _ => true) true Try.f5.params.toList args.toList ds p := hA0
  rw [Try.params5] at hA hval
  obtain ⟨v0, vs0, d0, ds0, p0, q0, hargs, rfl, rfl, h0, r0⟩ := trodAll_cons hA
  obtain ⟨v1, vs1, d1, ds1, p1, q1, rfl, rfl, rfl, h1, r1⟩ := trodAll_cons r0
  obtain ⟨rfl, rfl, rfl⟩ := trodAll_nil r1
  obtain rfl : args = #[v0, v1] := by cases args; simp_all
  obtain ⟨rfl, rfl⟩ := trodVars_none hV
  obtain ⟨oa0, n0, c0, rfl⟩ := okWide_slice Try.underlying52 (hval 0 52 v0 rfl rfl)
  have k0 := h0
  have lt0 : ∀ x ∈ p0, x.block < W.heap.size := by obtain ⟨m, hm⟩ := k0; exact DataW.trod_lt m _ _ _ hm
  obtain ⟨l0, rfl, A0, C0, M0⟩ := h0.elim fun _ hf => steps_open hf
  obtain ⟨a1, rfl, rfl, rfl, w1⟩ := open_int Try.underlying3 (hval 1 3 v1 rfl rfl) h1
  clear hA0 hval0
  refine (core (w := W) oa0 l0 c0 A0 (Nat.le_trans C0 M0) a1 w1).mono fun e W' ⟨he, bel⟩ => ?_
  subst he
  exact ⟨_, rfl, _, _, _, [], _, [], hW', trodAll_mk1 (shut_bool Try.underlying4 _), (trodAll_cons_mk (Below.trod laidOut (by kernel_rfl) (of_decide_eq_true (by kernel_rfl)) k0 bel lt0) (trodAll_cons_mk (shut_int Try.underlying3 w1) trodAll_mk0)), rfl, bel.frame _, fun h => by cases h⟩

theorem over : Rows.reportStaysRow.holds Try.pinned (OpenSpec.ofChange Rows.reportStaysSpec) :=
  OpenClaim.holds_of_wide 5 Try.f5 rfl rfl rfl rfl rfl rfl rfl ⟨rfl, rfl, rfl, rfl, rfl⟩ rfl rfl rfl rfl rfl (by kernel_rfl) Try.func5 (by kernel_rfl)
    (of_decide_eq_true (by kernel_rfl)) (by unfold Func.isWrapper; first | (rw [if_pos (by decide +kernel)]; kernel_rfl) | (rw [if_neg (by decide +kernel)]; exact ⟨rfl, rfl⟩))
    (fun os started H enc _ => lifted os started H enc)

/-- the statement -/
theorem proved : Rows.ReportStaysSaid := over
#print axioms proved
end Go.Proofs.Ytodppbahihjegaa.reportStays
