/- The same access again, or one that knows of all, tells nothing new, for every list of steps of at most 100, every epoch and 0 to 50 times; of more nothing is asked. -/
import Derived.Test.YtnbheejahenejaaAt
import Derived.Test.YtnbheejahenejaaBo
import Derived.ShutString
import Derived.ChangeOld
import Derived.Below
namespace Go.Proofs.Ytnbheejahenejaa.cellAgain
open Go.ChangeShapes Go.WideShapes Go.ChangeAt Go.RowKit
open Go.ChangeMaps (open_string shut_string)
open Ce Ck
open Ep (ownB tidOf clkOf rdN rdT rdt rdc rdk)

theorem own : ownKnob Try.prog.godebug = none := by kernel_rfl
theorem laidOut : laidOutB Try.prog = true := by kernel_rfl

/-- a cell beside all that was there -/
def CK2 (w : World) (X : Nat) (wr : World) (st : Cst) : Prop := ∃ Y : Nat → Prop, CW Y X wr st ∧ (∀ k, Lw w k → Y k) ∧ KY (Lw w) w wr
theorem CK2.below {w wr w' : World} {X : Nat} {st : Cst} (h : CK2 w X wr st) (b : Below wr.heap.size wr w') : CK2 w X w' st := by
  obtain ⟨Y, h1, h2, h3⟩ := h
  exact ⟨Y, h1.kept b, h2, h3.trans (KY.of b fun k q => h1.yl k (h2 k q))⟩
theorem CK2.fin {w wr w' : World} {X : Nat} {st : Cst} (h : CK2 w X wr st) (b : Below wr.heap.size wr w') : Below w.heap.size w w' := by
  obtain ⟨Y, h1, h2, h3⟩ := h
  exact (h3.trans (KY.of b fun k q => h1.yl k (h2 k q))).lw
theorem CK2.read {w wr w' : World} {X : Nat} {st : Cst} (h : CK2 w X wr st) (b : Below wr.heap.size wr w') {nb : Nat} (n : ∀ Y, CL (Yp Y wr w') w' nb []) (e : Int) (ho : ownB e = true) :
    Calls Try.prog 19 #[.pointer (some ⟨X, 0, none⟩), .int .u64 e, .pointer (some ⟨nb, 0, none⟩)] w' fun r w2 => r = .returned (.tuple #[.int .i64 (rdR st e []), .int .i64 0]) ∧ CK2 w X w2 (rdS st e []) := by
  obtain ⟨Y, h1, h2, h3⟩ := h
  refine (read_ok (h1.new b) e ho nb [] (n Y)).mono ?_
  rintro r w2 ⟨rfl, c2, k2⟩
  exact ⟨rfl, _, c2, fun k q => .inl (h2 k q), (h3.trans (KY.of b fun k q => h1.yl k (h2 k q))).trans (k2.mono fun k q => .inl (h2 k q))⟩
theorem CK2.write {w wr w' : World} {X : Nat} {st : Cst} (h : CK2 w X wr st) (b : Below wr.heap.size wr w') {nb : Nat} (n : ∀ Y, CL (Yp Y wr w') w' nb []) (e : Int) (ho : ownB e = true) :
    Calls Try.prog 18 #[.pointer (some ⟨X, 0, none⟩), .int .u64 e, .pointer (some ⟨nb, 0, none⟩)] w' fun r w2 => r = .returned (.tuple #[.int .i64 (wrR st e []), .int .i64 0]) ∧ CK2 w X w2 (wrS e) := by
  obtain ⟨Y, h1, h2, h3⟩ := h
  refine (write_ok (h1.new b) e ho nb [] (n Y)).mono ?_
  rintro r w2 ⟨rfl, c2, k2⟩
  exact ⟨rfl, _, c2, fun k q => .inl (h2 k q), (h3.trans (KY.of b fun k q => h1.yl k (h2 k q))).trans (k2.mono fun k q => .inl (h2 k q))⟩
/-- its own reads, none or one -/
def oneR (e : Int) (b : Bool) : Cst := ⟨e, bif b then [e] else [], false⟩
theorem kn_self (e : Int) (l : List Int) : kn (tidOf e) l e = true := by simp [kn]
theorem oneR_read (e : Int) (b : Bool) : rdS (oneR e b) e [] = oneR e true := by
  cases b <;> simp [rdS, oneR, kept, kn_self, pos, insL]
theorem oneR_r (e : Int) (b : Bool) : rdR (oneR e b) e [] = 0 := by simp [rdR, oneR, kn_self]
theorem oneR_w (e : Int) (b : Bool) : wrR (oneR e b) e [] = 0 := by cases b <;> simp [wrR, oneR, kn_self]
theorem at_ky {w wr : World} {oa : Option Addr} {l : List Int} (h : Ck.At w oa l) (k : KY (Lw w) w wr) : Ck.At wr oa l := by
  intro j hj
  obtain ⟨b, off, he, hc⟩ := h j hj
  exact ⟨b, off, he, (World.cell?_of_block (w := w) (a := ⟨b, off + j, none⟩) (k.block b (World.block_lt_of_cell? w _ hc))).trans hc⟩

set_option maxRecDepth 100000 in
set_option maxHeartbeats 3200000 in
theorem core {w : World} (oa : Option Addr) (l : List Stp) (c : Nat) (hA : Ba.GAt w oa 5 (StE w) l) (hM : l.length ≤ maxLen) (e : Int) (hw : (Lit.int .u64 e).wf = true) (times : Int) :
    Calls Try.prog 7 #[.slice oa l.length c, .int .u64 e, .int .i64 times] w fun r w' => r = .returned (.bool true) ∧ Below w.heap.size w w' := by
  have hb := hw
  simp only [Lit.wf, Bool.and_eq_true, decide_eq_true_eq] at hb
  have a0 : 0 ≤ e := hb.1
  have a1 : e ≤ 18446744073709551615 := hb.2
  have hM2 : l.length ≤ 9223372036854775807 := by simp only [maxLen] at hM; omega
  clear hw hb hM
  have RC := hide races_any
  have HA := hide hA
  clear hA
  obtain ⟨n, hn⟩ : ∃ n, l.length = n := ⟨_, rfl⟩
  rw [hn] at hM2 ⊢
  by_cases hbig : 100 < n ∨ times < 0 ∨ 50 < times
  · by_cases g1 : 100 < n
    · have g1' : (100 : Int) < (n : Int) := by omega
      go_enter Try.func7, Try.ntmps7
      go_wp2_with fail
      refine (Ce.new_any w).mono ?_
      rintro r w1 ⟨rfl, -, b1⟩
      have B1 := hide b1
      clear b1
      go_wp2_with fail
      refine (RC.out _).mono ?_
      rintro r w2 ⟨rfl, b2⟩
      have B2 := hide (Ba.btr B1.out b2)
      clear b2
      go_wp2_with fail
      go_ret
      exact ⟨rfl, B2.out⟩
    · have g1' : ¬ ((100 : Int) < (n : Int)) := by omega
      by_cases g2 : times < 0
      · go_enter Try.func7, Try.ntmps7
        go_wp2_with fail
        refine (Ce.new_any w).mono ?_
        rintro r w1 ⟨rfl, -, b1⟩
        have B1 := hide b1
        clear b1
        go_wp2_with fail
        refine (RC.out _).mono ?_
        rintro r w2 ⟨rfl, b2⟩
        have B2 := hide (Ba.btr B1.out b2)
        clear b2
        go_wp2_with fail
        go_ret
        exact ⟨rfl, B2.out⟩
      · have g3 : 50 < times := by omega
        clear hbig
        go_enter Try.func7, Try.ntmps7
        go_wp2_with fail
        refine (Ce.new_any w).mono ?_
        rintro r w1 ⟨rfl, -, b1⟩
        have B1 := hide b1
        clear b1
        go_wp2_with fail
        refine (RC.out _).mono ?_
        rintro r w2 ⟨rfl, b2⟩
        have B2 := hide (Ba.btr B1.out b2)
        clear b2
        go_wp2_with fail
        go_ret
        exact ⟨rfl, B2.out⟩
  have hb1 : ¬ ((100 : Int) < (n : Int)) := by omega
  have hb2 : ¬ (times < 0) := by omega
  have hb3 : ¬ (50 < times) := by omega
  clear hbig
  go_enter Try.func7, Try.ntmps7
  go_wp2_with fail
  refine (Ce.new_any w).mono ?_
  rintro r w1 ⟨rfl, c1, b1⟩
  have C1 := hide c1
  have B1 := hide b1
  clear c1 b1
  go_wp2_with fail
  refine (rnew_any w1).mono ?_
  rintro r w2 ⟨R, rfl, hR, x2, b2⟩
  have J2 : Hid (J (Lw w) w.heap.size R w2 ⟨0, [], false⟩ ⟨0, 0, true, false⟩ nf false) := by
    refine ⟨C1.out.more b2 (fun k q => ?_) (fun k q => ?_), x2, fun q => ?_, Eqc.zero⟩
    · rcases q with q | q
      · exact .inl q
      · exact .inr (by omega)
    · rcases q with q | q
      · exact Nat.lt_of_lt_of_le (C1.out.yl k q) b2.size
      · rw [q]; exact x2.lt
    · have : R < w.heap.size := q
      have := B1.out.size
      omega
  have K2 : Hid (KY (Lw w) w w2) := KY.of (Ba.btr B1.out b2) fun _ q => q
  clear x2 b2 C1 B1 hR
  obtain ⟨X, hX⟩ : ∃ X, w.heap.size = X := ⟨_, rfl⟩
  rw [hX] at J2 ⊢
  clear hX
  go_wp2_with fail
  go_loopw [44] (fun i wr => ∃ k : Nat, k ≤ n ∧ i = .int .i64 (k : Int) ∧ (∃ st a F tl, J (Lw w) X R wr st a F tl) ∧ KY (Lw w) w wr) (fun i _ => n - (intOf i).toNat)
  case atStart => exact ⟨0, Nat.zero_le _, rfl, ⟨_, _, _, _, J2.out⟩, K2.out⟩
  case round =>
    clear J2 K2
    obtain ⟨k, hk, rfl, ⟨st, a, F, tl, jj⟩, kk⟩ := hrel
    have JJ := hide jj
    have KK := hide kk
    clear jj kk
    by_cases hlt : k < n
    · have hlt' : (k : Int) < (n : Int) := by omega
      obtain ⟨z, hz⟩ : ∃ z, l[k]? = some z := ⟨_, List.getElem?_eq_getElem (by omega)⟩
      obtain ⟨b, off, cs, rfl, hcl, hcell, oz, cz, rfl, hAz, hz1, hz2, hz3, hz4⟩ := HA.out k z hz
      have hc : ∀ i, i < 5 → wr.cell? ⟨b, off + k * 5 + i, none⟩ = [Value.int .i64 z.wh, .int .i64 z.tid, .int .i64 z.cut, .int .u64 z.e, .slice oz z.c.length cz][i]? := by
        intro i hi
        have h1 := hcell i hi
        obtain ⟨v, hv⟩ : ∃ v, [Value.int .i64 z.wh, .int .i64 z.tid, .int .i64 z.cut, .int .u64 z.e, .slice oz z.c.length cz][i]? = some v := ⟨_, List.getElem?_eq_getElem hi⟩
        rw [hv] at h1 ⊢
        exact (World.cell?_of_block (w := w) (a := ⟨b, off + k * 5 + i, none⟩) (KK.out.block b (World.block_lt_of_cell? w _ h1))).trans h1
      have p0 := hc 0 (by decide)
      have p1 := hc 1 (by decide)
      have p2 := hc 2 (by decide)
      have p3 := hc 3 (by decide)
      have p4 := hc 4 (by decide)
      simp at p0 p1 p2 p3 p4
      have DO := hide (fun cs => does_any (JJ.out.below (Ba.below_alloc wr (.cells cs 32))) z oz cz ((at_ky hAz KK.out).below (Ba.below_alloc wr (.cells cs 32))) hz1 hz2 hz3 hz4)
      unfold DoR at DO
      clear hc hcell hcl hz
      obtain ⟨zw, zt, zc, ze, zl⟩ := z
      simp only at p0 p1 p2 p3 p4 DO
      generalize zl.length = zn at *
      go_wp2_with fail
      refine (DO.out _).mono ?_
      rintro r w3 ⟨rfl, j3, k3⟩
      have K3 := hide ((KK.out.trans (KY.of (Ba.below_alloc wr (.cells #[.int .i64 zw, .int .i64 zt, .int .i64 zc, .int .u64 ze, .slice oz zn cz] 32)) JJ.out.y0)).trans k3)
      have J3 := hide j3
      clear j3 k3 DO
      go_wp2_with fail
      go_roundw
      case rel => exact ⟨k + 1, by omega, by go_num, J3.out, K3.out⟩
      case measure => simp [intOf]; omega
    · have hlt' : ¬ ((k : Int) < (n : Int)) := by omega
      have CC : Hid (CK2 w X wr st) := ⟨_, JJ.out.cw, fun k q => .inl q, KK.out⟩
      have SP := hide (split_any e a0 a1 wr)
      unfold SplR rdV at SP
      clear JJ KK
      generalize rdN e = x1 at *
      generalize rdT e = x2 at *
      generalize rdt e = x3 at *
      generalize rdc e = x4 at *
      obtain ⟨ob, hob⟩ : ∃ ob, ownB e = ob := ⟨_, rfl⟩
      rw [hob] at SP
      cases ob
      · have RN := hide (fun q u => write_no e a0 a1 (some ⟨X, 0, none⟩) q u (.inl hob))
        have ha : accE e = 1 := by simp [accE, hob]
        rw [ha] at RN
        clear ha hob
        go_wp2_with fail
        refine SP.out.mono ?_
        rintro r w3 ⟨rfl, b3⟩
        have C3 := hide ((CC.out.below b3).below (Ba.below_alloc w3 (.cells #[.bool x1, .bool x2, .int .i64 x3, .int .i64 x4] 65)))
        clear b3 SP CC
        go_wp2_with fail
        generalize w3.alloc (.cells #[.bool x1, .bool x2, .int .i64 x3, .int .i64 x4] 65) = w4 at *
        refine (cnew_any _).mono ?_
        rintro r w5 ⟨nb, rfl, b5, -⟩
        have C5 := hide (C3.out.below b5)
        clear b5 C3
        go_wp2_with fail
        refine (RN.out _ _).mono ?_
        rintro r w0 ⟨rfl, e0⟩
        obtain rfl := e0.symm
        go_wp2_with fail
        refine (RC.out _).mono ?_
        rintro r w6 ⟨rfl, b6⟩
        have B6 := hide (C5.out.fin b6)
        clear b6
        go_wp2_with fail
        go_ret
        exact ⟨rfl, B6.out⟩
      · have HOB := hide hob
        clear hob
        go_wp2_with fail
        refine SP.out.mono ?_
        rintro r w3 ⟨rfl, b3⟩
        have C3 := hide ((CC.out.below b3).below (Ba.below_alloc w3 (.cells #[.bool x1, .bool x2, .int .i64 x3, .int .i64 x4] 65)))
        clear b3 SP CC
        go_wp2_with fail
        generalize w3.alloc (.cells #[.bool x1, .bool x2, .int .i64 x3, .int .i64 x4] 65) = w4 at *
        refine (cnew_any _).mono ?_
        rintro r w5 ⟨nb, rfl, b5, n5⟩
        have WR := hide (C3.out.write b5 n5 e HOB.out)
        clear b5 n5 C3
        obtain ⟨wv, hwv⟩ : ∃ wv, wrR st e [] = wv := ⟨_, rfl⟩
        rw [hwv] at WR
        clear hwv
        go_wp2_with fail
        refine WR.out.mono ?_
        rintro r w6 ⟨rfl, c6⟩
        have C6 : Hid (CK2 w X w6 (oneR e false)) := c6
        clear c6 WR
        go_wp2_with fail
        go_loopw [15] (fun i wr => ∃ (m : Nat) (b : Bool), (m : Int) ≤ times ∧ i = .int .i64 (m : Int) ∧ CK2 w X wr (oneR e b)) (fun i _ => times.toNat - (intOf i).toNat)
        case atStart => exact ⟨0, false, by omega, rfl, C6.out⟩
        case round =>
          rename World => wq
          obtain ⟨m, b, hm, rfl, cr⟩ := hrel
          have CR := hide cr
          clear cr C6
          by_cases hlm : (m : Int) < times
          · go_wp2_with fail
            refine (cnew_any _).mono ?_
            rintro r w7 ⟨nb7, rfl, b7, n7⟩
            have RD := hide (CR.out.read b7 n7 e HOB.out)
            rw [oneR_r, oneR_read] at RD
            clear b7 n7 CR
            go_wp2_with fail
            refine RD.out.mono ?_
            rintro r w8 ⟨rfl, c8⟩
            have C8 := hide c8
            clear c8 RD
            obtain ⟨Y8, y8, -, -⟩ := C8.out
            have RS := hide (reads_any y8)
            rw [show (oneR e true).rd = [e] from rfl] at RS
            have Y8H := hide y8
            clear y8
            go_wp2_with fail
            refine RS.out.mono ?_
            rintro r w0 ⟨rfl, e0⟩
            obtain rfl := e0.symm
            clear RS
            have b9 := Ba.below_alloc w8 (.cells (us [e]).toArray 29)
            have C9 := hide (C8.out.below b9)
            have Y9 := hide (Y8H.out.kept b9)
            clear b9 C8 Y8H
            generalize w8.alloc (.cells (us [e]).toArray 29) = w9 at *
            have RS := hide (reads_any Y9.out)
            rw [show (oneR e true).rd = [e] from rfl] at RS
            go_wp2_with fail
            refine RS.out.mono ?_
            rintro r w0 ⟨rfl, e0⟩
            obtain rfl := e0.symm
            clear RS
            have b10 := Ba.below_alloc w9 (.cells (us [e]).toArray 29)
            have h10 : (w9.alloc (.cells (us [e]).toArray 29)).heap[w9.heap.size]? = some (.cells (us [e]).toArray 29 (0, 0)) := heap_new _ _
            have C10 := hide (C9.out.below b10)
            have Y10 := hide (Y9.out.kept b10)
            clear b10 C9 Y9
            generalize w9.alloc (.cells (us [e]).toArray 29) = w10 at *
            have q0 : w10.cell? ⟨w9.heap.size, 0, none⟩ = some (.int .u64 e) := by rw [cell_of h10]; rfl
            clear h10
            have WD := hide (wide_any Y10.out)
            rw [show decide (1 < (oneR e true).rd.length) = false from rfl] at WD
            go_wp2_with fail
            refine WD.out.mono ?_
            rintro r w0 ⟨rfl, e0⟩
            obtain rfl := e0.symm
            clear WD Y10
            go_wp2_with fail
            go_roundw
            case rel => exact ⟨m + 1, true, by omega, by go_num, C10.out⟩
            case measure => simp [intOf]; omega
          · go_wp2_with fail
            refine (cnew_any _).mono ?_
            rintro r w7 ⟨nb7, rfl, b7, n7⟩
            have WR := hide (CR.out.write b7 n7 e HOB.out)
            rw [oneR_w] at WR
            clear b7 n7 CR
            go_wp2_with fail
            refine WR.out.mono ?_
            rintro r w8 ⟨rfl, c8⟩
            have C8 := hide c8
            clear c8 WR
            obtain ⟨Y8, y8, -, -⟩ := C8.out
            have LS := hide (last_any y8)
            rw [show (wrS e).last = e from rfl] at LS
            have RS := hide (reads_any y8)
            rw [show (wrS e).rd = [] from rfl] at RS
            have Y9 := hide (y8.kept (Ba.below_alloc w8 (.cells (us []).toArray 29)))
            have TD := hide (tailed_any Y9.out)
            rw [show (wrS e).tl = false from rfl] at TD
            have C9 := hide (C8.out.below (Ba.below_alloc w8 (.cells (us []).toArray 29)))
            clear y8 Y9 C8
            go_wp2_with fail
            refine LS.out.mono ?_
            rintro r w0 ⟨rfl, e0⟩
            obtain rfl := e0.symm
            go_wp2_with fail
            refine RS.out.mono ?_
            rintro r w0 ⟨rfl, e0⟩
            obtain rfl := e0.symm
            clear LS RS
            generalize w8.alloc (.cells (us []).toArray 29) = w9 at *
            go_wp2_with fail
            refine TD.out.mono ?_
            rintro r w0 ⟨rfl, e0⟩
            obtain rfl := e0.symm
            go_wp2_with fail
            refine (RC.out _).mono ?_
            rintro r w11 ⟨rfl, b11⟩
            have B11 := hide (C9.out.fin b11)
            clear b11
            go_wp2_with fail
            go_ret
            exact ⟨rfl, B11.out⟩

/-! ### the row -/
set_option maxRecDepth 100000 in
theorem lifted (os : Os) (started : os.Started) (H : Type) (enc : TypeId × Value → H) :
    ReturnsInHanded {} Try.checked os 7 .any (Rows.cellAgainSpec.pre6 enc Try.prog Try.f7 Rows.cellAgainRow.domain false) (Rows.cellAgainSpec.post enc Try.prog Try.f7 false true false false) := by
  refine returnsInHanded_of_change (C := Try.checked) own started (by kernel_rfl) Try.func7
    (ChangeSpec.witness6 (enc := enc) (C := Try.checked) false ⟨#[], #[.slice none 0 0, .int .u64 0, .int .i64 0], []⟩ 8 (by kernel_rfl) (by kernel_rfl) (by kernel_rfl) (by kernel_rfl)) ?_
  intro W base args ds gs before hval0 hW hcnd _
  have hval : ∀ (j : Nat) t v, Try.f7.params[j]? = some t → args[j]? = some v → Value.okWide Try.prog W .any base t v := hval0
  have hW' := hW
  obtain ⟨p, q, hA0, hV, rfl, hfz, hnd⟩ := hW
  have hA : DataW.TrodAll enc Try.prog W 0 (fun _ => true) true Try.f7.params.toList args.toList ds p := hA0
  rw [Try.params7] at hA hval
  obtain ⟨v0, vs0, d0, ds0, p0, q0, hargs, rfl, rfl, h0, r0⟩ := trodAll_cons hA
  obtain ⟨v1, vs1, d1, ds1, p1, q1, rfl, rfl, rfl, h1, r1⟩ := trodAll_cons r0
  obtain ⟨v2, vs2, d2, ds2, p2, q2, rfl, rfl, rfl, h2, r2⟩ := trodAll_cons r1
  obtain ⟨rfl, rfl, rfl⟩ := trodAll_nil r2
  obtain rfl : args = #[v0, v1, v2] := by cases args; simp_all
  obtain ⟨rfl, rfl⟩ := trodVars_none hV
  obtain ⟨oa0, n0, c0, rfl⟩ := okWide_slice Try.underlying22 (hval 0 22 v0 rfl rfl)
  have k0 := h0
  have lt0 : ∀ x ∈ p0, x.block < W.heap.size := by obtain ⟨m, hm⟩ := k0; exact DataW.trod_lt m _ _ _ hm
  obtain ⟨l0, rfl, A0, C0, M0⟩ := h0.elim fun _ hf => steps_open hf
  obtain ⟨a1, rfl, rfl, rfl, w1⟩ := open_int Try.underlying29 (hval 1 29 v1 rfl rfl) h1
  obtain ⟨a2, rfl, rfl, rfl, w2⟩ := open_int Try.underlying3 (hval 2 3 v2 rfl rfl) h2
  clear hA0 hval0
  refine (core (w := W) oa0 l0 c0 A0 (Nat.le_trans C0 M0) a1 w1 a2).mono fun e W' ⟨he, bel⟩ => ?_
  subst he
  exact ⟨_, rfl, _, _, _, [], _, [], hW', trodAll_mk1 (shut_bool Try.underlying4 _), (trodAll_cons_mk (Below.trod laidOut (by kernel_rfl) (of_decide_eq_true (by kernel_rfl)) k0 bel lt0) (trodAll_cons_mk (shut_int Try.underlying29 w1) (trodAll_cons_mk (shut_int Try.underlying3 w2) trodAll_mk0))), rfl, bel.frame _, fun h => by cases h⟩

theorem over : Rows.cellAgainRow.holds Try.pinned (OpenSpec.ofChange Rows.cellAgainSpec) :=
  OpenClaim.holds_of_wide 7 Try.f7 rfl rfl rfl rfl rfl rfl rfl ⟨rfl, rfl, rfl, rfl, rfl⟩ rfl rfl rfl rfl rfl (by kernel_rfl) Try.func7 (by kernel_rfl)
    (of_decide_eq_true (by kernel_rfl)) (by unfold Func.isWrapper; first | (rw [if_pos (by decide +kernel)]; kernel_rfl) | (rw [if_neg (by decide +kernel)]; exact ⟨rfl, rfl⟩))
    (fun os started H enc _ => lifted os started H enc)

/-- the statement -/
theorem proved : Rows.CellAgainSaid := over
#print axioms proved
end Go.Proofs.Ytnbheejahenejaa.cellAgain
