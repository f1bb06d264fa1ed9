/- Every cell, access by access, for every list of steps of at most 150: which are races, and what is remembered, are what the document says; of longer lists nothing but the small case is asked. -/
import Derived.Test.YtnbheejahenejaaAt
import Derived.Test.YtnbheejahenejaaAu
import Derived.Test.YtnbheejahenejaaBo
import Derived.ShutString
import Derived.ChangeOld
import Derived.Below
namespace Go.Proofs.Ytnbheejahenejaa.cellSteps
open Go.ChangeShapes Go.WideShapes Go.ChangeAt Go.RowKit
open Go.ChangeMaps (open_string shut_string)
open Ce Ck
open Ep (ownB tidOf clkOf rdN rdT rdt rdc rdk)

theorem own : ownKnob Try.prog.godebug = none := by kernel_rfl
theorem laidOut : laidOutB Try.prog = true := by kernel_rfl

theorem at_ky {w wr : World} {oa : Option Addr} {l : List Int} (h : Ck.At w oa l) (k : KY (Lw w) w wr) : Ck.At wr oa l := by
  intro j hj
  obtain ⟨b, off, he, hc⟩ := h j hj
  exact ⟨b, off, he, (World.cell?_of_block (w := w) (a := ⟨b, off + j, none⟩) (k.block b (World.block_lt_of_cell? w _ hc))).trans hc⟩

set_option maxRecDepth 100000 in
set_option maxHeartbeats 3200000 in
theorem core {w : World} (oa : Option Addr) (l : List Stp) (c : Nat) (hA : Ba.GAt w oa 5 (StE w) l) (hM : l.length ≤ maxLen) :
    Calls Try.prog 3 #[.slice oa l.length c] w fun r w' => r = .returned (.bool true) ∧ Below w.heap.size w w' := by
  have hM2 : l.length ≤ 9223372036854775807 := by simp only [maxLen] at hM; omega
  clear hM
  have RC := hide races_any
  have HA := hide hA
  clear hA
  obtain ⟨n, hn⟩ : ∃ n, l.length = n := ⟨_, rfl⟩
  rw [hn] at hM2 ⊢
  by_cases hbig : 150 < n
  · have g1' : (150 : Int) < (n : Int) := by omega
    go_enter Try.func3, Try.ntmps3
    go_wp2_with fail
    refine (Ce.new_any w).mono ?_
    rintro r w1 ⟨rfl, -, b1⟩
    have B1 := hide b1
    clear b1
    go_wp2_with fail
    refine (RC.out _).mono ?_
    rintro r w2 ⟨rfl, b2⟩
    have B2 := hide (Ba.btr B1.out b2)
    clear b2
    go_wp2_with fail
    go_ret
    exact ⟨rfl, B2.out⟩
  have hb1 : ¬ ((150 : Int) < (n : Int)) := by omega
  clear hbig
  go_enter Try.func3, Try.ntmps3
  go_wp2_with fail
  refine (Ce.new_any w).mono ?_
  rintro r w1 ⟨rfl, c1, b1⟩
  have C1 := hide c1
  have B1 := hide b1
  clear c1 b1
  go_wp2_with fail
  refine (rnew_any w1).mono ?_
  rintro r w2 ⟨R, rfl, hR, x2, b2⟩
  have J2 : Hid (J (Lw w) w.heap.size R w2 ⟨0, [], false⟩ ⟨0, 0, true, false⟩ nf false) := by
    refine ⟨C1.out.more b2 (fun k q => ?_) (fun k q => ?_), x2, fun q => ?_, Eqc.zero⟩
    · rcases q with q | q
      · exact .inl q
      · exact .inr (by omega)
    · rcases q with q | q
      · exact Nat.lt_of_lt_of_le (C1.out.yl k q) b2.size
      · rw [q]; exact x2.lt
    · have : R < w.heap.size := q
      have := B1.out.size
      omega
  have K2 : Hid (KY (Lw w) w w2) := KY.of (Ba.btr B1.out b2) fun _ q => q
  clear x2 b2 C1 B1 hR
  obtain ⟨X, hX⟩ : ∃ X, w.heap.size = X := ⟨_, rfl⟩
  rw [hX] at J2 ⊢
  clear hX
  go_wp2_with fail
  go_loopw [23] (fun i wr => ∃ k : Nat, k ≤ n ∧ i = .int .i64 (k : Int) ∧ (∃ st a F tl, J (Lw w) X R wr st a F tl) ∧ KY (Lw w) w wr) (fun i _ => n - (intOf i).toNat)
  case atStart => exact ⟨0, Nat.zero_le _, rfl, ⟨_, _, _, _, J2.out⟩, K2.out⟩
  case round =>
    clear J2 K2
    obtain ⟨k, hk, rfl, ⟨st, a, F, tl, jj⟩, kk⟩ := hrel
    have JJ := hide jj
    have KK := hide kk
    clear jj kk
    by_cases hlt : k < n
    · have hlt' : (k : Int) < (n : Int) := by omega
      obtain ⟨z, hz⟩ : ∃ z, l[k]? = some z := ⟨_, List.getElem?_eq_getElem (by omega)⟩
      obtain ⟨b, off, cs, rfl, hcl, hcell, oz, cz, rfl, hAz, hz1, hz2, hz3, hz4⟩ := HA.out k z hz
      have hc : ∀ i, i < 5 → wr.cell? ⟨b, off + k * 5 + i, none⟩ = [Value.int .i64 z.wh, .int .i64 z.tid, .int .i64 z.cut, .int .u64 z.e, .slice oz z.c.length cz][i]? := by
        intro i hi
        have h1 := hcell i hi
        obtain ⟨v, hv⟩ : ∃ v, [Value.int .i64 z.wh, .int .i64 z.tid, .int .i64 z.cut, .int .u64 z.e, .slice oz z.c.length cz][i]? = some v := ⟨_, List.getElem?_eq_getElem hi⟩
        rw [hv] at h1 ⊢
        exact (World.cell?_of_block (w := w) (a := ⟨b, off + k * 5 + i, none⟩) (KK.out.block b (World.block_lt_of_cell? w _ h1))).trans h1
      have p0 := hc 0 (by decide)
      have p1 := hc 1 (by decide)
      have p2 := hc 2 (by decide)
      have p3 := hc 3 (by decide)
      have p4 := hc 4 (by decide)
      simp at p0 p1 p2 p3 p4
      have DO := hide (fun cs => does_any (JJ.out.below (Ba.below_alloc wr (.cells cs 32))) z oz cz ((at_ky hAz KK.out).below (Ba.below_alloc wr (.cells cs 32))) hz1 hz2 hz3 hz4)
      unfold DoR at DO
      clear hc hcell hcl hz
      obtain ⟨zw, zt, zc, ze, zl⟩ := z
      simp only at p0 p1 p2 p3 p4 DO
      generalize zl.length = zn at *
      go_wp2_with fail
      refine (DO.out _).mono ?_
      rintro r w3 ⟨rfl, ⟨st3, a3, F3, tl3, j3⟩, k3⟩
      have K3 := hide ((KK.out.trans (KY.of (Ba.below_alloc wr (.cells #[.int .i64 zw, .int .i64 zt, .int .i64 zc, .int .u64 ze, .slice oz zn cz] 32)) JJ.out.y0)).trans k3)
      have J3 := hide j3
      clear j3 k3 DO
      have LK := hide (looks_any J3.out)
      go_wp2_with fail
      refine LK.out.mono ?_
      rintro r w4 ⟨rfl, b4⟩
      have J4 := hide (J3.out.below b4)
      have K4 := hide (K3.out.trans (KY.of b4 J3.out.y0))
      clear b4 LK J3 K3
      go_wp2_with fail
      go_roundw
      case rel => exact ⟨k + 1, by omega, by go_num, ⟨_, _, _, _, J4.out⟩, K4.out⟩
      case measure => simp [intOf]; omega
    · have hlt' : ¬ ((k : Int) < (n : Int)) := by omega
      go_wp2_with fail
      refine (RC.out _).mono ?_
      rintro r w6 ⟨rfl, b6⟩
      have B6 := hide (KK.out.trans (KY.of b6 JJ.out.y0)).lw
      clear b6
      go_wp2_with fail
      go_ret
      exact ⟨rfl, B6.out⟩

/-! ### the row -/
set_option maxRecDepth 100000 in
theorem lifted (os : Os) (started : os.Started) (H : Type) (enc : TypeId × Value → H) :
    ReturnsInHanded {} Try.checked os 3 .any (Rows.cellStepsSpec.pre6 enc Try.prog Try.f3 Rows.cellStepsRow.domain false) (Rows.cellStepsSpec.post enc Try.prog Try.f3 false true false false) := by
  refine returnsInHanded_of_change (C := Try.checked) own started (by kernel_rfl) Try.func3
    (ChangeSpec.witness6 (enc := enc) (C := Try.checked) false ⟨#[], #[.slice none 0 0], []⟩ 8 (by kernel_rfl) (by kernel_rfl) (by kernel_rfl) (by kernel_rfl)) ?_
  intro W base args ds gs before hval0 hW hcnd _
  have hval : ∀ (j : Nat) t v, Try.f3.params[j]? = some t → args[j]? = some v → Value.okWide Try.prog W .any base t v := hval0
  have hW' := hW
  obtain ⟨p, q, hA0, hV, rfl, hfz, hnd⟩ := hW
  have hA : DataW.TrodAll enc Try.prog W 0 (fun _ => true) true Try.f3.params.toList args.toList ds p := hA0
  rw [Try.params3] at hA hval
  obtain ⟨v0, vs0, d0, ds0, p0, q0, hargs, rfl, rfl, h0, r0⟩ := trodAll_cons hA
  obtain ⟨rfl, rfl, rfl⟩ := trodAll_nil r0
  obtain rfl : args = #[v0] := by cases args; simp_all
  obtain ⟨rfl, rfl⟩ := trodVars_none hV
  obtain ⟨oa0, n0, c0, rfl⟩ := okWide_slice Try.underlying22 (hval 0 22 v0 rfl rfl)
  have k0 := h0
  have lt0 : ∀ x ∈ p0, x.block < W.heap.size := by obtain ⟨m, hm⟩ := k0; exact DataW.trod_lt m _ _ _ hm
  obtain ⟨l0, rfl, A0, C0, M0⟩ := h0.elim fun _ hf => steps_open hf
  clear hA0 hval0
  refine (core (w := W) oa0 l0 c0 A0 (Nat.le_trans C0 M0)).mono fun e W' ⟨he, bel⟩ => ?_
  subst he
  exact ⟨_, rfl, _, _, _, [], _, [], hW', trodAll_mk1 (shut_bool Try.underlying4 _), (trodAll_cons_mk (Below.trod laidOut (by kernel_rfl) (of_decide_eq_true (by kernel_rfl)) k0 bel lt0) trodAll_mk0), rfl, bel.frame _, fun h => by cases h⟩

theorem over : Rows.cellStepsRow.holds Try.pinned (OpenSpec.ofChange Rows.cellStepsSpec) :=
  OpenClaim.holds_of_wide 3 Try.f3 rfl rfl rfl rfl rfl rfl rfl ⟨rfl, rfl, rfl, rfl, rfl⟩ rfl rfl rfl rfl rfl (by kernel_rfl) Try.func3 (by kernel_rfl)
    (of_decide_eq_true (by kernel_rfl)) (by unfold Func.isWrapper; first | (rw [if_pos (by decide +kernel)]; kernel_rfl) | (rw [if_neg (by decide +kernel)]; exact ⟨rfl, rfl⟩))
    (fun os started H enc _ => lifted os started H enc)

/-- the statement -/
theorem proved : Rows.CellStepsSaid := over
#print axioms proved
end Go.Proofs.Ytnbheejahenejaa.cellSteps
