import Derived.Test.YtblfimobiibmjaaGreatZjAh19
import Derived.Test.YtblfimobiibmjaaGreatAxn
import Derived.Test.YtblfimobiibmjaaGreatAxr
import Derived.Deep.Cut
import Derived.Deep.QuietTactic
import Derived.BigQuiet
import Derived.ShutString
import Derived.ChangeOld
import Derived.Below
namespace Go.Proofs.YtblfimobiibmjaaGreat.axiomSettled
open Go.ChangeShapes Go.WideShapes Go.ChangeAt Go.RowKit
open Go.ChangeMaps (open_string shut_string)
open Ax Eg En Ba
theorem own : ownKnob Tryz.prog.godebug = none := by kernel_rfl
theorem laidOut : laidOutB Tryz.prog = true := by kernel_rfl
set_option maxRecDepth 100000 in
set_option maxHeartbeats 3200000 in
theorem big {w : World} (oa : Option Addr) (n c : Nat) (i : Int) (hm : n ≤ maxLen) (h : 22 < n) :
 Calls Tryz.prog 8 #[.slice oa n c, .int .i64 i] w fun e w' => e = .returned (.bool true) ∧ Below w.heap.size w w' := by
 unfold maxLen at hm
 have FV := Ba.hide (write_any w)
 have d1 : decide ((22 : Int) < (n : Int)) = true := by simp; omega
 have d2 : decide (22 < n) = true := by simp; omega
 go_enter Tryz.func8, Tryz.ntmps8
 go_wp2_with fail
 refine FV.out.mono ?_
 rintro r w1 ⟨rfl, b1⟩
 have B1 := Ba.hide b1
 clear b1
 go_wp2_with fail
 go_ret
 exact ⟨rfl, B1.out⟩
set_option maxRecDepth 100000 in
set_option maxHeartbeats 12200000 in
theorem core {w : World} (oa : Option Addr) (l : List Ev) (c : Nat) (hA : Gu.EsAt w oa l ∧ l.length ≤ c) (hm : l.length ≤ maxLen) (i : Int) :
 Calls Tryz.prog 8 #[.slice oa l.length c, .int .i64 i] w fun e w' => e = .returned (.bool true) ∧ Below w.heap.size w w' := by
 by_cases hb : 22 < l.length
 ·exact big oa l.length c i hm hb
 obtain ⟨hA, hc⟩ := hA
 have FV := Ba.hide (fun u => write_any u)
 have RG := Ba.hide (fun u (b : Below w.heap.size w u) => right_any24 oa l c u (hA.below b) (by omega) hc)
 cases ht : tokB l
 ·have N1 := Ba.hide (settled_no oa l c i w hA (by omega) ht)
  rw [ht] at RG
  obtain ⟨M, hM⟩ : ∃ M, l.length = M := ⟨_, rfl⟩
  rw [hM] at N1 RG hb ⊢
  have d1 : decide ((22 : Int) < (M : Int)) = false := by simp; omega
  have d2 : decide (22 < M) = false := by simp; omega
  clear hA hm hb ht hM hc
  go_enter Tryz.func8, Tryz.ntmps8
  go_wp2_with fail
  refine N1.out.mono ?_
  rintro r w1 ⟨rfl, b1⟩
  have B1 := Ba.hide b1
  clear b1
  go_wp2_with fail
  refine (RG.out _ B1.out).mono ?_
  rintro r w3 ⟨rfl, b3⟩
  have B3 := Ba.hide (Ba.btr B1.out b3)
  clear b3
  go_wp2_with fail
  refine (FV.out _).mono ?_
  rintro r w9 ⟨rfl, b9⟩
  have B9 := Ba.hide (Ba.btr B3.out b9)
  clear b9
  go_wp2_with fail
  go_ret
  exact ⟨rfl, B9.out⟩
 have hT := tokB_iff.1 ht
 have N1 := Ba.hide (settled_yes oa l c i w hA (by omega) ht)
 have OF := Ba.hide (fun u (b : Below w.heap.size w u) => of_any oa l c u (hA.below b) hT (by omega))
 have OG := Ba.hide (fun u (b : Below w.heap.size w u) => (OF.out u b).mono (R' := fun r w' => ∃ G, r = .returned (.agg #[.slice oa l.length c, .pointer (some ⟨G, 0, none⟩)]) ∧ TR w' w.heap.size G oa l ∧ Below u.heap.size u w') fun r w' ⟨G, h1, h2, h3⟩ => ⟨G, h1, tr_base h2 b.size, h3⟩)
 have TB := Ba.hide (fun (u v : World) G (t : TR u w.heap.size G oa l) (b : Below u.heap.size u v) => t.below b)
 have LK := Ba.hide (fun u G (t : TR u w.heap.size G oa l) (h0 : 0 ≤ i) => look_any u w.heap.size G oa l c i t hT (by omega) hc h0)
 have RS := Ba.hide (fun (g : Nat) (hg : g < Gu.there l) u G (t : TR u w.heap.size G oa l) => rsettled_any u w.heap.size G oa l c g t hT (by omega) hc hg)
 rw [ht] at RG
 by_cases q0 : i < 0
 ·have qa : gorB l i = false := by unfold gorB; simp; omega
  unfold setA setE at N1
  rw [qa] at N1
  simp only [Bool.false_eq_true, if_false] at N1
  have N1 : Hid (Calls Tryz.prog 29 _ w fun r w' => r = .returned (.tuple #[.int .i64 0, .bool false, .int .i64 1]) ∧ Below w.heap.size w w') := N1
  obtain ⟨M, hM⟩ : ∃ M, l.length = M := ⟨_, rfl⟩
  rw [hM] at N1 RG OG LK RS hb ⊢
  have d1 : decide ((22 : Int) < (M : Int)) = false := by simp; omega
  have d2 : decide (22 < M) = false := by simp; omega
  clear hA hm ht hM hc hT OF
  clear qa LK RS
  go_enter Tryz.func8, Tryz.ntmps8
  go_wp2_with fail
  refine N1.out.mono ?_
  rintro r w1 ⟨rfl, b1⟩
  have B1 := Ba.hide b1
  clear b1
  go_wp2_with fail
  refine (RG.out _ B1.out).mono ?_
  rintro r w3 ⟨rfl, b3⟩
  have B3 := Ba.hide (Ba.btr B1.out b3)
  clear b3
  go_wp2_with fail
  refine (OG.out _ B3.out).mono ?_
  rintro r w4 ⟨G, rfl, t4, b4⟩
  have bx := Ba.below_alloc w4 (.cells #[.slice oa M c, .pointer (some ⟨G, 0, none⟩)] 44)
  have X4 := Ba.hide (Ba.heap_new w4 (.cells #[.slice oa M c, .pointer (some ⟨G, 0, none⟩)] 44))
  have B4 := Ba.hide (Ba.btr (Ba.btr B3.out b4) bx)
  have T4 := Ba.hide (TB.out _ _ _ t4 bx)
  clear b4 t4 bx
  go_upto_region 7 with fail
  obtain ⟨w5, hw5⟩ : ∃ x, w4.alloc (.cells #[.slice oa M c, .pointer (some ⟨G, 0, none⟩)] 44) = x := ⟨_, rfl⟩
  rw [hw5] at X4 B4 T4 ⊢
  obtain ⟨A, hAA⟩ : ∃ A, w4.heap.size = A := ⟨_, rfl⟩
  rw [hAA] at X4 ⊢
  clear hw5 hAA
  have t0 : w5.cell? ⟨A, 0, none⟩ = some (.slice oa M c) := cell_of X4.out 0
  have t1 : w5.cell? ⟨A, 1, none⟩ = some (.pointer (some ⟨G, 0, none⟩)) := cell_of X4.out 1
  clear t0 t1
  go_wp2_with fail
  refine (FV.out _).mono ?_
  rintro r w9 ⟨rfl, b9⟩
  have B9 := Ba.hide (Ba.btr B4.out b9)
  clear b9
  go_wp2_with fail
  go_ret
  exact ⟨rfl, B9.out⟩
 have LK := Ba.hide (fun u G t => LK.out u G t (by omega))
 by_cases q1 : (Gu.there l : Int) ≤ i
 ·have qa : gorB l i = false := by unfold gorB; simp; omega
  have lt : decide (i < (Gu.there l : Int)) = false := by simp; omega
  rw [lt] at LK
  unfold setA setE at N1
  rw [qa] at N1
  simp only [Bool.false_eq_true, if_false] at N1
  have N1 : Hid (Calls Tryz.prog 29 _ w fun r w' => r = .returned (.tuple #[.int .i64 0, .bool false, .int .i64 1]) ∧ Below w.heap.size w w') := N1
  obtain ⟨M, hM⟩ : ∃ M, l.length = M := ⟨_, rfl⟩
  rw [hM] at N1 RG OG LK RS hb ⊢
  have d1 : decide ((22 : Int) < (M : Int)) = false := by simp; omega
  have d2 : decide (22 < M) = false := by simp; omega
  clear hA hm ht hM hc hT OF
  obtain ⟨lv, hlv⟩ : ∃ b, lvF l i M = b := ⟨_, rfl⟩
  obtain ⟨av, hav⟩ : ∃ b, rfi (latF l i M) = b := ⟨_, rfl⟩
  rw [hlv, hav] at LK
  clear qa lt RS q1 hlv hav
  go_enter Tryz.func8, Tryz.ntmps8
  go_wp2_with fail
  refine N1.out.mono ?_
  rintro r w1 ⟨rfl, b1⟩
  have B1 := Ba.hide b1
  clear b1
  go_wp2_with fail
  refine (RG.out _ B1.out).mono ?_
  rintro r w3 ⟨rfl, b3⟩
  have B3 := Ba.hide (Ba.btr B1.out b3)
  clear b3
  go_wp2_with fail
  refine (OG.out _ B3.out).mono ?_
  rintro r w4 ⟨G, rfl, t4, b4⟩
  have bx := Ba.below_alloc w4 (.cells #[.slice oa M c, .pointer (some ⟨G, 0, none⟩)] 44)
  have X4 := Ba.hide (Ba.heap_new w4 (.cells #[.slice oa M c, .pointer (some ⟨G, 0, none⟩)] 44))
  have B4 := Ba.hide (Ba.btr (Ba.btr B3.out b4) bx)
  have T4 := Ba.hide (TB.out _ _ _ t4 bx)
  clear b4 t4 bx
  go_upto_region 7 with fail
  obtain ⟨w5, hw5⟩ : ∃ x, w4.alloc (.cells #[.slice oa M c, .pointer (some ⟨G, 0, none⟩)] 44) = x := ⟨_, rfl⟩
  rw [hw5] at X4 B4 T4 ⊢
  obtain ⟨A, hAA⟩ : ∃ A, w4.heap.size = A := ⟨_, rfl⟩
  rw [hAA] at X4 ⊢
  clear hw5 hAA
  have t0 : w5.cell? ⟨A, 0, none⟩ = some (.slice oa M c) := cell_of X4.out 0
  have t1 : w5.cell? ⟨A, 1, none⟩ = some (.pointer (some ⟨G, 0, none⟩)) := cell_of X4.out 1
  have L5 := Ba.hide (LK.out w5 G T4.out)
  go_wp2_with fail
  refine L5.out.mono ?_
  rintro r w6 ⟨s, rfl, b6⟩
  have B6 := Ba.hide (Ba.btr B4.out b6)
  have X6 := Ba.hide (Ba.heap_below X4.out b6)
  have T6 := Ba.hide (TB.out _ _ _ T4.out b6)
  clear b6 t0 t1 L5
  go_wp2_with fail
  change (_ : Act → World → Prop) (Act.put _ _ (Value.bool false)) _
  go_wp2_with fail
  refine (FV.out _).mono ?_
  rintro r w9 ⟨rfl, b9⟩
  have B9 := Ba.hide (Ba.btr B6.out b9)
  clear b9
  go_wp2_with fail
  go_ret
  exact ⟨rfl, B9.out⟩
 obtain ⟨g, rfl⟩ : ∃ g : Nat, i = (g : Int) := ⟨i.toNat, by omega⟩
 have qa : gorB l (g : Int) = true := by unfold gorB; simp; omega
 have lt : decide ((g : Int) < (Gu.there l : Int)) = true := by simp; omega
 rw [lt] at LK
 unfold setA setE at N1
 rw [qa] at N1
 simp only [if_true] at N1
 have RS := Ba.hide (RS.out g (by omega))
 unfold setV at RS
 obtain ⟨o, ho⟩ : ∃ o, setF (Ax.hA l) l (g : Int) = o := ⟨_, rfl⟩
 rw [ho] at N1 RS
 cases o with
 | none =>
   have N1 : Hid (Calls Tryz.prog 29 _ w fun r w' => r = .returned (.tuple #[.int .i64 0, .bool false, .int .i64 0]) ∧ Below w.heap.size w w') := N1
   have RS : Hid (∀ u G (t : TR u w.heap.size G oa l), Calls Tryz.prog 31 _ u fun r w' => r = .returned (.int .i64 (-1)) ∧ Below u.heap.size u w') := RS
   obtain ⟨M, hM⟩ : ∃ M, l.length = M := ⟨_, rfl⟩
   rw [hM] at N1 RG OG LK RS hb ⊢
   have d1 : decide ((22 : Int) < (M : Int)) = false := by simp; omega
   have d2 : decide (22 < M) = false := by simp; omega
   clear hA hm ht hM hc hT OF
   obtain ⟨lv, hlv⟩ : ∃ b, lvF l (g : Int) M = b := ⟨_, rfl⟩
   obtain ⟨av, hav⟩ : ∃ b, rfi (latF l (g : Int) M) = b := ⟨_, rfl⟩
   rw [hlv, hav] at LK
   clear qa lt ho q1 hlv hav
   go_enter Tryz.func8, Tryz.ntmps8
   go_wp2_with fail
   refine N1.out.mono ?_
   rintro r w1 ⟨rfl, b1⟩
   have B1 := Ba.hide b1
   clear b1
   go_wp2_with fail
   refine (RG.out _ B1.out).mono ?_
   rintro r w3 ⟨rfl, b3⟩
   have B3 := Ba.hide (Ba.btr B1.out b3)
   clear b3
   go_wp2_with fail
   refine (OG.out _ B3.out).mono ?_
   rintro r w4 ⟨G, rfl, t4, b4⟩
   have bx := Ba.below_alloc w4 (.cells #[.slice oa M c, .pointer (some ⟨G, 0, none⟩)] 44)
   have X4 := Ba.hide (Ba.heap_new w4 (.cells #[.slice oa M c, .pointer (some ⟨G, 0, none⟩)] 44))
   have B4 := Ba.hide (Ba.btr (Ba.btr B3.out b4) bx)
   have T4 := Ba.hide (TB.out _ _ _ t4 bx)
   clear b4 t4 bx
   go_upto_region 7 with fail
   obtain ⟨w5, hw5⟩ : ∃ x, w4.alloc (.cells #[.slice oa M c, .pointer (some ⟨G, 0, none⟩)] 44) = x := ⟨_, rfl⟩
   rw [hw5] at X4 B4 T4 ⊢
   obtain ⟨A, hAA⟩ : ∃ A, w4.heap.size = A := ⟨_, rfl⟩
   rw [hAA] at X4 ⊢
   clear hw5 hAA
   have t0 : w5.cell? ⟨A, 0, none⟩ = some (.slice oa M c) := cell_of X4.out 0
   have t1 : w5.cell? ⟨A, 1, none⟩ = some (.pointer (some ⟨G, 0, none⟩)) := cell_of X4.out 1
   have L5 := Ba.hide (LK.out w5 G T4.out)
   go_wp2_with fail
   refine L5.out.mono ?_
   rintro r w6 ⟨s, rfl, b6⟩
   have B6 := Ba.hide (Ba.btr B4.out b6)
   have X6 := Ba.hide (Ba.heap_below X4.out b6)
   have T6 := Ba.hide (TB.out _ _ _ T4.out b6)
   clear b6 t0 t1 L5
   go_wp2_with fail
   change (_ : Act → World → Prop) (Act.put _ _ (Value.bool true)) _
   have R6 := Ba.hide (RS.out w6 G T6.out)
   have t0 : w6.cell? ⟨A, 0, none⟩ = some (.slice oa M c) := cell_of X6.out 0
   have t1 : w6.cell? ⟨A, 1, none⟩ = some (.pointer (some ⟨G, 0, none⟩)) := cell_of X6.out 1
   go_wp2_with fail
   refine R6.out.mono ?_
   rintro r w7 ⟨rfl, b7⟩
   have B7 := Ba.hide (Ba.btr B6.out b7)
   clear b7 t0 t1 R6
   go_wp2_with fail
   refine (FV.out _).mono ?_
   rintro r w9 ⟨rfl, b9⟩
   have B9 := Ba.hide (Ba.btr B7.out b9)
   clear b9
   go_wp2_with fail
   go_ret
   exact ⟨rfl, B9.out⟩
 | some a =>
   have N1 : Hid (Calls Tryz.prog 29 _ w fun r w' => r = .returned (.tuple #[.int .i64 (a : Int), .bool true, .int .i64 0]) ∧ Below w.heap.size w w') := N1
   have RS : Hid (∀ u G (t : TR u w.heap.size G oa l), Calls Tryz.prog 31 _ u fun r w' => r = .returned (.int .i64 (a : Int)) ∧ Below u.heap.size u w') := RS
   obtain ⟨M, hM⟩ : ∃ M, l.length = M := ⟨_, rfl⟩
   rw [hM] at N1 RG OG LK RS hb ⊢
   have d1 : decide ((22 : Int) < (M : Int)) = false := by simp; omega
   have d2 : decide (22 < M) = false := by simp; omega
   clear hA hm ht hM hc hT OF
   obtain ⟨lv, hlv⟩ : ∃ b, lvF l (g : Int) M = b := ⟨_, rfl⟩
   obtain ⟨av, hav⟩ : ∃ b, rfi (latF l (g : Int) M) = b := ⟨_, rfl⟩
   rw [hlv, hav] at LK
   have a0 : (0 : Int) ≤ (a : Int) := by omega
   have a1 : ¬ ((a : Int) < 0) := by omega
   clear qa lt ho q1 hlv hav
   go_enter Tryz.func8, Tryz.ntmps8
   go_wp2_with fail
   refine N1.out.mono ?_
   rintro r w1 ⟨rfl, b1⟩
   have B1 := Ba.hide b1
   clear b1
   go_wp2_with fail
   refine (RG.out _ B1.out).mono ?_
   rintro r w3 ⟨rfl, b3⟩
   have B3 := Ba.hide (Ba.btr B1.out b3)
   clear b3
   go_wp2_with fail
   refine (OG.out _ B3.out).mono ?_
   rintro r w4 ⟨G, rfl, t4, b4⟩
   have bx := Ba.below_alloc w4 (.cells #[.slice oa M c, .pointer (some ⟨G, 0, none⟩)] 44)
   have X4 := Ba.hide (Ba.heap_new w4 (.cells #[.slice oa M c, .pointer (some ⟨G, 0, none⟩)] 44))
   have B4 := Ba.hide (Ba.btr (Ba.btr B3.out b4) bx)
   have T4 := Ba.hide (TB.out _ _ _ t4 bx)
   clear b4 t4 bx
   go_upto_region 7 with fail
   obtain ⟨w5, hw5⟩ : ∃ x, w4.alloc (.cells #[.slice oa M c, .pointer (some ⟨G, 0, none⟩)] 44) = x := ⟨_, rfl⟩
   rw [hw5] at X4 B4 T4 ⊢
   obtain ⟨A, hAA⟩ : ∃ A, w4.heap.size = A := ⟨_, rfl⟩
   rw [hAA] at X4 ⊢
   clear hw5 hAA
   have t0 : w5.cell? ⟨A, 0, none⟩ = some (.slice oa M c) := cell_of X4.out 0
   have t1 : w5.cell? ⟨A, 1, none⟩ = some (.pointer (some ⟨G, 0, none⟩)) := cell_of X4.out 1
   have L5 := Ba.hide (LK.out w5 G T4.out)
   go_wp2_with fail
   refine L5.out.mono ?_
   rintro r w6 ⟨s, rfl, b6⟩
   have B6 := Ba.hide (Ba.btr B4.out b6)
   have X6 := Ba.hide (Ba.heap_below X4.out b6)
   have T6 := Ba.hide (TB.out _ _ _ T4.out b6)
   clear b6 t0 t1 L5
   go_wp2_with fail
   change (_ : Act → World → Prop) (Act.put _ _ (Value.bool true)) _
   have R6 := Ba.hide (RS.out w6 G T6.out)
   have t0 : w6.cell? ⟨A, 0, none⟩ = some (.slice oa M c) := cell_of X6.out 0
   have t1 : w6.cell? ⟨A, 1, none⟩ = some (.pointer (some ⟨G, 0, none⟩)) := cell_of X6.out 1
   go_wp2_with fail
   refine R6.out.mono ?_
   rintro r w7 ⟨rfl, b7⟩
   have B7 := Ba.hide (Ba.btr B6.out b7)
   clear b7 t0 t1 R6
   go_wp2_with fail
   refine (FV.out _).mono ?_
   rintro r w9 ⟨rfl, b9⟩
   have B9 := Ba.hide (Ba.btr B7.out b9)
   clear b9
   go_wp2_with fail
   go_ret
   exact ⟨rfl, B9.out⟩
set_option maxRecDepth 100000 in
theorem lifted (os : Os) (started : os.Started) (H : Type) (enc : TypeId × Value → H) :
 ReturnsInHanded {} Tryz.checked os 8 .any (Rows.axiomSettledSpec.pre6 enc Tryz.prog Tryz.f8 Rows.axiomSettledRow.domain false) (Rows.axiomSettledSpec.post enc Tryz.prog Tryz.f8 false true false false) := by
 refine returnsInHanded_of_change (C := Tryz.checked) own started (by kernel_rfl) Tryz.func8
  (ChangeSpec.witness6 (enc := enc) (C := Tryz.checked) false ⟨#[], #[.slice none 0 0, .int .i64 0], []⟩ 8 (by kernel_rfl) (by kernel_rfl) (by kernel_rfl) (by kernel_rfl)) ?_
 intro W base args ds gs before hval0 hW hcnd _
 have hval : ∀ (j : Nat) t v, Tryz.f8.params[j]? = some t → args[j]? = some v → Value.okWide Tryz.prog W .any base t v := hval0
 have hW' := hW
 obtain ⟨p, q, hA0, hV, rfl, hfz, hnd⟩ := hW
 have hA : DataW.TrodAll enc Tryz.prog W 0 (fun _ => true) true Tryz.f8.params.toList args.toList ds p := hA0
 rw [Tryz.params8] at hA hval
 obtain ⟨v0, vs0, d0, ds0, p0, q0, hargs, rfl, rfl, h0, r0⟩ := trodAll_cons hA
 obtain ⟨v1, vs1, d1, ds1, p1, q1, rfl, rfl, rfl, h1, r1⟩ := trodAll_cons r0
 obtain ⟨rfl, rfl, rfl⟩ := trodAll_nil r1
 obtain rfl : args = #[v0, v1] := by cases args; simp_all
 obtain ⟨rfl, rfl⟩ := trodVars_none hV
 obtain ⟨oa0, n0, c0, rfl⟩ := okWide_slice Tryz.underlying22 (hval 0 22 v0 rfl rfl)
 have k0 := h0
 have lt0 : ∀ x ∈ p0, x.block < W.heap.size := by obtain ⟨m, hm⟩ := k0; exact DataW.trod_lt m _ _ _ hm
 obtain ⟨l0, rfl, A0, C0, M0⟩ := h0.elim fun _ hf => Gu.events_openC hf
 obtain ⟨a1, rfl, rfl, rfl, w1⟩ := open_int Tryz.underlying3 (hval 1 3 v1 rfl rfl) h1
 clear hA0 hval0
 refine (core (w := W) oa0 l0 c0 A0 (Nat.le_trans C0 M0) a1).mono fun e W' ⟨he, bel⟩ => ?_
 subst he
 exact ⟨_, rfl, _, _, _, [], _, [], hW', trodAll_mk1 (shut_bool Tryz.underlying4 _), (trodAll_cons_mk (Below.trod laidOut (by kernel_rfl) (of_decide_eq_true (by kernel_rfl)) k0 bel lt0) (trodAll_cons_mk (shut_int Tryz.underlying3 w1) trodAll_mk0)), rfl, bel.frame _, fun h => by cases h⟩
theorem over : Rows.axiomSettledRow.holds Tryz.pinned (OpenSpec.ofChange Rows.axiomSettledSpec) :=
 OpenClaim.holds_of_wide 8 Tryz.f8 rfl rfl rfl rfl rfl rfl rfl ⟨rfl, rfl, rfl, rfl, rfl⟩ rfl rfl rfl rfl rfl (by kernel_rfl) Tryz.func8 (by kernel_rfl)
  (of_decide_eq_true (by kernel_rfl)) (by unfold Func.isWrapper; first | (rw [if_pos (by decide +kernel)]; kernel_rfl) | (rw [if_neg (by decide +kernel)]; exact ⟨rfl, rfl⟩))
  (fun os started H enc _ => lifted os started H enc)
theorem proved : Rows.AxiomSettledSaid := over
#print axioms proved
end Go.Proofs.YtblfimobiibmjaaGreat.axiomSettled
