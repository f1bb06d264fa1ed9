import Derived.Test.YtblfimobiibmjaaGreatZjEh5
import Derived.Laws.CopyRow
import Derived.Laws.IdiomCopy
import Derived.Maps.AppendAt
import Derived.Deep.RegionHeld3
import Derived.Sort.Grow
import Derived.Deep.QuietTactic
import Derived.BigQuiet
import Derived.Lib.Slices
import Derived.Lib.SliceRun
import Derived.Deep.Cut
import Derived.Lib.AppendZeros
import Derived.Deep.RegionLaw
namespace Go.Proofs.YtblfimobiibmjaaGreat
open Go.ChangeShapes Go.WideShapes Go.ChangeAt Go.RowKit
namespace Gu
open En Ba
theorem chn_any (e : Ev) (w : World) : Calls Tryz.prog 120 #[evv e] w fun r w' => r = .returned (.tuple #[.int .i64 e.c, .bool (e.k == 2)]) ∧ Below w.heap.size w w' := by
 have B1 := hide (btr (below_alloc w (.cells #[.int .i64 e.k, .int .i64 e.g, .int .i64 e.c, .int .i64 e.a, .int .i64 e.v, .int .i64 e.m, .bool e.s, .bool e.o] 50)) (bdrew1 _))
 have E1 := heap_new w (.cells #[.int .i64 e.k, .int .i64 e.g, .int .i64 e.c, .int .i64 e.a, .int .i64 e.v, .int .i64 e.m, .bool e.s, .bool e.o] 50)
 have v0 : (w.alloc (.cells #[.int .i64 e.k, .int .i64 e.g, .int .i64 e.c, .int .i64 e.a, .int .i64 e.v, .int .i64 e.m, .bool e.s, .bool e.o] 50)).drew.cell? ⟨w.heap.size, 0, none⟩ = some (.int .i64 e.k) := cell_of E1 0
 have v2 : (w.alloc (.cells #[.int .i64 e.k, .int .i64 e.g, .int .i64 e.c, .int .i64 e.a, .int .i64 e.v, .int .i64 e.m, .bool e.s, .bool e.o] 50)).drew.cell? ⟨w.heap.size, 2, none⟩ = some (.int .i64 e.c) := cell_of E1 2
 clear E1
 unfold evv evc
 go_enter Tryz.func120, Tryz.ntmps120
 go_wp2_with fail
 generalize w.alloc (.cells #[.int .i64 e.k, .int .i64 e.g, .int .i64 e.c, .int .i64 e.a, .int .i64 e.v, .int .i64 e.m, .bool e.s, .bool e.o] 50) = W1 at *
 go_region
 all_goals
  go_wp2_with fail
  go_ret2
  exact ⟨rfl, B1.out⟩
theorem run_max_int (u : World) (ty : TypeId) (a b : Int) : (Builtin.max_ #[3, 3] ty #[.int .i64 a, .int .i64 b]).run Tryz.prog u = .ok (.int .i64 (max a b)) u := by
 have e : max a b = if b > a then b else a := by split <;> omega
 rw [e]
 simp [Builtin.max_, Builtin.max2]
set_option maxHeartbeats 3200000 in
theorem cnt_g (oa : Option Addr) (l : List Ev) (c : Nat) (w : World) (hA : EsAt w oa l) (hl : l.length ≤ 100000) (hw : ∀ (i : Nat) e, l[i]? = some e → e.k = 1 → -9223372036854775808 ≤ e.m) :
 Calls Tryz.prog 90 #[.slice oa l.length c, .func (.func 91) #[] #[]] w fun r w' => r = .returned (.int .i64 (Gc.cntF (fun e => e.k == 1) (fun e => e.m) l)) ∧ Below w.heap.size w w' := by
 have HA := hide hA
 have HW := hide hw
 obtain ⟨F, F0, FM, FR, FS⟩ := Gc.cnt_fun (fun e => e.k == 1) (fun e => e.m) l
 have HF := hide (And.intro F0 (And.intro FR FS))
 rw [← FM]
 obtain ⟨M, hM⟩ : ∃ M, l.length = M := ⟨_, rfl⟩
 have HM := hide hM
 rw [hM] at hl ⊢
 clear hA hw hM F0 FM FR FS
 go_enter Tryz.func90, Tryz.ntmps90
 go_wp2_with fail
 go_loopw [5, 12] (fun m i wr => ∃ k : Nat, k ≤ M ∧ m = .int .i64 (F k) ∧ i = .int .i64 (k : Int) ∧ Below w.heap.size w wr) (fun _ i _ => M - (intOf i).toNat)
 case atStart => exact ⟨0, Nat.zero_le _, by rw [HF.out.1], rfl, Below.refl _ _⟩
 case round =>
  obtain ⟨k, hkM, rfl, rfl, bl⟩ := hrel
  have BL := hide bl
  have EA := hide (HA.out.below bl)
  clear bl
  by_cases hlt : k < M
  ·have hlt' : (k : Int) < (M : Int) := by omega
   obtain ⟨e, he⟩ : ∃ e, l[k]? = some e := ⟨_, List.getElem?_eq_getElem (by rw [HM.out]; omega)⟩
   obtain ⟨b1, o1, rfl, -⟩ := EA.out k e he
   obtain ⟨p0, p1, p2, p3, p4, p5, p6, p7⟩ := EA.out.read he
   have HWE := hide (HW.out k e he)
   have FS := hide (HF.out.2.2 k e he)
   have hr := HF.out.2.1 k
   have CN := hide (num_any e (wr.alloc (.cells #[.int .i64 e.k, .int .i64 e.g, .int .i64 e.c, .int .i64 e.a, .int .i64 e.v, .int .i64 e.m, .bool e.s, .bool e.o] 50)))
   unfold evv evc at CN
   have BA := hide (btr BL.out (below_alloc wr (.cells #[.int .i64 e.k, .int .i64 e.g, .int .i64 e.c, .int .i64 e.a, .int .i64 e.v, .int .i64 e.m, .bool e.s, .bool e.o] 50)))
   clear he
   have KK : Hid (∀ (v : Value) (w1 : World), v = .int .i64 (F (k + 1)) → Below w.heap.size w w1 → ∃ k' : Nat, k' ≤ M ∧ v = .int .i64 (F k') ∧ Value.int .i64 ((k : Int) + 1) = .int .i64 (k' : Int) ∧ Below w.heap.size w w1) := fun v w1 hv hb => ⟨k + 1, by omega, hv, by simp, hb⟩
   generalize F (k + 1) = f1 at *
   generalize F k = f0 at *
   by_cases hk1 : e.k = 1
   ·have d1 : (e.k == 1) = true := by simp [hk1]
    rw [d1] at CN
    by_cases hm : e.m < 1099511627776
    ·have d2 : decide (e.m < 1099511627776) = true := decide_eq_true hm
     have hf : f1 = max f0 (e.m + 1) := by rw [FS.out, if_pos ⟨d1, hm⟩]
     have hmx : ∀ (ty : TypeId) (u : World), (Builtin.max_ #[3, 3] ty #[.int .i64 f0, .int .i64 (e.m + 1)]).run Tryz.prog u = .ok (.int .i64 f1) u := fun ty u => by rw [hf]; exact run_max_int u ty f0 (e.m + 1)
     have hwe := HWE.out hk1
     have hwr : IntKind.i64.wrap (e.m + 1) = e.m + 1 := by rw [IntKind.wrap_i64]; omega
     clear hk1 hm hf FS
     go_wp2_with fail
     refine CN.out.mono ?_
     rintro r w1 ⟨rfl, b2⟩
     have B2 := hide (btr BA.out b2)
     clear b2
     go_wp2_with fail
     go_roundw
     case measure => simp [intOf]; omega
     case rel => exact KK.out _ _ rfl B2.out
    ·have d2 : decide (e.m < 1099511627776) = false := decide_eq_false hm
     have hf : f1 = f0 := by rw [FS.out, if_neg (fun q => hm q.2)]
     subst hf
     clear hk1 hm FS
     go_wp2_with fail
     refine CN.out.mono ?_
     rintro r w1 ⟨rfl, b2⟩
     have B2 := hide (btr BA.out b2)
     clear b2
     go_wp2_with fail
     go_roundw
     case measure => simp [intOf]; omega
     case rel => exact KK.out _ _ rfl B2.out
   ·have d1 : (e.k == 1) = false := by simp [hk1]
    rw [d1] at CN
    have hf : f1 = f0 := by rw [FS.out, if_neg (fun q => by have := q.1; simp [hk1] at this)]
    subst hf
    clear hk1 FS
    go_wp2_with fail
    refine CN.out.mono ?_
    rintro r w1 ⟨rfl, b2⟩
    have B2 := hide (btr BA.out b2)
    clear b2
    go_wp2_with fail
    go_roundw
    case measure => simp [intOf]; omega
    case rel => exact KK.out _ _ rfl B2.out
  ·have dl : decide ((k : Int) < (M : Int)) = false := by simp; omega
   have dl2 : decide (k < M) = false := by simp; omega
   have hk : k = M := by omega
   subst hk
   clear hlt
   go_wp2_with fail
   go_ret
   exact ⟨rfl, BL.out⟩
set_option maxHeartbeats 3200000 in
theorem cnt_c (oa : Option Addr) (l : List Ev) (c : Nat) (w : World) (hA : EsAt w oa l) (hl : l.length ≤ 100000) (hw : ∀ (i : Nat) e, l[i]? = some e → e.k = 2 → -9223372036854775808 ≤ e.c) :
 Calls Tryz.prog 90 #[.slice oa l.length c, .func (.func 120) #[] #[]] w fun r w' => r = .returned (.int .i64 (Gc.cntF (fun e => e.k == 2) (fun e => e.c) l)) ∧ Below w.heap.size w w' := by
 have HA := hide hA
 have HW := hide hw
 obtain ⟨F, F0, FM, FR, FS⟩ := Gc.cnt_fun (fun e => e.k == 2) (fun e => e.c) l
 have HF := hide (And.intro F0 (And.intro FR FS))
 rw [← FM]
 obtain ⟨M, hM⟩ : ∃ M, l.length = M := ⟨_, rfl⟩
 have HM := hide hM
 rw [hM] at hl ⊢
 clear hA hw hM F0 FM FR FS
 go_enter Tryz.func90, Tryz.ntmps90
 go_wp2_with fail
 go_loopw [5, 12] (fun m i wr => ∃ k : Nat, k ≤ M ∧ m = .int .i64 (F k) ∧ i = .int .i64 (k : Int) ∧ Below w.heap.size w wr) (fun _ i _ => M - (intOf i).toNat)
 case atStart => exact ⟨0, Nat.zero_le _, by rw [HF.out.1], rfl, Below.refl _ _⟩
 case round =>
  obtain ⟨k, hkM, rfl, rfl, bl⟩ := hrel
  have BL := hide bl
  have EA := hide (HA.out.below bl)
  clear bl
  by_cases hlt : k < M
  ·have hlt' : (k : Int) < (M : Int) := by omega
   obtain ⟨e, he⟩ : ∃ e, l[k]? = some e := ⟨_, List.getElem?_eq_getElem (by rw [HM.out]; omega)⟩
   obtain ⟨b1, o1, rfl, -⟩ := EA.out k e he
   obtain ⟨p0, p1, p2, p3, p4, p5, p6, p7⟩ := EA.out.read he
   have HWE := hide (HW.out k e he)
   have FS := hide (HF.out.2.2 k e he)
   have hr := HF.out.2.1 k
   have CN := hide (chn_any e (wr.alloc (.cells #[.int .i64 e.k, .int .i64 e.g, .int .i64 e.c, .int .i64 e.a, .int .i64 e.v, .int .i64 e.m, .bool e.s, .bool e.o] 50)))
   unfold evv evc at CN
   have BA := hide (btr BL.out (below_alloc wr (.cells #[.int .i64 e.k, .int .i64 e.g, .int .i64 e.c, .int .i64 e.a, .int .i64 e.v, .int .i64 e.m, .bool e.s, .bool e.o] 50)))
   clear he
   have KK : Hid (∀ (v : Value) (w1 : World), v = .int .i64 (F (k + 1)) → Below w.heap.size w w1 → ∃ k' : Nat, k' ≤ M ∧ v = .int .i64 (F k') ∧ Value.int .i64 ((k : Int) + 1) = .int .i64 (k' : Int) ∧ Below w.heap.size w w1) := fun v w1 hv hb => ⟨k + 1, by omega, hv, by simp, hb⟩
   generalize F (k + 1) = f1 at *
   generalize F k = f0 at *
   by_cases hk1 : e.k = 2
   ·have d1 : (e.k == 2) = true := by simp [hk1]
    rw [d1] at CN
    by_cases hm : e.c < 1099511627776
    ·have d2 : decide (e.c < 1099511627776) = true := decide_eq_true hm
     have hf : f1 = max f0 (e.c + 1) := by rw [FS.out, if_pos ⟨d1, hm⟩]
     have hmx : ∀ (ty : TypeId) (u : World), (Builtin.max_ #[3, 3] ty #[.int .i64 f0, .int .i64 (e.c + 1)]).run Tryz.prog u = .ok (.int .i64 f1) u := fun ty u => by rw [hf]; exact run_max_int u ty f0 (e.c + 1)
     have hwe := HWE.out hk1
     have hwr : IntKind.i64.wrap (e.c + 1) = e.c + 1 := by rw [IntKind.wrap_i64]; omega
     clear hk1 hm hf FS
     go_wp2_with fail
     refine CN.out.mono ?_
     rintro r w1 ⟨rfl, b2⟩
     have B2 := hide (btr BA.out b2)
     clear b2
     go_wp2_with fail
     go_roundw
     case measure => simp [intOf]; omega
     case rel => exact KK.out _ _ rfl B2.out
    ·have d2 : decide (e.c < 1099511627776) = false := decide_eq_false hm
     have hf : f1 = f0 := by rw [FS.out, if_neg (fun q => hm q.2)]
     subst hf
     clear hk1 hm FS
     go_wp2_with fail
     refine CN.out.mono ?_
     rintro r w1 ⟨rfl, b2⟩
     have B2 := hide (btr BA.out b2)
     clear b2
     go_wp2_with fail
     go_roundw
     case measure => simp [intOf]; omega
     case rel => exact KK.out _ _ rfl B2.out
   ·have d1 : (e.k == 2) = false := by simp [hk1]
    rw [d1] at CN
    have hf : f1 = f0 := by rw [FS.out, if_neg (fun q => by have := q.1; simp [hk1] at this)]
    subst hf
    clear hk1 FS
    go_wp2_with fail
    refine CN.out.mono ?_
    rintro r w1 ⟨rfl, b2⟩
    have B2 := hide (btr BA.out b2)
    clear b2
    go_wp2_with fail
    go_roundw
    case measure => simp [intOf]; omega
    case rel => exact KK.out _ _ rfl B2.out
  ·have dl : decide ((k : Int) < (M : Int)) = false := by simp; omega
   have dl2 : decide (k < M) = false := by simp; omega
   have hk : k = M := by omega
   subst hk
   clear hlt
   go_wp2_with fail
   go_ret
   exact ⟨rfl, BL.out⟩
theorem gors_any (oa : Option Addr) (l : List Ev) (c : Nat) (w : World) (hA : EsAt w oa l) (hl : l.length ≤ 100000) (hw : ∀ (i : Nat) e, l[i]? = some e → e.k = 1 → -9223372036854775808 ≤ e.m) :
 Calls Tryz.prog 56 #[.slice oa l.length c] w fun r w' => r = .returned (.int .i64 (max 1 (Gc.cntF (fun e => e.k == 1) (fun e => e.m) l))) ∧ Below w.heap.size w w' := by
 have CN := hide (cnt_g oa l c w hA hl hw)
 generalize Gc.cntF (fun e => e.k == 1) (fun e => e.m) l = m at *
 have hmx : ∀ (ty : TypeId) (u : World), (Builtin.max_ #[3, 3] ty #[.int .i64 1, .int .i64 m]).run Tryz.prog u = .ok (.int .i64 (max 1 m)) u := fun ty u => run_max_int u ty 1 m
 generalize max 1 m = mm at *
 generalize l.length = M at *
 clear hA hw
 go_enter Tryz.func56, Tryz.ntmps56
 go_wp2_with fail
 refine CN.out.mono ?_
 rintro r w1 ⟨rfl, b2⟩
 go_wp2_with fail
 go_ret
 exact ⟨rfl, b2⟩
theorem chans_any (oa : Option Addr) (l : List Ev) (c : Nat) (w : World) (hA : EsAt w oa l) (hl : l.length ≤ 100000) (hw : ∀ (i : Nat) e, l[i]? = some e → e.k = 2 → -9223372036854775808 ≤ e.c) :
 Calls Tryz.prog 64 #[.slice oa l.length c] w fun r w' => r = .returned (.int .i64 (max 0 (Gc.cntF (fun e => e.k == 2) (fun e => e.c) l))) ∧ Below w.heap.size w w' := by
 have CN := hide (cnt_c oa l c w hA hl hw)
 generalize Gc.cntF (fun e => e.k == 2) (fun e => e.c) l = m at *
 have hmx : ∀ (ty : TypeId) (u : World), (Builtin.max_ #[3, 3] ty #[.int .i64 0, .int .i64 m]).run Tryz.prog u = .ok (.int .i64 (max 0 m)) u := fun ty u => run_max_int u ty 0 m
 generalize max 0 m = mm at *
 generalize l.length = M at *
 clear hA hw
 go_enter Tryz.func64, Tryz.ntmps64
 go_wp2_with fail
 refine CN.out.mono ?_
 rintro r w1 ⟨rfl, b2⟩
 go_wp2_with fail
 go_ret
 exact ⟨rfl, b2⟩
end Gu
end Go.Proofs.YtblfimobiibmjaaGreat
namespace Go.Proofs.YtblfimobiibmjaaGreat
open Go.ChangeShapes Go.WideShapes Go.ChangeAt Go.RowKit
namespace Ba
theorem run_mkG {t e : TypeId} {i : TypeInfo} {z : Value} (ht : Tryz.prog.underlying t = some (.slice e)) (hi : Tryz.prog.info? e = some i) (hz : i.zero = some z) (w : World) (n : Nat) (hb : n * i.bytes ≤ 1000000000) (hn : n ≤ 1000000000) :
 (Instr.makeSlice t (.int .i64 (n : Int)) (.int .i64 (n : Int))).run Tryz.prog w = .ok (.slice (some ⟨w.heap.size, 0, none⟩) n n) (w.alloc (.cells (madeCells z.cells (n * i.size)) e)) := by
 have := run_make (P := Tryz.prog) w t e i z ht hi hz .i64 .i64 n n (by omega) (Int.le_refl _) (by rw [← Int.natCast_mul, Nat.mul_comm]; omega) (by omega)
 rw [Int.toNat_natCast] at this
 exact this
end Ba
end Go.Proofs.YtblfimobiibmjaaGreat
namespace Go.Proofs.YtblfimobiibmjaaGreat
open Go.ChangeShapes Go.WideShapes Go.ChangeAt Go.RowKit
namespace Eg
open En Gu Ba
def edc (l : List Ed) : List Value := l.flatMap fun x => [.int .i64 (x.f : Int), .int .i64 (x.t : Int), .int .i64 (x.r : Int)]
def dlc (l : List (Nat × Nat)) : List Value := l.flatMap fun x => [.int .i64 (x.1 : Int), .int .i64 (x.2 : Int)]
theorem edc_app (l m : List Ed) : edc (l ++ m) = edc l ++ edc m := by simp [edc]
theorem dlc_app (l m : List (Nat × Nat)) : dlc (l ++ m) = dlc l ++ dlc m := by simp [dlc]
theorem edc_one (l : List Ed) : ∀ u ∈ edc l, u.oneCell' = true := by
 intro u hu
 simp only [edc, List.mem_flatMap] at hu
 obtain ⟨e, _, hu⟩ := hu
 simp at hu
 rcases hu with rfl | rfl | rfl <;> rfl
theorem dlc_one (l : List (Nat × Nat)) : ∀ u ∈ dlc l, u.oneCell' = true := by
 intro u hu
 simp only [dlc, List.mem_flatMap] at hu
 obtain ⟨e, _, hu⟩ := hu
 simp at hu
 rcases hu with rfl | rfl <;> rfl
theorem edc_len (l : List Ed) : (edc l).length = l.length * 3 := by
 induction l with
 | nil => rfl
 | cons e l ih => simp [edc] at ih ⊢; omega
theorem dlc_len (l : List (Nat × Nat)) : (dlc l).length = l.length * 2 := by
 induction l with
 | nil => rfl
 | cons e l ih => simp [dlc] at ih ⊢; omega
theorem edc_at : ∀ (l : List Ed) (k : Nat) (x : Ed), l[k]? = some x → (edc l)[k * 3]? = some (.int .i64 (x.f : Int)) ∧ (edc l)[k * 3 + 1]? = some (.int .i64 (x.t : Int)) ∧ (edc l)[k * 3 + 2]? = some (.int .i64 (x.r : Int))
 | [], _, _, hk => by simp at hk
 | y :: l, 0, x, hk => by
   simp at hk
   subst hk
   exact ⟨rfl, rfl, rfl⟩
 | y :: l, k + 1, x, hk => by
   obtain ⟨a, b, c⟩ := edc_at l k x (by simpa using hk)
   have e : edc (y :: l) = .int .i64 (y.f : Int) :: .int .i64 (y.t : Int) :: .int .i64 (y.r : Int) :: edc l := rfl
   rw [e, show (k + 1) * 3 = k * 3 + 1 + 1 + 1 by omega]
   exact ⟨a, b, c⟩
theorem dlc_at : ∀ (l : List (Nat × Nat)) (k : Nat) (x : Nat × Nat), l[k]? = some x → (dlc l)[k * 2]? = some (.int .i64 (x.1 : Int)) ∧ (dlc l)[k * 2 + 1]? = some (.int .i64 (x.2 : Int))
 | [], _, _, hk => by simp at hk
 | y :: l, 0, x, hk => by
   simp at hk
   subst hk
   exact ⟨rfl, rfl⟩
 | y :: l, k + 1, x, hk => by
   obtain ⟨a, b⟩ := dlc_at l k x (by simpa using hk)
   have e : dlc (y :: l) = .int .i64 (y.1 : Int) :: .int .i64 (y.2 : Int) :: dlc l := rfl
   rw [e, show (k + 1) * 2 = k * 2 + 1 + 1 by omega]
   exact ⟨a, b⟩
theorem own_keep {w w' : World} {base : Nat} {e : TypeId} {size : Nat} {v : Value} {n : Nat} {xs : List Value} (h : w.ownsRow base e size v n xs) (hk : ∀ g, base ≤ g → g < w.heap.size → w'.heap[g]? = w.heap[g]?) : w'.ownsRow base e size v n xs := by
 refine ⟨h.1, ?_⟩
 rcases h.2 with q | ⟨g, cap, cur, q1, q2, q3, q4⟩
 ·exact .inl q
 ·exact .inr ⟨g, cap, cur, q1, q2, (hk g q2 (heap_lt q3)).trans q3, q4⟩
theorem own_below {w w' : World} {base : Nat} {e : TypeId} {size : Nat} {v : Value} {n : Nat} {xs : List Value} (h : w.ownsRow base e size v n xs) (hb : Below w.heap.size w w') : w'.ownsRow base e size v n xs := own_keep h fun g _ hg => hb.block g hg
theorem own_sl {w : World} {base : Nat} {e : TypeId} {size : Nat} {v : Value} {n : Nat} {xs : List Value} (h : w.ownsRow base e size v n xs) : ∃ oa c, v = .slice oa n c := by
 rcases h.2 with ⟨rfl, rfl⟩ | ⟨b, cap, cur, rfl, _⟩
 ·exact ⟨none, 0, rfl⟩
 ·exact ⟨_, _, rfl⟩
theorem own_cells {w : World} {base : Nat} {e : TypeId} {size : Nat} {oa : Option Addr} {c n : Nat} {xs : List Value} (h : w.ownsRow base e size (.slice oa n c) n xs) (hn : 0 < n) : ∃ g, oa = some ⟨g, 0, none⟩ ∧ base ≤ g ∧ g < w.heap.size ∧ ∀ j u, xs[j]? = some u → w.cell? ⟨g, j, none⟩ = some u := by
 rcases h.2 with ⟨_, q⟩ | ⟨g, cap, cur, q1, q2, q3, q4, q5, q6, q7⟩
 ·omega
 ·cases q1
  refine ⟨g, rfl, q2, heap_lt q3, fun j u hj => ?_⟩
  have hl := (List.getElem?_eq_some_iff.1 hj).1
  rw [cell_of q3]
  rw [← q7, List.getElem?_take] at hj
  split at hj
  ·simpa using hj
  ·cases hj
theorem grown_below {w w' : World} {base : Nat} {v : Value} (hg : w.grownBy w' v.ownBlock) (hv : ∀ g, v.ownBlock = some g → base ≤ g) (hb : base ≤ w.heap.size) : Below base w w' := by
 refine ⟨hg.os, hg.tape, hg.output, hg.size, fun k hk => hg.block k (by omega) (fun q => ?_)⟩
 have := hv k q.symm
 omega
theorem own_base {w : World} {base : Nat} {e : TypeId} {size : Nat} {v : Value} {n : Nat} {xs : List Value} (h : w.ownsRow base e size v n xs) : ∀ g, v.ownBlock = some g → base ≤ g := by
 intro g hg
 rcases h.2 with ⟨rfl, _⟩ | ⟨b, cap, cur, rfl, q, _⟩
 ·simp [Value.ownBlock] at hg
 ·simp [Value.ownBlock] at hg
  omega
theorem info_ed0 : (Tryz.prog.info? 70).map (fun i => (i.zero, i.size, i.bytes)) = some (some (.agg #[.int .i64 0, .int .i64 0, .int .i64 0]), 3, 24) := by kernel_rfl
theorem info_dt0 : (Tryz.prog.info? 125).map (fun i => (i.zero, i.size, i.bytes)) = some (some (.agg #[.int .i64 0, .int .i64 0]), 2, 16) := by kernel_rfl
theorem info_ex {t : TypeId} {z : Value} {s b : Nat} (h : (Tryz.prog.info? t).map (fun i => (i.zero, i.size, i.bytes)) = some (some z, s, b)) : ∃ i0, Tryz.prog.info? t = some i0 ∧ i0.zero = some z ∧ i0.size = s ∧ i0.bytes = b := by
 cases hi : Tryz.prog.info? t with
 | none => rw [hi] at h; cases h
 | some i0 =>
   rw [hi] at h
   simp at h
   exact ⟨i0, rfl, h⟩
theorem app_ed (w : World) (base : Nat) (v : Value) (l fs : List Ed) (n : Nat) (hn : n = l.length) (hown : w.ownsRow base 70 3 v n (edc l)) (a : Addr) (m cc : Nat) (hm : m = fs.length) (hnews : ∀ j u, (edc fs)[j]? = some u → w.cell? (a.add j) = some u) (hl : n + m ≤ 100000000) (hb : base ≤ w.heap.size) :
 ∃ ea' c' w', (Builtin.append_ #[24, 24] 24 #[v, .slice (some a) m cc]).run Tryz.prog w = .ok (.slice ea' (n + m) c') w' ∧ w'.ownsRow base 70 3 (.slice ea' (n + m) c') (n + m) (edc (l ++ fs)) ∧ w.grownBy w' v.ownBlock ∧ Below base w w' := by
 obtain ⟨i0, hi, hz, hs, hby⟩ := info_ex info_ed0
 obtain ⟨v', w', hr, ho, hg, _, _⟩ := run_append_own_at (P := Tryz.prog) w base 24 24 70 i0 _ 3 24 Tryz.underlying24 hi hz hs hby rfl (by decide) _ _ _ hown a m cc (edc fs) (by rw [edc_len, hm]) hnews (edc_one _) (by unfold maxLen; omega) (by omega) hb
 rw [← edc_app] at ho
 obtain ⟨ea', c', rfl⟩ := own_sl ho
 exact ⟨ea', c', w', hr, ho, hg, grown_below hg (own_base hown) hb⟩
theorem app_dl (w : World) (base : Nat) (v : Value) (l fs : List (Nat × Nat)) (n : Nat) (hn : n = l.length) (hown : w.ownsRow base 125 2 v n (dlc l)) (a : Addr) (m cc : Nat) (hm : m = fs.length) (hnews : ∀ j u, (dlc fs)[j]? = some u → w.cell? (a.add j) = some u) (hl : n + m ≤ 100000) (hb : base ≤ w.heap.size) :
 ∃ ea' c' w', (Builtin.append_ #[121, 121] 121 #[v, .slice (some a) m cc]).run Tryz.prog w = .ok (.slice ea' (n + m) c') w' ∧ w'.ownsRow base 125 2 (.slice ea' (n + m) c') (n + m) (dlc (l ++ fs)) ∧ w.grownBy w' v.ownBlock ∧ Below base w w' ∧ ((Value.slice ea' (n + m) c').ownBlock = v.ownBlock ∨ (Value.slice ea' (n + m) c').ownBlock = some w.heap.size) := by
 obtain ⟨i0, hi, hz, hs, hby⟩ := info_ex info_dt0
 obtain ⟨v', w', hr, ho, hg, _, hat⟩ := run_append_own_at (P := Tryz.prog) w base 121 121 125 i0 _ 2 16 Tryz.underlying121 hi hz hs hby rfl (by decide) _ _ _ hown a m cc (dlc fs) (by rw [dlc_len, hm]) hnews (dlc_one _) (by unfold maxLen; omega) (by omega) hb
 rw [← dlc_app] at ho
 obtain ⟨ea', c', rfl⟩ := own_sl ho
 exact ⟨ea', c', w', hr, ho, hg, grown_below hg (own_base hown) hb, hat⟩
theorem mk_ed (w : World) (n : Nat) (hn : n ≤ 100000) : (Instr.makeSlice 24 (.int .i64 (n : Int)) (.int .i64 (n : Int))).run Tryz.prog w = .ok (.slice (some ⟨w.heap.size, 0, none⟩) n n) (w.alloc (.cells (madeCells #[.int .i64 0, .int .i64 0, .int .i64 0] (n * 3)) 70)) := by
 obtain ⟨i0, hi, hz, hs, hby⟩ := info_ex info_ed0
 have := run_mkG (Tryz.underlying24) hi hz w n (by rw [hby]; omega) (by omega)
 rw [hs] at this
 exact this
theorem made3 (n g : Nat) (h : g < n) : (madeCells #[Value.int .i64 0, .int .i64 0, .int .i64 0] (n * 3))[g * 3]? = some (.int .i64 0) ∧ (madeCells #[Value.int .i64 0, .int .i64 0, .int .i64 0] (n * 3))[g * 3 + 1]? = some (.int .i64 0) ∧ (madeCells #[Value.int .i64 0, .int .i64 0, .int .i64 0] (n * 3))[g * 3 + 2]? = some (.int .i64 0) := by
 unfold madeCells
 have e0 : (g * 3) % 3 = 0 := by omega
 have e1 : (g * 3 + 1) % 3 = 1 := by omega
 have e2 : (g * 3 + 2) % 3 = 2 := by omega
 have h0 : g * 3 < n * 3 := by omega
 have h1 : g * 3 + 1 < n * 3 := by omega
 have h2 : g * 3 + 2 < n * 3 := by omega
 simp [e0, e1, e2, h0, h1, h2]
end Eg
end Go.Proofs.YtblfimobiibmjaaGreat
namespace Go.Proofs.YtblfimobiibmjaaGreat
open Go.ChangeShapes Go.WideShapes Go.ChangeAt Go.RowKit
namespace Eg
open En Gu Ba
theorem there_le (l : List Ev) : there l ≤ l.length + 1 := by
 unfold there
 have := List.countP_le_length (p := fun x : Ev => decide (x.k = 1)) (l := l)
 omega
theorem gor_take {l : List Ev} (h : Tok l) (hl : l.length ≤ 2000) : ∀ i, i ≤ l.length → max 1 (Gc.cntF (fun e => e.k == 1) (fun e => e.m) (l.take i)) = (there (l.take i) : Int)
 | 0, _ => by
   show max (1 : Int) 0 = 1
   decide
 | i + 1, hi => by
   obtain ⟨e, he⟩ : ∃ e, l[i]? = some e := ⟨_, List.getElem?_eq_getElem (by omega)⟩
   have ih := gor_take h hl i (by omega)
   rw [Gc.cntF_take _ _ _ _ _ he, there_take he]
   unfold Gc.cntS
   have hb := there_le (l.take i)
   have hb2 : (l.take i).length ≤ 2000 := by rw [List.length_take]; omega
   by_cases hk : e.k = 1
   ·have hm := h.cw.m he hk
    simp only [hk, beq_self_eq_true, true_and, if_true]
    rw [if_pos (by rw [hm]; omega), hm]
    omega
   ·have hk2 : (e.k == 1) = false := by simp [hk]
    simp only [hk2, if_neg hk, Bool.false_eq_true, false_and, if_false]
    omega
theorem gor_is {l : List Ev} (h : Tok l) (hl : l.length ≤ 2000) : max 1 (Gc.cntF (fun e => e.k == 1) (fun e => e.m) l) = (there l : Int) := by
 have := gor_take h hl l.length (Nat.le_refl _)
 rwa [List.take_length] at this
theorem mkN_le (l : List Ev) : mkN l ≤ l.length := List.countP_le_length
theorem mkN_take {l : List Ev} {i : Nat} {e : Ev} (h : l[i]? = some e) : mkN (l.take (i + 1)) = mkN (l.take i) + if e.k = 2 then 1 else 0 := by
 rw [take_succ h]
 unfold mkN
 simp only [List.countP_append, List.countP_cons, List.countP_nil, decide_eq_true_eq]
 omega
theorem Tok.make {l : List Ev} (h : Tok l) {i : Nat} {e : Ev} (he : l[i]? = some e) : (e.k = 2 → e.c = (mkN (l.take i) : Int)) ∧ (e.k ≠ 2 → e.c < (mkN (l.take i) : Int)) := by
 have q := (h.at he).md
 unfold made at q
 constructor
 ·intro hk
  rw [if_pos hk] at q
  simpa [mkN] using q
 ·intro hk
  rw [if_neg hk] at q
  simpa [mkN] using q
theorem chn_take {l : List Ev} (h : Tok l) (hl : l.length ≤ 2000) : ∀ i, i ≤ l.length → max 0 (Gc.cntF (fun e => e.k == 2) (fun e => e.c) (l.take i)) = (mkN (l.take i) : Int)
 | 0, _ => by simp [Gc.cntF, mkN]
 | i + 1, hi => by
   obtain ⟨e, he⟩ : ∃ e, l[i]? = some e := ⟨_, List.getElem?_eq_getElem (by omega)⟩
   have ih := chn_take h hl i (by omega)
   rw [Gc.cntF_take _ _ _ _ _ he, mkN_take he]
   unfold Gc.cntS
   have hb := mkN_le (l.take i)
   have hb2 : (l.take i).length ≤ 2000 := by rw [List.length_take]; omega
   by_cases hk : e.k = 2
   ·have hm := (h.make he).1 hk
    simp only [hk, beq_self_eq_true, true_and, if_true]
    rw [if_pos (by rw [hm]; omega), hm]
    omega
   ·have hk2 : (e.k == 2) = false := by simp [hk]
    simp only [hk2, if_neg hk, Bool.false_eq_true, false_and, if_false]
    omega
theorem chn_is {l : List Ev} (h : Tok l) (hl : l.length ≤ 2000) : max 0 (Gc.cntF (fun e => e.k == 2) (fun e => e.c) l) = (mkN l : Int) := by
 have := chn_take h hl l.length (Nat.le_refl _)
 rwa [List.take_length] at this
theorem Tok.gl {l : List Ev} (h : Tok l) {i : Nat} {e : Ev} (he : l[i]? = some e) (hk : e.k ≠ 13) : ∃ g : Nat, e.g = (g : Int) ∧ g < there l := by
 have h0 := h.cw.g i e he hk
 have h1 := h.cw.lt he hk
 have hi := (List.getElem?_eq_some_iff.1 he).1
 have := there_mono l (i := i) (j := l.length) (by omega)
 rw [List.take_length] at this
 exact ⟨e.g.toNat, by omega, by omega⟩
theorem Tok.ml {l : List Ev} (h : Tok l) {i : Nat} {e : Ev} (he : l[i]? = some e) (hk : e.k = 1) : ∃ g : Nat, e.m = (g : Int) ∧ g < there l := by
 have h1 := h.cw.m he hk
 have hi := (List.getElem?_eq_some_iff.1 he).1
 have := there_mono l (i := i + 1) (j := l.length) (by omega)
 rw [List.take_length, there_take he, if_pos hk] at this
 exact ⟨there (l.take i), h1, by omega⟩
theorem Tok.cl_ {l : List Ev} (h : Tok l) {i : Nat} {e : Ev} (he : l[i]? = some e) (hc : 0 ≤ e.c) : ∃ c : Nat, e.c = (c : Int) ∧ c < mkN l := by
 have hi := (List.getElem?_eq_some_iff.1 he).1
 have m1 := mkN_mono l (i := i + 1) (j := l.length) (by omega)
 rw [List.take_length, mkN_take he] at m1
 obtain ⟨a, b⟩ := h.make he
 by_cases hk : e.k = 2
 ·have := a hk
  rw [if_pos hk] at m1
  exact ⟨mkN (l.take i), this, by omega⟩
 ·have := b hk
  exact ⟨e.c.toNat, by omega, by omega⟩
theorem hw_g {l : List Ev} (h : Tok l) (i : Nat) (e : Ev) (he : l[i]? = some e) (_ : e.k = 1) : -9223372036854775808 ≤ e.m := by
 have := (h.at he).fit.m
 omega
theorem hw_c {l : List Ev} (h : Tok l) (i : Nat) (e : Ev) (he : l[i]? = some e) (hk : e.k = 2) : -9223372036854775808 ≤ e.c := by
 have := (h.at he).fit.c (.inl hk)
 omega
end Eg
end Go.Proofs.YtblfimobiibmjaaGreat
namespace Go.Proofs.YtblfimobiibmjaaGreat
open Go.ChangeShapes Go.WideShapes Go.ChangeAt Go.RowKit
namespace Eg
open En Gu Ba
def cmpI (x y : Int) : Int := if x < y then -1 else if y < x then 1 else 0
theorem nan_any (x : Int) (w : World) : Calls Tryz.prog 131 #[.int .i64 x] w fun r w' => r = .returned (.bool false) ∧ w' = w := by
 have d : (x != x) = false := by simp
 go_enter Tryz.func131, Tryz.ntmps131
 go_wp2_with fail
 go_ret
 exact ⟨rfl, rfl⟩
set_option maxRecDepth 100000 in
set_option maxHeartbeats 1600000 in
theorem cmp_any (x y : Int) (w : World) : Calls Tryz.prog 71 #[.int .i64 x, .int .i64 y] w fun r w' => r = .returned (.int .i64 (cmpI x y)) ∧ w' = w := by
 have N1 := hide (nan_any x w)
 have N2 := hide (nan_any y w)
 rcases Int.lt_trichotomy x y with h | h | h
 ·have e : cmpI x y = -1 := by unfold cmpI; rw [if_pos h]
  rw [e]
  have d1 : decide (x < y) = true := by simp [h]
  clear e h
  go_enter Tryz.func71, Tryz.ntmps71
  go_wp2_with fail
  refine N1.out.mono ?_
  rintro r w1 ⟨rfl, rfl⟩
  go_wp2_with fail
  refine N2.out.mono ?_
  rintro r w2 ⟨rfl, rfl⟩
  go_wp2_with fail
  go_ret
  exact ⟨rfl, rfl⟩
 ·have e : cmpI x y = 0 := by unfold cmpI; rw [if_neg (by omega), if_neg (by omega)]
  rw [e]
  have d1 : decide (x < y) = false := by simp; omega
  have d2 : decide (x > y) = false := by simp; omega
  clear e h
  go_enter Tryz.func71, Tryz.ntmps71
  go_wp2_with fail
  refine N1.out.mono ?_
  rintro r w1 ⟨rfl, rfl⟩
  go_wp2_with fail
  refine N2.out.mono ?_
  rintro r w2 ⟨rfl, rfl⟩
  go_wp2_with fail
  go_ret
  exact ⟨rfl, rfl⟩
 ·have e : cmpI x y = 1 := by unfold cmpI; rw [if_neg (by omega), if_pos h]
  rw [e]
  have d1 : decide (x < y) = false := by simp; omega
  have d2 : decide (x > y) = true := by simp; omega
  clear e h
  go_enter Tryz.func71, Tryz.ntmps71
  go_wp2_with fail
  refine N1.out.mono ?_
  rintro r w1 ⟨rfl, rfl⟩
  go_wp2_with fail
  refine N2.out.mono ?_
  rintro r w2 ⟨rfl, rfl⟩
  go_wp2_with fail
  go_ret
  exact ⟨rfl, rfl⟩
def or3 (a b c : Int) : Int := if a ≠ 0 then a else if b ≠ 0 then b else c
set_option maxRecDepth 100000 in
set_option maxHeartbeats 1600000 in
theorem or_any (B : Nat) (a b c : Int) (w : World) (h0 : w.cell? ⟨B, 0, none⟩ = some (.int .i64 a)) (h1 : w.cell? ⟨B, 1, none⟩ = some (.int .i64 b)) (h2 : w.cell? ⟨B, 2, none⟩ = some (.int .i64 c)) :
 Calls Tryz.prog 70 #[.slice (some ⟨B, 0, none⟩) 3 3] w fun r w' => r = .returned (.int .i64 (or3 a b c)) ∧ w' = w := by
 have H0 := hide h0
 have H1 := hide h1
 have H2 := hide h2
 clear h0 h1 h2
 go_enter Tryz.func70, Tryz.ntmps70
 go_wp2_with fail
 go_loopw [8] (fun iv wr => ∃ k : Nat, k ≤ 3 ∧ iv = .int .i64 k ∧ wr = w ∧ (0 < k → a = 0) ∧ (1 < k → b = 0) ∧ (2 < k → c = 0)) (fun iv _ => 3 - (intOf iv).toNat)
 case atStart => exact ⟨0, by omega, rfl, rfl, by omega, by omega, by omega⟩
 case round =>
  obtain ⟨k, hk, rfl, rfl, q0, q1, q2⟩ := hrel
  have Q0 := hide q0
  have Q1 := hide q1
  have Q2 := hide q2
  clear q0 q1 q2
  by_cases hlt : k < 3
  ·obtain ⟨x, hx, hc, hz, hy⟩ : ∃ x : Int, wr.cell? ⟨B, k, none⟩ = some (.int .i64 x) ∧ Hid (x ≠ 0 → or3 a b c = x) ∧ Hid (x = 0 → (0 < k + 1 → a = 0) ∧ (1 < k + 1 → b = 0) ∧ (2 < k + 1 → c = 0)) ∧ True := by
    obtain rfl | rfl | rfl : k = 0 ∨ k = 1 ∨ k = 2 := by omega
    ·exact ⟨a, H0.out, (fun hx => by unfold or3; rw [if_pos hx]), (fun hx => ⟨fun _ => hx, by omega, by omega⟩), trivial⟩
    ·exact ⟨b, H1.out, (fun hx => by unfold or3; rw [if_neg (by simpa using Q0.out (by omega)), if_pos hx]), (fun hx => ⟨fun _ => Q0.out (by omega), fun _ => hx, by omega⟩), trivial⟩
    ·exact ⟨c, H2.out, (fun hx => by unfold or3; rw [if_neg (by simpa using Q0.out (by omega)), if_neg (by simpa using Q1.out (by omega))]), (fun hx => ⟨fun _ => Q0.out (by omega), fun _ => Q1.out (by omega), fun _ => hx⟩), trivial⟩
   have k0 : (0 : Int) ≤ (k : Int) := by omega
   have k1 : (k : Int) < 3 := by omega
   by_cases hx0 : x = 0
   ·have d : (x != 0) = false := by simp [hx0]
    have hz' := hide (hz.out hx0)
    clear hx0 hz hc
    go_wp2_with fail
    go_roundw
    case rel => exact ⟨k + 1, by omega, by simp, trivial, hz'.out.1, hz'.out.2.1, hz'.out.2.2⟩
    case measure => simp [intOf]; omega
   ·have d : (x != 0) = true := by simp [hx0]
    have hc' := hide (hc.out hx0)
    clear hx0 hz hc
    go_wp2_with fail
    go_ret
    exact ⟨by rw [hc'.out]; rfl, rfl⟩
  ·have d : decide ((k : Int) < 3) = false := by simp; omega
   have e : or3 a b c = 0 := by
    unfold or3
    rw [if_neg (by simpa using Q0.out (by omega)), if_neg (by simpa using Q1.out (by omega)), Q2.out (by omega)]
   have E := hide e
   clear e
   go_wp2_with fail
   go_ret
   exact ⟨by rw [E.out]; rfl, rfl⟩
def cmpE (x y : Ed) : Int := or3 (cmpI x.t y.t) (cmpI x.f y.f) (cmpI x.r y.r)
def edv (x : Ed) : Value := .agg #[.int .i64 (x.f : Int), .int .i64 (x.t : Int), .int .i64 (x.r : Int)]
set_option maxRecDepth 100000 in
set_option maxHeartbeats 3200000 in
theorem ecmp_any (x y : Ed) (w : World) : Calls Tryz.prog 38 #[edv x, edv y] w fun r w' => r = .returned (.int .i64 (cmpE x y)) ∧ ∃ q os', w' = Go.Sort.grow (w.drewN q) os' := by
 have CM := hide fun a b u => cmp_any a b u
 have OA := hide fun B a b c u => or_any B a b c u
 unfold edv cmpE
 obtain ⟨c1, hc1⟩ : ∃ c, cmpI x.t y.t = c := ⟨_, rfl⟩
 obtain ⟨c2, hc2⟩ : ∃ c, cmpI x.f y.f = c := ⟨_, rfl⟩
 obtain ⟨c3, hc3⟩ : ∃ c, cmpI x.r y.r = c := ⟨_, rfl⟩
 have C1 := hide fun u => cmp_any x.t y.t u
 have C2 := hide fun u => cmp_any x.f y.f u
 have C3 := hide fun u => cmp_any x.r y.r u
 rw [hc1, hc2, hc3]
 rw [hc1] at C1
 rw [hc2] at C2
 rw [hc3] at C3
 clear hc1 hc2 hc3
 obtain ⟨xf, xt, xr⟩ := x
 obtain ⟨yf, yt, yr⟩ := y
 simp only at *
 obtain ⟨W, hW⟩ : ∃ W, (w.alloc (.cells #[.int .i64 (xf : Int), .int .i64 (xt : Int), .int .i64 (xr : Int)] 70)).alloc (.cells #[.int .i64 (yf : Int), .int .i64 (yt : Int), .int .i64 (yr : Int)] 70) = W := ⟨_, rfl⟩
 go_enter Tryz.func38, Tryz.ntmps38
 go_wp2_with fail
 have X0 : W.heap[w.heap.size]? = some (.cells #[.int .i64 (xf : Int), .int .i64 (xt : Int), .int .i64 (xr : Int)] 70) := by rw [← hW]; exact heap_below (heap_new w _) (below_alloc _ _)
 have Y0 : W.heap[w.heap.size + 1]? = some (.cells #[.int .i64 (yf : Int), .int .i64 (yt : Int), .int .i64 (yr : Int)] 70) := by rw [← hW, ← World.size_alloc w (.cells #[.int .i64 (xf : Int), .int .i64 (xt : Int), .int .i64 (xr : Int)] 70)]; exact (heap_new _ _)
 have WG : Hid (W = Go.Sort.grow w #[.cells #[.int .i64 (xf : Int), .int .i64 (xt : Int), .int .i64 (xr : Int)] 70, .cells #[.int .i64 (yf : Int), .int .i64 (yt : Int), .int .i64 (yr : Int)] 70]) := by
  show W = _
  rw [← hW, Go.Sort.alloc_eq_grow, Go.Sort.alloc_eq_grow, Go.Sort.grow_grow]
  rfl
 have x0 : W.cell? ⟨w.heap.size, 0, none⟩ = some (.int .i64 (xf : Int)) := cell_of X0 0
 have x1 : W.cell? ⟨w.heap.size, 1, none⟩ = some (.int .i64 (xt : Int)) := cell_of X0 1
 have x2 : W.cell? ⟨w.heap.size, 2, none⟩ = some (.int .i64 (xr : Int)) := cell_of X0 2
 have y0 : W.cell? ⟨w.heap.size + 1, 0, none⟩ = some (.int .i64 (yf : Int)) := cell_of Y0 0
 have y1 : W.cell? ⟨w.heap.size + 1, 1, none⟩ = some (.int .i64 (yt : Int)) := cell_of Y0 1
 have y2 : W.cell? ⟨w.heap.size + 1, 2, none⟩ = some (.int .i64 (yr : Int)) := cell_of Y0 2
 clear X0 Y0 hW
 go_region_held3 (fun w' => w'.cell? ⟨w.heap.size, 0, none⟩ = some (.int .i64 (xf : Int)) ∧ w'.cell? ⟨w.heap.size, 1, none⟩ = some (.int .i64 (xt : Int)) ∧ w'.cell? ⟨w.heap.size, 2, none⟩ = some (.int .i64 (xr : Int)) ∧ w'.cell? ⟨w.heap.size + 1, 0, none⟩ = some (.int .i64 (yf : Int)) ∧ w'.cell? ⟨w.heap.size + 1, 1, none⟩ = some (.int .i64 (yt : Int)) ∧ w'.cell? ⟨w.heap.size + 1, 2, none⟩ = some (.int .i64 (yr : Int)))
  (go_keep)
  (first
    | (go_at_call_of 71 (Value.int IntKind.i64 (xt : Int)); refine (C1.out _).mono ?_; rintro r u ⟨rfl, rfl⟩)
    | (go_at_call_of 71 (Value.int IntKind.i64 (xf : Int)); refine (C2.out _).mono ?_; rintro r u ⟨rfl, rfl⟩)
    | (go_at_call_of 71 (Value.int IntKind.i64 (xr : Int)); refine (C3.out _).mono ?_; rintro r u ⟨rfl, rfl⟩)
    | (go_at_call 70; refine (OA.out _ c1 c2 c3 _ (by simp) (by simp) (by simp)).mono ?_; rintro r u ⟨rfl, rfl⟩))
 obtain ⟨OS, WE⟩ : ∃ OS, W = Go.Sort.grow w OS := ⟨_, WG.out⟩
 go_wp2_with fail
 go_ret
 refine ⟨rfl, 1, OS ++ #[.cells #[.int .i64 c1, .int .i64 c2, .int .i64 c3] 3], ?_⟩
 rw [WE, Go.Sort.alloc_eq_grow, Go.Sort.grow_grow, Go.Sort.drew_grow]
 rfl
end Eg
end Go.Proofs.YtblfimobiibmjaaGreat
namespace Go.Proofs.YtblfimobiibmjaaGreat
open Go.ChangeShapes Go.WideShapes Go.ChangeAt Go.RowKit
namespace Eg
open En Gu Ba
theorem grown_refl (w : World) (o : Option Nat) : w.grownBy w o := ⟨rfl, rfl, rfl, Nat.le_refl _, fun _ _ _ => rfl⟩
theorem grown_more {w W : World} {o : Option Nat} (h : w.grownBy W none) : w.grownBy W o := ⟨h.os, h.tape, h.output, h.size, fun k hk _ => h.block k hk (by simp)⟩
theorem grown_of {w W : World} (h : Below w.heap.size w W) : w.grownBy W none := ⟨h.os, h.tape, h.output, h.size, fun k hk _ => h.block k hk⟩
theorem below_of {w W : World} (h : w.grownBy W none) : Below w.heap.size w W := ⟨h.os, h.tape, h.output, h.size, fun k hk => h.block k hk (by simp)⟩
def Ow (w : World) (B : Nat) (v : Value) (l : List Ed) : Prop := w.ownsRow B 70 3 v l.length (edc l)
theorem Ow.sl {w : World} {B : Nat} {v : Value} {l : List Ed} (h : Ow w B v l) : ∃ oa c, v = .slice oa l.length c ∧ l.length ≤ c ∧ c ≤ maxLen := by
 rcases h.2 with ⟨rfl, h0⟩ | ⟨g, cap, cur, rfl, -, -, h1, h2, -⟩
 ·exact ⟨none, 0, by rw [h0], by omega, Nat.zero_le _⟩
 ·exact ⟨_, _, rfl, h1, h2⟩
theorem Ow.cell {w : World} {B : Nat} {oa : Option Addr} {c k : Nat} {l : List Ed} {x : Ed} (h : Ow w B (.slice oa l.length c) l) (hk : l[k]? = some x) :
 ∃ g, oa = some ⟨g, 0, none⟩ ∧ w.cell? ⟨g, k * 3, none⟩ = some (.int .i64 (x.f : Int)) ∧ w.cell? ⟨g, k * 3 + 1, none⟩ = some (.int .i64 (x.t : Int)) ∧ w.cell? ⟨g, k * 3 + 2, none⟩ = some (.int .i64 (x.r : Int)) := by
 have hl := (List.getElem?_eq_some_iff.1 hk).1
 obtain ⟨g, rfl, -, -, hc⟩ := own_cells h (by omega)
 obtain ⟨a, b, d⟩ := edc_at l k x hk
 exact ⟨g, rfl, hc _ _ a, hc _ _ b, hc _ _ d⟩
theorem Ow.mono {w : World} {B B' : Nat} {v : Value} {l : List Ed} (h : Ow w B v l) (hb : B' ≤ B) : Ow w B' v l := by
 refine ⟨h.1, ?_⟩
 rcases h.2 with q | ⟨g, cap, cur, q1, q2, q3⟩
 ·exact .inl q
 ·exact .inr ⟨g, cap, cur, q1, by omega, q3⟩
theorem Ow.below {w w' : World} {B : Nat} {v : Value} {l : List Ed} (h : Ow w B v l) (hb : Below w.heap.size w w') : Ow w' B v l := own_below h hb
theorem Ow.nil (w : World) (B : Nat) : Ow w B (.slice none 0 0) [] := ⟨rfl, .inl ⟨rfl, rfl⟩⟩
def idx (p : Ed → Bool) (l : List Ed) : Int := match l.findIdx? p with | some i => (i : Int) | none => -1
theorem idx_none {p : Ed → Bool} {l : List Ed} (h : ∀ (j : Nat) x, l[j]? = some x → p x = false) : idx p l = -1 := by
 have : l.findIdx? p = none := by
  rw [List.findIdx?_eq_none_iff]
  intro x hx
  obtain ⟨j, hj⟩ := List.getElem?_of_mem hx
  exact h j x hj
 simp [idx, this]
theorem idx_some {p : Ed → Bool} {l : List Ed} {k : Nat} {y : Ed} (hk : l[k]? = some y) (h : ∀ (j : Nat) x, j < k → l[j]? = some x → p x = false) (hp : p y = true) : idx p l = (k : Int) := by
 obtain ⟨hk', e⟩ := List.getElem?_eq_some_iff.1 hk
 have : l.findIdx? p = some k := by
  rw [List.findIdx?_eq_some_iff_getElem]
  refine ⟨hk', by rw [e]; exact hp, fun j hj => ?_⟩
  have := h j l[j] hj (List.getElem?_eq_getElem (by omega))
  simp [this]
 simp [idx, this]
def Tell (n : FuncId) (caps : Array Value) (p : Ed → Bool) (W : World) : Prop := ∀ x : Ed, Calls Tryz.prog n (#[edv x] ++ caps) W fun r w' => r = .returned (.bool (p x)) ∧ W.grownBy w' none
set_option maxRecDepth 100000 in
set_option maxHeartbeats 1600000 in
theorem index_any (n : FuncId) (caps : Array Value) (hn : ∀ (a : Array Value) (u : World), (callFunc n a).run Tryz.prog u = .ok (.enter n a) u) (p : Ed → Bool) (B : Nat) (v : Value) (l : List Ed) (w : World)
 (ho : Ow w B v l) (hl : l.length ≤ 100000000) (hp : ∀ W, w.grownBy W none → Tell n caps p W) :
 Calls Tryz.prog 81 #[v, .func (.func n) #[] caps] w fun r w' => r = .returned (.int .i64 (idx p l)) ∧ w.grownBy w' none := by
 obtain ⟨oa, c, rfl, -, -⟩ := ho.sl
 have HO := hide ho
 have HP := hide hp
 unfold Tell edv at HP
 obtain ⟨L, hL⟩ : ∃ L, l.length = L := ⟨_, rfl⟩
 have HL := hide hL
 rw [hL] at hl
 rw [hL]
 clear ho hp hL
 go_enter Tryz.func81, Tryz.ntmps81
 go_wp2_with fail
 go_loopw [8] (fun i wr => ∃ k : Nat, k ≤ L ∧ i = .int .i64 k ∧ w.grownBy wr none ∧ ∀ (j : Nat) x, j < k → l[j]? = some x → p x = false) (fun i _ => L - (intOf i).toNat)
 case atStart => exact ⟨0, Nat.zero_le _, rfl, grown_refl _ _, fun j x hj => absurd hj (Nat.not_lt_zero _)⟩
 case round =>
  obtain ⟨k, hk, rfl, hg, hall⟩ := hrel
  have HA := hide hall
  have HG := hide hg
  have HB := hide (below_of hg)
  clear hall hg
  by_cases hlt : k < L
  ·have hlt' : (k : Int) < (L : Int) := by omega
   have k0 : (0 : Int) ≤ (k : Int) := by omega
   obtain ⟨x, hx⟩ : ∃ x, l[k]? = some x := ⟨_, List.getElem?_eq_getElem (by rw [HL.out]; omega)⟩
   obtain ⟨g, rfl, c0, c1, c2⟩ := (HO.out.below HB.out).cell hx
   have CL := hide (HP.out wr HG.out x)
   have HX := hide hx
   clear hx
   cases hpk : p x
   ·have HK := hide hpk
    rw [hpk] at CL
    clear hpk
    go_wp2_with fail
    refine CL.out.mono ?_
    rintro r w1 ⟨rfl, e1⟩
    have G1 := hide (HG.out.trans e1)
    clear e1
    go_wp2_with fail
    go_roundw
    case rel => exact ⟨k + 1, by omega, by go_num, G1.out, fun j y hj hy => by
     by_cases e : j = k
     ·rw [e, HX.out] at hy; cases hy; exact HK.out
     ·exact HA.out j y (by omega) hy⟩
    case measure => simp [intOf]; omega
   ·have HK := hide hpk
    rw [hpk] at CL
    clear hpk
    go_wp2_with fail
    refine CL.out.mono ?_
    rintro r w1 ⟨rfl, e1⟩
    have G1 := hide (HG.out.trans e1)
    clear e1
    go_wp2_with fail
    go_ret
    exact ⟨ret_int (idx_some HX.out HA.out HK.out).symm, G1.out⟩
  ·have hlt' : ¬ ((k : Int) < (L : Int)) := by omega
   have HLL := HL
   go_wp2_with fail
   go_ret
   refine ⟨ret_int (idx_none fun j x hj => HA.out j x ?_ hj).symm, HG.out⟩
   have := (List.getElem?_eq_some_iff.1 hj).1
   have := HLL.out
   omega
def put3 (w : World) (A o : Nat) (x y z : Value) : World := ((w.setCell ⟨A, o, none⟩ x).setCell ⟨A, o + 1, none⟩ y).setCell ⟨A, o + 2, none⟩ z
theorem put3_other (w : World) (A o : Nat) (x y z : Value) (k : Nat) (hk : k ≠ A) : (put3 w A o x y z).heap[k]? = w.heap[k]? := by
 unfold put3
 rw [Below.heap_setCell _ _ _ _ hk, Below.heap_setCell _ _ _ _ hk, Below.heap_setCell _ _ _ _ hk]
theorem put3_below {N : Nat} (w : World) (A o : Nat) (x y z : Value) (hA : N ≤ A) : Below N w (put3 w A o x y z) :=
 ⟨rfl, rfl, rfl, by simp [put3, World.setCell], fun k hk => put3_other w A o x y z k (by omega)⟩
theorem heap_cells (b : Nat) : ∀ (vs : List Value) (o : Nat) (w : World) (k : Nat), k ≠ b → (w.setCells b o vs).heap[k]? = w.heap[k]?
 | [], _, _, _, _ => rfl
 | v :: r, o, w, k, h => by
   show ((w.setCell ⟨b, o, none⟩ v).setCells b (o + 1) r).heap[k]? = _
   rw [heap_cells b r _ _ k h]
   simp [World.setCell, Array.getElem?_modify, Ne.symm h]
theorem tape_cells (b : Nat) : ∀ (vs : List Value) (o : Nat) (w : World), (w.setCells b o vs).tape = w.tape ∧ (w.setCells b o vs).heap.size = w.heap.size ∧ (w.setCells b o vs).os = w.os ∧ (w.setCells b o vs).output = w.output
 | [], _, _ => ⟨rfl, rfl, rfl, rfl⟩
 | v :: r, o, w => by
   have ih := tape_cells b r (o + 1) (w.setCell ⟨b, o, none⟩ v)
   refine ⟨ih.1, ih.2.1.trans (by simp [World.setCell]), ih.2.2.1, ih.2.2.2⟩
theorem row_cells (b : Nat) (t : TypeId) (fr : Nat × Nat) : ∀ (vs : List Value) (o : Nat) (cur : Array Value) (w : World), w.heap[b]? = some (.cells cur t fr) →
 ∃ cur', (w.setCells b o vs).heap[b]? = some (.cells cur' t fr) ∧ cur'.size = cur.size ∧ (∀ k, k < o → cur'[k]? = cur[k]?)
 | [], o, cur, w, h => ⟨cur, h, rfl, fun _ _ => rfl⟩
 | v :: r, o, cur, w, h => by
   obtain ⟨cur', h1, h2, h3⟩ := row_cells b t fr r (o + 1) (cur.setIfInBounds o v) (w.setCell ⟨b, o, none⟩ v) (Ba.heap_setCell_same h v)
   refine ⟨cur', h1, by rw [h2, Array.size_setIfInBounds], fun k hk => ?_⟩
   rw [h3 k (by omega), Array.getElem?_setIfInBounds, if_neg (by omega)]
theorem zc_one (n : Nat) : ∀ v ∈ (Builtin.zeroCells (Value.agg #[.int .i64 0, .int .i64 0, .int .i64 0]).cells n).toList, v.oneCell' = true := by
 intro v hv
 simp only [Builtin.zeroCells, Array.toList_map, List.mem_map] at hv
 obtain ⟨i, -, rfl⟩ := hv
 have : i % 3 < 3 := Nat.mod_lt _ (by omega)
 obtain h | h | h : i % 3 = 0 ∨ i % 3 = 1 ∨ i % 3 = 2 := by omega
 all_goals
  show (#[Value.int .i64 0, .int .i64 0, .int .i64 0][i % 3]!).oneCell' = true
  rw [h]
  rfl
theorem zc_len (n : Nat) : (Builtin.zeroCells (Value.agg #[.int .i64 0, .int .i64 0, .int .i64 0]).cells n).toList.length = n * 3 := by
 simp [Builtin.zeroCells, Value.cells]
def zvs (n : Nat) : List Value := (Builtin.zeroCells (Value.agg #[.int .i64 0, .int .i64 0, .int .i64 0]).cells n).toList
theorem run_clear3 (w : World) (ty : TypeId) (b o n c : Nat) (hn : 0 < n) (hc : ∀ j, j < n * 3 → (w.cell? ⟨b, o + j, none⟩).isSome = true) (hf : ∀ j, j < n * 3 → w.frozen? ⟨b, o + j, none⟩ = false) :
 (Builtin.clear_ #[24] ty #[.slice (some ⟨b, o, none⟩) n c]).run Tryz.prog w = .ok (.tuple #[]) (w.setCells b o (zvs n)) := by
 obtain ⟨m, rfl⟩ : ∃ m, n = m + 1 := ⟨n - 1, by omega⟩
 have hst2 := run_storeCells_cells (P := Tryz.prog) b o (zvs (m + 1)) 0 w (by unfold zvs; rw [zc_len]; simpa using hc) (by unfold zvs; rw [zc_len]; simpa using hf) (zc_one (m + 1))
 simp only [Nat.add_zero] at hst2
 have hg : (Builtin.zeroCells (Value.agg #[.int .i64 0, .int .i64 0, .int .i64 0]).cells (m + 1)).toList = zvs (m + 1) := rfl
 generalize zvs (m + 1) = vs2 at hst2 hg ⊢
 simp [Builtin.clear_, run_underlying Tryz.underlying24, hg, hst2]
def fl (p : Ed → Bool) (l : List Ed) (j : Nat) : List Ed := (l.take j).filter fun x => !p x
theorem fl_succ {p : Ed → Bool} {l : List Ed} {j : Nat} {x : Ed} (hx : l[j]? = some x) : fl p l (j + 1) = fl p l j ++ (if p x then [] else [x]) := by
 unfold fl
 rw [List.take_add_one, hx, List.filter_append]
 cases h : p x <;> simp [h]
theorem fl_le (p : Ed → Bool) (l : List Ed) (j : Nat) : (fl p l j).length ≤ j := Nat.le_trans (List.length_filter_le _ _) (by simp; omega)
theorem fl_all (p : Ed → Bool) (l : List Ed) : fl p l l.length = l.filter fun x => !p x := by simp [fl]
theorem fl_pre {p : Ed → Bool} {l : List Ed} {k : Nat} (h : ∀ (j : Nat) x, j < k → l[j]? = some x → p x = false) : fl p l k = l.take k := by
 unfold fl
 rw [List.filter_eq_self]
 intro x hx
 obtain ⟨j, hj⟩ := List.getElem?_of_mem hx
 rw [List.getElem?_take] at hj
 split at hj
 ·have := h j x (by assumption) hj
  simp [this]
 ·cases hj
structure DI (p : Ed → Bool) (l : List Ed) (g cap : Nat) (w W : World) (j : Nat) : Prop where
 ex : ∃ cur, W.heap[g]? = some (.cells cur 70 (0, 0)) ∧ cur.size = cap * 3 ∧ (∀ k, k < (fl p l j).length * 3 → cur[k]? = (edc (fl p l j))[k]?) ∧ ∀ k, j * 3 ≤ k → k < l.length * 3 → cur[k]? = (edc l)[k]?
 gb : w.grownBy W (some g)
 lt : g < w.heap.size
theorem DI.drop {p : Ed → Bool} {l : List Ed} {g cap : Nat} {w W : World} {j : Nat} {x : Ed} (h : DI p l g cap w W j) (hx : l[j]? = some x) (hp : p x = true) : DI p l g cap w W (j + 1) := by
 obtain ⟨cur, h1, h2, h3, h4⟩ := h.ex
 have e : fl p l (j + 1) = fl p l j := by rw [fl_succ hx, hp]; simp
 exact ⟨⟨cur, h1, h2, by rw [e]; exact h3, fun k hk hl => h4 k (by omega) hl⟩, h.gb, h.lt⟩
theorem DI.more {p : Ed → Bool} {l : List Ed} {g cap : Nat} {w W W' : World} {j : Nat} (h : DI p l g cap w W j) (b : W.grownBy W' none) : DI p l g cap w W' j := by
 obtain ⟨cur, h1, h2, h3, h4⟩ := h.ex
 exact ⟨⟨cur, (b.block g (heap_lt h1) (by simp)).trans h1, h2, h3, h4⟩, h.gb.trans (grown_more b), h.lt⟩
theorem DI.keep {p : Ed → Bool} {l : List Ed} {g cap : Nat} {w W : World} {j i : Nat} {x : Ed} (h : DI p l g cap w W j) (hx : l[j]? = some x) (hc : l.length ≤ cap) (hp : p x = false) (hi : (fl p l j).length = i) : DI p l g cap w (put3 W g (i * 3) (.int .i64 (x.f : Int)) (.int .i64 (x.t : Int)) (.int .i64 (x.r : Int))) (j + 1) := by
 subst hi
 obtain ⟨cur, h1, h2, h3, h4⟩ := h.ex
 have hj := (List.getElem?_eq_some_iff.1 hx).1
 have hle := fl_le p l j
 have e : fl p l (j + 1) = fl p l j ++ [x] := by rw [fl_succ hx, hp]; simp
 have el : (fl p l (j + 1)).length = (fl p l j).length + 1 := by rw [e]; simp
 have ee : edc (fl p l (j + 1)) = edc (fl p l j) ++ [.int .i64 (x.f : Int), .int .i64 (x.t : Int), .int .i64 (x.r : Int)] := by rw [e, edc_app]; rfl
 have le := edc_len (fl p l j)
 refine ⟨⟨_, Ba.heap_setCell_same (Ba.heap_setCell_same (Ba.heap_setCell_same h1 _) _) _, by simp [h2], fun k hk => ?_, fun k hk hl => ?_⟩, ?_, h.lt⟩
 ·show (((cur.setIfInBounds _ _).setIfInBounds _ _).setIfInBounds _ _)[k]? = _
  rw [el] at hk
  rw [ee]
  rcases Nat.lt_or_ge k ((fl p l j).length * 3) with q | q
  ·rw [Array.getElem?_setIfInBounds_ne (by omega), Array.getElem?_setIfInBounds_ne (by omega), Array.getElem?_setIfInBounds_ne (by omega), h3 k q, List.getElem?_append_left (by omega)]
  ·rw [List.getElem?_append_right (by omega), le]
   obtain r | r | r : k = (fl p l j).length * 3 ∨ k = (fl p l j).length * 3 + 1 ∨ k = (fl p l j).length * 3 + 2 := by omega
   ·rw [Array.getElem?_setIfInBounds_ne (by omega), Array.getElem?_setIfInBounds_ne (by omega), r, Array.getElem?_setIfInBounds_self_of_lt (by omega), show (fl p l j).length * 3 - (fl p l j).length * 3 = 0 by omega]
    rfl
   ·rw [Array.getElem?_setIfInBounds_ne (by omega), r, Array.getElem?_setIfInBounds_self_of_lt (by simp; omega), show (fl p l j).length * 3 + 1 - (fl p l j).length * 3 = 1 by omega]
    rfl
   ·rw [r, Array.getElem?_setIfInBounds_self_of_lt (by simp; omega), show (fl p l j).length * 3 + 2 - (fl p l j).length * 3 = 2 by omega]
    rfl
 ·show (((cur.setIfInBounds _ _).setIfInBounds _ _).setIfInBounds _ _)[k]? = _
  rw [Array.getElem?_setIfInBounds_ne (by omega), Array.getElem?_setIfInBounds_ne (by omega), Array.getElem?_setIfInBounds_ne (by omega)]
  exact h4 k (by omega) hl
 ·have gb := h.gb
  exact ⟨gb.os, gb.tape, gb.output, by have := gb.size; simpa [put3, World.setCell] using this, fun k hk hne => (put3_other _ _ _ _ _ _ k (fun q => hne (by rw [q]))).trans (gb.block k hk hne)⟩
theorem own_mk {W : World} {B g cap : Nat} {cur : Array Value} {m : List Ed} (hB : B ≤ g) (hg : W.heap[g]? = some (.cells cur 70 (0, 0))) (hs : cur.size = cap * 3) (hl : m.length ≤ cap) (hm : cap ≤ maxLen) (hc : ∀ k, k < m.length * 3 → cur[k]? = (edc m)[k]?) :
 Ow W B (.slice (some ⟨g, 0, none⟩) m.length cap) m := by
 refine ⟨edc_len m, .inr ⟨g, cap, cur, rfl, hB, hg, hl, hm, by omega, ?_⟩⟩
 apply List.ext_getElem?
 intro k
 rw [List.getElem?_take]
 by_cases hk : k < m.length * 3
 ·rw [if_pos (by omega), ← hc k hk]; simp
 ·rw [if_neg (by omega), List.getElem?_eq_none (by rw [edc_len]; omega)]
theorem own_cur {W : World} {B g cap : Nat} {m : List Ed} (h : Ow W B (.slice (some ⟨g, 0, none⟩) m.length cap) m) :
 ∃ cur, W.heap[g]? = some (.cells cur 70 (0, 0)) ∧ B ≤ g ∧ cur.size = cap * 3 ∧ m.length ≤ cap ∧ cap ≤ maxLen ∧ ∀ k, k < m.length * 3 → cur[k]? = (edc m)[k]? := by
 rcases h.2 with ⟨e, -⟩ | ⟨g', cap', cur, e, hb, hg, h1, h2, h3, h4⟩
 ·cases e
 ·simp only [Value.slice.injEq, Option.some.injEq, Addr.mk.injEq, and_true, true_and] at e
  obtain ⟨rfl, rfl⟩ := e
  refine ⟨cur, hg, hb, by omega, h1, h2, fun k hk => ?_⟩
  rw [← h4, List.getElem?_take, if_pos (by omega)]
  simp
end Eg
end Go.Proofs.YtblfimobiibmjaaGreat
namespace Go.Proofs.YtblfimobiibmjaaGreat
open Go.ChangeShapes Go.WideShapes Go.ChangeAt Go.RowKit
namespace Eg
open En Gu Ba
def af : Option (Nat × Nat) → Nat
 | none => 0
 | some p => p.1
def ar : Option (Nat × Nat) → Nat
 | none => 0
 | some p => p.2
def AR (w : World) (A G : Nat) (f : Nat → Option (Nat × Nat)) : Prop :=
 ∃ cur, w.heap[A]? = some (.cells cur 70 (0, 0)) ∧ cur.size = G * 3 ∧ ∀ g, g < G → cur[g * 3]? = some (.int .i64 (af (f g) : Int)) ∧ cur[g * 3 + 1]? = some (.int .i64 0) ∧ cur[g * 3 + 2]? = some (.int .i64 (ar (f g) : Int))
theorem AR.keep {w w' : World} {A G : Nat} {f : Nat → Option (Nat × Nat)} (h : AR w A G f) (hk : w'.heap[A]? = w.heap[A]?) : AR w' A G f := by
 obtain ⟨cur, a, b⟩ := h
 exact ⟨cur, hk.trans a, b⟩
theorem AR.lt {w : World} {A G : Nat} {f : Nat → Option (Nat × Nat)} (h : AR w A G f) : A < w.heap.size := by
 obtain ⟨cur, a, b⟩ := h
 exact heap_lt a
theorem AR.read {w : World} {A G : Nat} {f : Nat → Option (Nat × Nat)} (h : AR w A G f) {g : Nat} (hg : g < G) : w.cell? ⟨A, g * 3, none⟩ = some (.int .i64 (af (f g) : Int)) ∧ w.cell? ⟨A, g * 3 + 1, none⟩ = some (.int .i64 0) ∧ w.cell? ⟨A, g * 3 + 2, none⟩ = some (.int .i64 (ar (f g) : Int)) ∧ w.frozen? ⟨A, g * 3, none⟩ = false ∧ w.frozen? ⟨A, g * 3 + 1, none⟩ = false ∧ w.frozen? ⟨A, g * 3 + 2, none⟩ = false := by
 obtain ⟨cur, a, b, c⟩ := h
 obtain ⟨c0, c1, c2⟩ := c g hg
 exact ⟨(cell_of a _).trans c0, (cell_of a _).trans c1, (cell_of a _).trans c2, frozen_of a _, frozen_of a _, frozen_of a _⟩
theorem AR.put {w : World} {A G : Nat} {f : Nat → Option (Nat × Nat)} (h : AR w A G f) {g : Nat} (hg : g < G) (i r : Nat) : AR (put3 w A (g * 3) (.int .i64 (i : Int)) (.int .i64 0) (.int .i64 (r : Int))) A G (fun x => if x = g then some (i, r) else f x) := by
 obtain ⟨cur, a, b, c⟩ := h
 refine ⟨_, Ba.heap_setCell_same (Ba.heap_setCell_same (Ba.heap_setCell_same a _) _) _, by simp [b], fun x hx => ?_⟩
 obtain ⟨c0, c1, c2⟩ := c x hx
 by_cases e : x = g
 ·subst e
  simp only [if_true]
  refine ⟨?_, ?_, ?_⟩
  ·show (((cur.setIfInBounds _ _).setIfInBounds _ _).setIfInBounds _ _)[x * 3]? = _
   rw [Array.getElem?_setIfInBounds_ne (by omega), Array.getElem?_setIfInBounds_ne (by omega), Array.getElem?_setIfInBounds_self_of_lt (by omega)]
   rfl
  ·show (((cur.setIfInBounds _ _).setIfInBounds _ _).setIfInBounds _ _)[x * 3 + 1]? = _
   rw [Array.getElem?_setIfInBounds_ne (by omega), Array.getElem?_setIfInBounds_self_of_lt (by simp; omega)]
  ·show (((cur.setIfInBounds _ _).setIfInBounds _ _).setIfInBounds _ _)[x * 3 + 2]? = _
   rw [Array.getElem?_setIfInBounds_self_of_lt (by simp; omega)]
   rfl
 ·simp only [if_neg e]
  refine ⟨?_, ?_, ?_⟩ <;> show (((cur.setIfInBounds _ _).setIfInBounds _ _).setIfInBounds _ _)[_]? = _
  ·rw [Array.getElem?_setIfInBounds_ne (by omega), Array.getElem?_setIfInBounds_ne (by omega), Array.getElem?_setIfInBounds_ne (by omega)]
   exact c0
  ·rw [Array.getElem?_setIfInBounds_ne (by omega), Array.getElem?_setIfInBounds_ne (by omega), Array.getElem?_setIfInBounds_ne (by omega)]
   exact c1
  ·rw [Array.getElem?_setIfInBounds_ne (by omega), Array.getElem?_setIfInBounds_ne (by omega), Array.getElem?_setIfInBounds_ne (by omega)]
   exact c2
theorem AR.congr {w : World} {A G : Nat} {f f' : Nat → Option (Nat × Nat)} (h : AR w A G f) (hf : ∀ x, f' x = f x) : AR w A G f' := by
 have : f' = f := funext hf
 rw [this]
 exact h
theorem ah_r (l : List Ev) : ∀ (k : Nat) (g : Int) (p : Nat × Nat), ahF l k g = some p → p.2 = 1 ∨ p.2 = 2
 | 0, g, p, h => by cases h
 | k + 1, g, p, h => by
   cases he : l[k]? with
   | none =>
     have : ahF l (k + 1) = ahF l k := by
      show (match l[k]? with | none => ahF l k | some e => pst k (ahF l k) e) = _
      rw [he]
     rw [this] at h
     exact ah_r l k g p h
   | some e =>
     rw [ah_succ he] at h
     unfold pst at h
     split at h
     ·exact ah_r l k g p h
     ·simp only at h
      split at h
      ·cases h; exact .inr rfl
      ·split at h
       ·cases h; exact .inl rfl
       ·exact ah_r l k g p h
theorem own_lt {w : World} {base : Nat} {e : TypeId} {size : Nat} {v : Value} {n : Nat} {xs : List Value} (h : w.ownsRow base e size v n xs) : ∀ g, v.ownBlock = some g → g < w.heap.size := by
 intro g hg
 rcases h.2 with ⟨rfl, _⟩ | ⟨b, cap, cur, rfl, q, q2, _⟩
 ·simp [Value.ownBlock] at hg
 ·simp [Value.ownBlock] at hg
  have := heap_lt q2
  omega
structure PgI (w : World) (A G : Nat) (l : List Ev) (ed iv : Value) (wr : World) (k : Nat) : Prop where
 le : k ≤ l.length
 iv : iv = .int .i64 (k : Int)
 bl : Below w.heap.size w wr
 own : wr.ownsRow (A + 1) 70 3 ed (progE l k).length (edc (progE l k))
 ar : AR wr A G (fun g => ahF l k (g : Int))
theorem own_mono {w : World} {base b' : Nat} {e : TypeId} {size : Nat} {v : Value} {n : Nat} {xs : List Value} (h : w.ownsRow base e size v n xs) (hb : b' ≤ base) : w.ownsRow b' e size v n xs := by
 refine ⟨h.1, ?_⟩
 rcases h.2 with q | ⟨g, cap, cur, q1, q2, q3⟩
 ·exact .inl q
 ·exact .inr ⟨g, cap, cur, q1, by omega, q3⟩
theorem out_none {l : List Ev} {k : Nat} {e : Ev} (he : l[k]? = some e) {g : Nat} (hg : e.g = (g : Int)) (ho : ahF l k (g : Int) = none) : progE l (k + 1) = progE l k := by
 rw [prog_succ]
 unfold outP
 rw [he]
 simp only
 rw [hg, ho]
 simp
theorem out_some {l : List Ev} {k : Nat} {e : Ev} (he : l[k]? = some e) (h13 : e.k ≠ 13) {g : Nat} (hg : e.g = (g : Int)) {p : Nat × Nat} (ho : ahF l k (g : Int) = some p) : progE l (k + 1) = progE l k ++ [⟨p.1, k, p.2⟩] := by
 rw [prog_succ]
 unfold outP
 rw [he]
 simp only
 rw [if_neg h13, hg, ho]
theorem out_13 {l : List Ev} {k : Nat} {e : Ev} (he : l[k]? = some e) (h13 : e.k = 13) : progE l (k + 1) = progE l k := by
 rw [prog_succ]
 unfold outP
 rw [he]
 simp [h13]
theorem PgI.skip {w : World} {A G : Nat} {l : List Ev} {ed iv : Value} {wr : World} {k : Nat} (h : PgI w A G l ed iv wr k) {e : Ev} (he : l[k]? = some e) (h13 : e.k = 13) {W : World} (b : Below wr.heap.size wr W) : PgI w A G l ed (.int .i64 ((k : Int) + 1)) W (k + 1) := by
 have hk := (List.getElem?_eq_some_iff.1 he).1
 refine ⟨by omega, by simp, btr h.bl b, ?_, ?_⟩
 ·rw [out_13 he h13]
  exact own_below h.own b
 ·rw [ah_succ he]
  unfold pst
  rw [if_pos h13]
  exact h.ar.keep (b.block A h.ar.lt)
theorem PgI.fin1 {w : World} {A G : Nat} {l : List Ev} {k : Nat} {e : Ev} (he : l[k]? = some e) (h13 : e.k ≠ 13) (h1 : e.k ≠ 1) {g : Nat} (hg : e.g = (g : Int)) (hgG : g < G) {w6 : World} {ed : Value} (hA : w.heap.size ≤ A) (own : w6.ownsRow (A + 1) 70 3 ed (progE l (k + 1)).length (edc (progE l (k + 1)))) (bl : Below w.heap.size w w6) (ar : AR w6 A G fun g => ahF l k (g : Int)) {W : World} (b : Below (put3 w6 A (g * 3) (.int .i64 (k : Int)) (.int .i64 0) (.int .i64 1)).heap.size (put3 w6 A (g * 3) (.int .i64 (k : Int)) (.int .i64 0) (.int .i64 1)) W) : PgI w A G l ed (.int .i64 ((k : Int) + 1)) W (k + 1) := by
 have hk := (List.getElem?_eq_some_iff.1 he).1
 have a1 := ar.put hgG k 1
 refine ⟨by omega, by simp, (bl.trans (put3_below _ _ _ _ _ _ hA)).trans (b.mono (by have := bl.size; simp [put3, World.setCell]; omega)), ?_, ?_⟩
 ·exact own_below (own_keep own fun x hx _ => put3_other _ _ _ _ _ _ x (by omega)) b
 ·rw [ah_succ he]
  unfold pst
  rw [if_neg h13]
  refine (a1.keep (b.block A a1.lt)).congr fun x => ?_
  rw [if_neg (fun q => h1 q.1), hg]
  by_cases q : x = g
  ·rw [if_pos q, if_pos (by omega)]
  ·rw [if_neg q, if_neg (by omega)]
theorem PgI.fin2 {w : World} {A G : Nat} {l : List Ev} {k : Nat} {e : Ev} (he : l[k]? = some e) (h1 : e.k = 1) {g m : Nat} (hg : e.g = (g : Int)) (hgG : g < G) (hm : e.m = (m : Int)) (hmG : m < G) {w6 : World} {ed : Value} (hA : w.heap.size ≤ A) (own : w6.ownsRow (A + 1) 70 3 ed (progE l (k + 1)).length (edc (progE l (k + 1)))) (bl : Below w.heap.size w w6) (ar : AR w6 A G fun g => ahF l k (g : Int)) {W : World} (b : Below (put3 (put3 w6 A (g * 3) (.int .i64 (k : Int)) (.int .i64 0) (.int .i64 1)) A (m * 3) (.int .i64 (k : Int)) (.int .i64 0) (.int .i64 2)).heap.size (put3 (put3 w6 A (g * 3) (.int .i64 (k : Int)) (.int .i64 0) (.int .i64 1)) A (m * 3) (.int .i64 (k : Int)) (.int .i64 0) (.int .i64 2)) W) : PgI w A G l ed (.int .i64 ((k : Int) + 1)) W (k + 1) := by
 have hk := (List.getElem?_eq_some_iff.1 he).1
 have a1 := (ar.put hgG k 1).put hmG k 2
 refine ⟨by omega, by simp, ((bl.trans (put3_below _ _ _ _ _ _ hA)).trans (put3_below _ _ _ _ _ _ hA)).trans (b.mono (by have := bl.size; simp [put3, World.setCell]; omega)), ?_, ?_⟩
 ·exact own_below (own_keep (own_keep own fun x hx _ => put3_other _ _ _ _ _ _ x (by omega)) fun x hx _ => put3_other _ _ _ _ _ _ x (by omega)) b
 ·rw [ah_succ he]
  unfold pst
  rw [if_neg (by omega)]
  refine (a1.keep (b.block A a1.lt)).congr fun x => ?_
  rw [hg, hm]
  by_cases q : x = m
  ·rw [if_pos q, if_pos ⟨h1, by omega⟩]
  ·rw [if_neg q, if_neg (by intro z; omega)]
   by_cases q2 : x = g
   ·rw [if_pos q2, if_pos (by omega)]
   ·rw [if_neg q2, if_neg (by omega)]
theorem prog_len (l : List Ev) : ∀ n, (progE l n).length ≤ n
 | 0 => by simp [progE]
 | n + 1 => by
   have := prog_len l n
   rw [prog_succ, List.length_append]
   have : (outP l n).length ≤ 1 := by
    unfold outP
    split
    ·simp
    ·split
     ·simp
     ·split <;> simp
   omega
set_option maxRecDepth 100000 in
set_option maxHeartbeats 3200000 in
theorem programs_any (oa : Option Addr) (l : List Ev) (c : Nat) (w : World) (hA : EsAt w oa l) (h : Tok l) (hl : l.length ≤ 2000) :
 Calls Tryz.prog 35 #[.slice oa l.length c] w fun r w' => ∃ ea cp, r = .returned (.slice ea (progE l l.length).length cp) ∧ w'.ownsRow w.heap.size 70 3 (.slice ea (progE l l.length).length cp) (progE l l.length).length (edc (progE l l.length)) ∧ Below w.heap.size w w' := by
 have GO := hide (gors_any oa l c w hA (by omega) (hw_g h))
 rw [gor_is h hl] at GO
 have HA := hide hA
 have H := hide h
 have TL := there_le l
 obtain ⟨M, hM⟩ : ∃ M, l.length = M := ⟨_, rfl⟩
 obtain ⟨G, hG⟩ : ∃ G, there l = G := ⟨_, rfl⟩
 have HM := hide hM
 have HG := hide hG
 rw [hM, hG] at GO
 rw [hM, hG] at TL
 rw [hM] at hl ⊢
 clear hA h hM hG
 go_enter Tryz.func35, Tryz.ntmps35
 go_wp2_with fail
 refine GO.out.mono ?_
 rintro r w1 ⟨rfl, b1⟩
 have B1 := hide b1
 have mk := mk_ed w1 G (by omega)
 obtain ⟨W2, hW2⟩ : ∃ W2, w1.alloc (.cells (madeCells #[.int .i64 0, .int .i64 0, .int .i64 0] (G * 3)) 70) = W2 := ⟨_, rfl⟩
 rw [hW2] at mk
 have I0 : Hid (PgI w w1.heap.size G l (.slice none 0 0) (.int .i64 0) W2 0) := by
  refine ⟨Nat.zero_le _, rfl, ?_, ⟨rfl, .inl ⟨rfl, rfl⟩⟩, ⟨_, ?_, size_madeCells _ _, fun g hg => made3 G g hg⟩⟩
  ·rw [← hW2]
   exact btr b1 (below_alloc _ _)
  ·rw [← hW2]
   exact heap_new _ _
 have S1 : Hid (w.heap.size ≤ w1.heap.size) := b1.size
 generalize w1.heap.size = A at *
 clear hW2 b1
 go_wp2_with fail
 go_loopw [3, 13] (fun ed iv wr => ∃ k : Nat, PgI w A G l ed iv wr k) (fun _ iv _ => M - (intOf iv).toNat)
 case atStart => exact ⟨0, I0.out⟩
 case round =>
  obtain ⟨k, I⟩ := hrel
  have hkM : k ≤ M := by rw [← HM.out]; exact I.le
  obtain rfl := I.iv
  obtain ⟨ea, cp, rfl⟩ := own_sl I.own
  have HI := hide I
  have PL := prog_len l k
  obtain ⟨n, hn⟩ : ∃ n, (progE l k).length = n := ⟨_, rfl⟩
  have HN := hide hn
  rw [hn] at HI PL ⊢
  have HS := hide S1.out
  by_cases hlt : k < M
  ·obtain ⟨e, he⟩ : ∃ e, l[k]? = some e := ⟨_, List.getElem?_eq_getElem (by rw [HM.out]; omega)⟩
   have EA := hide (HA.out.below I.bl)
   obtain ⟨b2, o2, rfl, -⟩ := EA.out k e he
   obtain ⟨p0, p1, p2, p3, p4, p5, p6, p7⟩ := EA.out.read he
   have hlt' : (k : Int) < (M : Int) := by omega
   have hAlt := I.ar.lt
   have HE := hide he
   by_cases h13 : e.k = 13
   ·have d1 : (e.k == 13) = true := by simp [h13]
    have H13 := hide h13
    clear I hn he h13
    go_wp2_with fail
    go_roundw
    case measure => simp [intOf]; omega
    case rel => exact ⟨k + 1, HI.out.skip HE.out H13.out (below_alloc _ _)⟩
   ·obtain ⟨g, hg, hgG⟩ := H.out.gl he h13
    rw [HG.out] at hgG
    obtain ⟨z0, z1, z2, f0, f1, f2⟩ := I.ar.read hgG
    rw [hg] at p1
    have d1 : (e.k == 13) = false := by simp [h13]
    have hg0 : (0 : Int) ≤ (g : Int) := by omega
    have hg1 : (g : Int) < (G : Int) := by omega
    have HGG := hide hg
    have H13 := hide h13
    have HGGG := hide hgG
    clear I hn he h13 hg
    have hgG' := HGGG.out
    cases hx : ahF l k (g : Int) with
    | none =>
      have HX := hide hx
      rw [hx] at z0 z2
      clear hx
      change wr.cell? _ = some (.int .i64 0) at z0 z2
      have OW0 : Hid (wr.ownsRow (A + 1) 70 3 (.slice ea n cp) (progE l (k + 1)).length (edc (progE l (k + 1)))) := by
       rw [show Hid _ = _ from rfl, out_none HE.out HGG.out HX.out, HN.out]
       have := HI.out.own
       rw [HN.out] at this
       exact this
      go_upto_region 11 with fail
      have EB0 := hide ((below_alloc (wr.alloc (.cells #[.int .i64 e.k, .int .i64 e.g, .int .i64 e.c, .int .i64 e.a, .int .i64 e.v, .int .i64 e.m, .bool e.s, .bool e.o] 50)) (.cells #[.int .i64 0, .int .i64 0, .int .i64 0] 70)).block _ (by simp) |>.trans (heap_new wr (.cells #[.int .i64 e.k, .int .i64 e.g, .int .i64 e.c, .int .i64 e.a, .int .i64 e.v, .int .i64 e.m, .bool e.s, .bool e.o] 50)))
      have BX := hide (btr (below_alloc wr (.cells #[.int .i64 e.k, .int .i64 e.g, .int .i64 e.c, .int .i64 e.a, .int .i64 e.v, .int .i64 e.m, .bool e.s, .bool e.o] 50)) (below_alloc (wr.alloc (.cells #[.int .i64 e.k, .int .i64 e.g, .int .i64 e.c, .int .i64 e.a, .int .i64 e.v, .int .i64 e.m, .bool e.s, .bool e.o] 50)) (.cells #[.int .i64 0, .int .i64 0, .int .i64 0] 70)))
      rw [HGG.out] at EB0 BX
      obtain ⟨w6, hw6⟩ : ∃ x, (wr.alloc (.cells #[.int .i64 e.k, .int .i64 (g : Int), .int .i64 e.c, .int .i64 e.a, .int .i64 e.v, .int .i64 e.m, .bool e.s, .bool e.o] 50)).alloc (.cells #[.int .i64 0, .int .i64 0, .int .i64 0] 70) = x := ⟨_, rfl⟩
      rw [hw6] at EB0 BX ⊢
      have EB := EB0
      have OW := hide (own_below OW0.out BX.out)
      have A6 := hide (HI.out.ar.keep (BX.out.block A HI.out.ar.lt))
      have BL := hide (btr HI.out.bl BX.out)
      clear hw6 z0 z1 z2 f0 f1 f2 p0 p1 p2 p3 p4 p5 p6 p7 EB0
      have E0 : w6.cell? ⟨wr.heap.size, 0, none⟩ = some (.int .i64 e.k) := cell_of EB.out 0
      have E1 : w6.cell? ⟨wr.heap.size, 1, none⟩ = some (.int .i64 (g : Int)) := cell_of EB.out 1
      have hne : A ≠ wr.heap.size := by have := HI.out.ar.lt; omega
      obtain ⟨z0, z1, z2, f0, f1, f2⟩ := A6.out.read hgG'
      go_upto_region 12 with fail
      obtain ⟨w7, hw7⟩ : ∃ x, ((w6.setCell ⟨A, g * 3, none⟩ (.int .i64 (k : Int))).setCell ⟨A, g * 3 + 1, none⟩ (.int .i64 0)).setCell ⟨A, g * 3 + 2, none⟩ (.int .i64 1) = x := ⟨_, rfl⟩
      rw [hw7]
      have A7 : Hid (AR w7 A G (fun x => if x = g then some (k, 1) else ahF l k (x : Int))) := by rw [← hw7]; exact A6.out.put hgG' k 1
      have EB7 := hide ((show w7.heap[wr.heap.size]? = w6.heap[wr.heap.size]? by rw [← hw7]; exact put3_other _ _ _ _ _ _ _ (Ne.symm hne)).trans EB.out)
      have HW7 := hide hw7
      clear E0 E1 z0 z1 z2 f0 f1 f2 hw7
      have E0 : w7.cell? ⟨wr.heap.size, 0, none⟩ = some (.int .i64 e.k) := cell_of EB7.out 0
      have E5 : w7.cell? ⟨wr.heap.size, 5, none⟩ = some (.int .i64 e.m) := cell_of EB7.out 5
      by_cases hk1 : e.k = 1
      ·have d2 : (e.k == 1) = true := by simp [hk1]
       obtain ⟨m, hm, hmG⟩ := H.out.ml HE.out hk1
       rw [HG.out] at hmG
       have hm0 : (0 : Int) ≤ (m : Int) := by omega
       have hm1 : (m : Int) < (G : Int) := by omega
       rw [hm] at E5
       have HK := hide hk1
       have HMM := hide hm
       obtain ⟨y0, y1, y2, q0, q1, q2⟩ := A7.out.read hmG
       clear hk1 hm
       go_wp2_with fail
       go_roundw
       case measure => simp [intOf]; omega
       case rel => exact ⟨k + 1, PgI.fin2 (w6 := w6) HE.out HK.out HGG.out HGGG.out HMM.out hmG HS.out OW.out BL.out A6.out (by rw [show put3 w6 A (g * 3) (.int .i64 (k : Int)) (.int .i64 0) (.int .i64 1) = w7 from HW7.out]; exact Below.refl _ _)⟩
      ·have d2 : (e.k == 1) = false := by simp [hk1]
       have HK := hide hk1
       clear hk1
       go_wp2_with fail
       go_roundw
       case measure => simp [intOf]; omega
       case rel => exact ⟨k + 1, PgI.fin1 (w6 := w6) HE.out H13.out HK.out HGG.out HGGG.out HS.out OW.out BL.out A6.out (by rw [show put3 w6 A (g * 3) (.int .i64 (k : Int)) (.int .i64 0) (.int .i64 1) = w7 from HW7.out]; exact Below.refl _ _)⟩
    | some p =>
      have HX := hide hx
      have hr2 := ah_r l k _ p hx
      obtain ⟨f, r⟩ := p
      rw [hx] at z0 z2
      clear hx
      change wr.cell? _ = some (.int .i64 (f : Int)) at z0
      change wr.cell? _ = some (.int .i64 (r : Int)) at z2
      have d3 : ((r : Int) != 0) = true := by simp at hr2 ⊢; omega
      clear hr2
      go_upto_region 10 with fail
      have EB0 := hide ((below_alloc (wr.alloc (.cells #[.int .i64 e.k, .int .i64 e.g, .int .i64 e.c, .int .i64 e.a, .int .i64 e.v, .int .i64 e.m, .bool e.s, .bool e.o] 50)) (.cells #[.int .i64 (f : Int), .int .i64 (k : Int), .int .i64 (r : Int)] 70)).block _ (by simp) |>.trans (heap_new wr (.cells #[.int .i64 e.k, .int .i64 e.g, .int .i64 e.c, .int .i64 e.a, .int .i64 e.v, .int .i64 e.m, .bool e.s, .bool e.o] 50)))
      have XB0 := hide (heap_new (wr.alloc (.cells #[.int .i64 e.k, .int .i64 e.g, .int .i64 e.c, .int .i64 e.a, .int .i64 e.v, .int .i64 e.m, .bool e.s, .bool e.o] 50)) (.cells #[.int .i64 (f : Int), .int .i64 (k : Int), .int .i64 (r : Int)] 70))
      have BX := hide (btr (below_alloc wr (.cells #[.int .i64 e.k, .int .i64 e.g, .int .i64 e.c, .int .i64 e.a, .int .i64 e.v, .int .i64 e.m, .bool e.s, .bool e.o] 50)) (below_alloc (wr.alloc (.cells #[.int .i64 e.k, .int .i64 e.g, .int .i64 e.c, .int .i64 e.a, .int .i64 e.v, .int .i64 e.m, .bool e.s, .bool e.o] 50)) (.cells #[.int .i64 (f : Int), .int .i64 (k : Int), .int .i64 (r : Int)] 70)))
      rw [HGG.out] at EB0 BX XB0
      obtain ⟨w5, hw5⟩ : ∃ x, (wr.alloc (.cells #[.int .i64 e.k, .int .i64 (g : Int), .int .i64 e.c, .int .i64 e.a, .int .i64 e.v, .int .i64 e.m, .bool e.s, .bool e.o] 50)).alloc (.cells #[.int .i64 (f : Int), .int .i64 (k : Int), .int .i64 (r : Int)] 70) = x := ⟨_, rfl⟩
      rw [World.size_alloc] at XB0
      rw [hw5] at EB0 BX XB0 ⊢
      have X0 : w5.cell? ⟨wr.heap.size + 1, 0, none⟩ = some (.int .i64 (f : Int)) := cell_of XB0.out 0
      have X1 : w5.cell? ⟨wr.heap.size + 1, 1, none⟩ = some (.int .i64 (k : Int)) := cell_of XB0.out 1
      have X2 : w5.cell? ⟨wr.heap.size + 1, 2, none⟩ = some (.int .i64 (r : Int)) := cell_of XB0.out 2
      have BY := hide (btr BX.out (below_alloc w5 (.cells #[.int .i64 (f : Int), .int .i64 (k : Int), .int .i64 (r : Int)] 70)))
      have OWN := HI.out.own
      rw [HN.out] at OWN
      obtain ⟨ea', c', w6, hap, own6, gr6, bl6⟩ := app_ed (w5.alloc (.cells #[.int .i64 (f : Int), .int .i64 (k : Int), .int .i64 (r : Int)] 70)) (A + 1) (.slice ea n cp) (progE l k) [⟨f, k, r⟩] n HN.out.symm (own_below OWN BY.out) ⟨w5.heap.size, 0, none⟩ 1 1 rfl (fun j u hj => by rw [Addr.add_lit, Nat.zero_add, cell_of (heap_new w5 _)]; simpa [edc] using hj) (by omega) (by have := HI.out.ar.lt; have := BY.out.size; omega)
      have EB := hide ((gr6.block _ (by have := BX.out.size; have := heap_lt EB0.out; rw [World.size_alloc]; omega) (fun q => by have := own_lt OWN _ q.symm; omega)).trans ((below_alloc w5 _).block _ (heap_lt EB0.out) |>.trans EB0.out))
      have OW : Hid (w6.ownsRow (A + 1) 70 3 (.slice ea' (n + 1) c') (progE l (k + 1)).length (edc (progE l (k + 1)))) := by
       rw [show Hid _ = _ from rfl, out_some HE.out H13.out HGG.out HX.out, List.length_append, HN.out]
       exact own6
      have A6 := hide (HI.out.ar.keep ((bl6.block A (by omega)).trans (BY.out.block A HI.out.ar.lt)))
      have BL := hide ((btr HI.out.bl BY.out).trans (bl6.mono (by have := HS.out; omega)))
      clear hw5 z0 z1 z2 f0 f1 f2 p0 p1 p2 p3 p4 p5 p6 p7 EB0 own6 gr6 bl6
      go_upto_region 11 with (at_builtin; refine Lib.wpList_append_run _ (by rfl) _ _ _ _ (by rfl) _ _ (by rfl) (by rfl) _ _ hap ?_)
      clear hap X0 X1 X2 XB0 OWN
      have E0 : w6.cell? ⟨wr.heap.size, 0, none⟩ = some (.int .i64 e.k) := cell_of EB.out 0
      have E1 : w6.cell? ⟨wr.heap.size, 1, none⟩ = some (.int .i64 (g : Int)) := cell_of EB.out 1
      have hne : A ≠ wr.heap.size := by have := HI.out.ar.lt; omega
      obtain ⟨z0, z1, z2, f0, f1, f2⟩ := A6.out.read hgG'
      go_upto_region 12 with fail
      obtain ⟨w7, hw7⟩ : ∃ x, ((w6.setCell ⟨A, g * 3, none⟩ (.int .i64 (k : Int))).setCell ⟨A, g * 3 + 1, none⟩ (.int .i64 0)).setCell ⟨A, g * 3 + 2, none⟩ (.int .i64 1) = x := ⟨_, rfl⟩
      rw [hw7]
      have A7 : Hid (AR w7 A G (fun x => if x = g then some (k, 1) else ahF l k (x : Int))) := by rw [← hw7]; exact A6.out.put hgG' k 1
      have EB7 := hide ((show w7.heap[wr.heap.size]? = w6.heap[wr.heap.size]? by rw [← hw7]; exact put3_other _ _ _ _ _ _ _ (Ne.symm hne)).trans EB.out)
      have HW7 := hide hw7
      clear E0 E1 z0 z1 z2 f0 f1 f2 hw7
      have E0 : w7.cell? ⟨wr.heap.size, 0, none⟩ = some (.int .i64 e.k) := cell_of EB7.out 0
      have E5 : w7.cell? ⟨wr.heap.size, 5, none⟩ = some (.int .i64 e.m) := cell_of EB7.out 5
      by_cases hk1 : e.k = 1
      ·have d2 : (e.k == 1) = true := by simp [hk1]
       obtain ⟨m, hm, hmG⟩ := H.out.ml HE.out hk1
       rw [HG.out] at hmG
       have hm0 : (0 : Int) ≤ (m : Int) := by omega
       have hm1 : (m : Int) < (G : Int) := by omega
       rw [hm] at E5
       have HK := hide hk1
       have HMM := hide hm
       obtain ⟨y0, y1, y2, q0, q1, q2⟩ := A7.out.read hmG
       clear hk1 hm
       go_wp2_with fail
       go_roundw
       case measure => simp [intOf]; omega
       case rel => exact ⟨k + 1, PgI.fin2 (w6 := w6) HE.out HK.out HGG.out HGGG.out HMM.out hmG HS.out OW.out BL.out A6.out (by rw [show put3 w6 A (g * 3) (.int .i64 (k : Int)) (.int .i64 0) (.int .i64 1) = w7 from HW7.out]; exact Below.refl _ _)⟩
      ·have d2 : (e.k == 1) = false := by simp [hk1]
       have HK := hide hk1
       clear hk1
       go_wp2_with fail
       go_roundw
       case measure => simp [intOf]; omega
       case rel => exact ⟨k + 1, PgI.fin1 (w6 := w6) HE.out H13.out HK.out HGG.out HGGG.out HS.out OW.out BL.out A6.out (by rw [show put3 w6 A (g * 3) (.int .i64 (k : Int)) (.int .i64 0) (.int .i64 1) = w7 from HW7.out]; exact Below.refl _ _)⟩
  ·have dl : decide ((k : Int) < (M : Int)) = false := by simp; omega
   have hk : k = M := by omega
   subst hk
   clear I hlt hn
   go_wp2_with fail
   go_ret
   refine ⟨ea, cp, by rw [HN.out]; rfl, ?_, HI.out.bl⟩
   have := HI.out.own
   rw [← HN.out] at this
   exact own_mono this (by have := HS.out; omega)
end Eg
end Go.Proofs.YtblfimobiibmjaaGreat
namespace Go.Proofs.YtblfimobiibmjaaGreat
open Go.ChangeShapes Go.WideShapes Go.ChangeAt Go.RowKit
namespace Eg
open En Gu Ba
theorem run_app_none {w : World} (base : Nat) (t ty e : TypeId) (i : TypeInfo) (size : Nat) (ht : Tryz.prog.underlying t = some (.slice e)) (hi : Tryz.prog.info? e = some i) (oa : Option Addr) (n c c2 : Nat) (xs : List Value) (ow : w.ownsRow base e size (.slice oa n c) n xs) :
 (Builtin.append_ #[t, t] ty #[.slice oa n c, .slice none 0 c2]).run Tryz.prog w = .ok (.slice oa n c) w := by
 rcases ow.2 with ⟨q, rfl⟩ | ⟨g, cap, cur, q, _, _, h1, _⟩
 ·cases q
  simp [Builtin.append_, run_underlying ht, sizeOf, typeInfo, hi, Builtin.lenOf, Builtin.firstCells]
 ·cases q
  simp [Builtin.append_, run_underlying ht, sizeOf, typeInfo, hi, Builtin.lenOf, Builtin.firstCells, h1, storeCells]
theorem app_ow {w : World} {B B2 : Nat} {v v2 : Value} {l l2 : List Ed} (ho : Ow w B v l) (h2 : Ow w B2 v2 l2) (hl : l.length + l2.length ≤ 100000000) (hb : B ≤ w.heap.size) :
 ∃ ea' c' w', (Builtin.append_ #[24, 24] 24 #[v, v2]).run Tryz.prog w = .ok (.slice ea' (l.length + l2.length) c') w' ∧ Ow w' B (.slice ea' (l.length + l2.length) c') (l ++ l2) ∧ w.grownBy w' v.ownBlock := by
 obtain ⟨i0, hi, hz, hs, hby⟩ := info_ex info_ed0
 obtain ⟨oa, c, rfl, -, -⟩ := h2.sl
 rcases oa with _ | ⟨g, o, x⟩
 ·have h0 : l2.length = 0 := by
   rcases h2.2 with ⟨-, q⟩ | ⟨g, cap, cur, q, -⟩
   ·exact q
   ·cases q
  have hl0 : l2 = [] := List.length_eq_zero_iff.1 h0
  subst hl0
  obtain ⟨ob, cb, rfl, -, -⟩ := ho.sl
  refine ⟨ob, cb, w, ?_, by simpa using ho, grown_refl _ _⟩
  exact run_app_none B 24 24 70 i0 3 Tryz.underlying24 hi ob l.length cb c _ ho
 ·obtain ⟨rfl, rfl⟩ : o = 0 ∧ x = none := by
   rcases h2.2 with ⟨q, -⟩ | ⟨g, cap, cur, q, -⟩
   ·cases q
   ·cases q; exact ⟨rfl, rfl⟩
  obtain ⟨cur, hg, -, hsz, hlc, -, hcell⟩ := own_cur h2
  obtain ⟨ea', c', w', h3, h4, h5, -⟩ := app_ed w B v l l2 l.length rfl ho ⟨g, 0, none⟩ l2.length c rfl (fun j u hj => by
   have hj2 := (List.getElem?_eq_some_iff.1 hj).1
   rw [edc_len] at hj2
   rw [Addr.add_lit, Nat.zero_add, cell_of hg, hcell j hj2, hj]) hl hb
  refine ⟨ea', c', w', h3, ?_, h5⟩
  unfold Ow
  rw [List.length_append]
  exact h4
theorem mod_ed (c g : Nat) (W : World) (z : Array Value) (h : W.heap[g]? = some (.cells z 70 (0, 0))) (hs : z.size = c * 3) (hc : c ≤ maxLen) {B : Nat} (hB : B ≤ g) : Ow W B (.slice (some ⟨g, 0, none⟩) 0 c) [] :=
 own_mk (m := []) hB h hs (Nat.zero_le _) hc (fun k hk => by simp at hk)
set_option maxRecDepth 100000 in
set_option maxHeartbeats 1600000 in
theorem grow_any (n : Nat) (w : World) (hn : n ≤ 100000000) : Calls Tryz.prog 63 #[.slice none 0 0, .int .i64 (n : Int)] w fun r w' => ∃ v, r = .returned v ∧ Ow w' w.heap.size v [] ∧ w.grownBy w' none := by
 have w0 : IntKind.i64.wrap ((n : Int) - 0) = n := by rw [IntKind.wrap_i64]; omega
 have w1 : IntKind.i64.wrap (n : Int) = n := by rw [IntKind.wrap_i64]; omega
 have n0 : decide ((n : Int) < 0) = false := by simp
 by_cases h0 : n = 0
 ·have d : decide ((n : Int) > 0) = false := by simp; omega
  subst h0
  go_enter Tryz.func63, Tryz.ntmps63
  go_wp2_with fail
  go_ret
  exact ⟨_, rfl, Ow.nil _ _, grown_refl _ _⟩
 ·have d : decide ((n : Int) > 0) = true := by simp; omega
  obtain ⟨i0, hi, hz, hs, hby⟩ := info_ex info_ed0
  have hap := Lib.run_append_nil_zeros (P := Tryz.prog) w 24 3 24 70 i0 _ .i64 .i64 Tryz.underlying24 Tryz.underlying3 hi hz n (by omega) (by rw [hs]; omega) (by omega) (by rw [hby]; omega)
  have hle := grownCap_le_maxLen w n 0 70 (by unfold maxLen; omega)
  have hge := grownCap_ge w n 0 70
  generalize grownCap w n 0 70 = c at *
  have OW : Hid (Ow (w.drew.alloc (.cells (Builtin.zeroCells (Value.agg #[.int .i64 0, .int .i64 0, .int .i64 0]).cells n ++ Builtin.zeroCells (Value.agg #[.int .i64 0, .int .i64 0, .int .i64 0]).cells (c - n)) 70)) w.heap.size (.slice (some ⟨w.heap.size, 0, none⟩) 0 c) []) := by
   refine mod_ed c w.heap.size _ _ (heap_new w.drew _) ?_ hle (Nat.le_refl _)
   have e1 := zc_len n
   have e2 := zc_len (c - n)
   simp only [Array.length_toList] at e1 e2
   rw [Array.size_append, e1, e2]
   omega
  have GB : Hid (w.grownBy (w.drew.alloc (.cells (Builtin.zeroCells (Value.agg #[.int .i64 0, .int .i64 0, .int .i64 0]).cells n ++ Builtin.zeroCells (Value.agg #[.int .i64 0, .int .i64 0, .int .i64 0]).cells (c - n)) 70)) none) := grown_of (btr (bdrew1 _) (below_alloc _ _))
  generalize w.drew.alloc (.cells (Builtin.zeroCells (Value.agg #[.int .i64 0, .int .i64 0, .int .i64 0]).cells n ++ Builtin.zeroCells (Value.agg #[.int .i64 0, .int .i64 0, .int .i64 0]).cells (c - n)) 70) = W at *
  have c0 : c ≤ 9223372036854775807 := by unfold maxLen at hle; omega
  have hn0 : 0 < n := by omega
  clear hi hz hs hby hle h0 d
  go_enter Tryz.func63, Tryz.ntmps63
  go_wp2_with (at_builtin; refine Lib.wpList_append_run _ (by rfl) _ _ _ _ (by rfl) _ _ (by rfl) (by rfl) _ _ hap ?_)
  go_ret
  exact ⟨_, rfl, OW.out, GB.out⟩
set_option maxRecDepth 100000 in
set_option maxHeartbeats 3200000 in
theorem concat_any (b B C : Nat) (va vb : Value) (la lb : List Ed) (w : World) (h0 : w.cell? ⟨b, 0, none⟩ = some va) (h1 : w.cell? ⟨b, 1, none⟩ = some vb) (ha : Ow w B va la) (hb : Ow w C vb lb) (hl : la.length + lb.length ≤ 100000000) :
 Calls Tryz.prog 34 #[.slice (some ⟨b, 0, none⟩) 2 2] w fun r w' => ∃ v, r = .returned v ∧ Ow w' w.heap.size v (la ++ lb) ∧ Below w.heap.size w w' := by
 obtain ⟨oa, ca, rfl, -, -⟩ := ha.sl
 obtain ⟨ob, cb, rfl, -, -⟩ := hb.sl
 have HA := hide ha
 have HB := hide hb
 have hbl := World.block_lt_of_cell? w ⟨b, 0, none⟩ h0
 obtain ⟨na, hna⟩ : ∃ n, la.length = n := ⟨_, rfl⟩
 obtain ⟨nb, hnb⟩ : ∃ n, lb.length = n := ⟨_, rfl⟩
 have NA := hide hna
 have NB := hide hnb
 rw [hna, hnb] at hl
 rw [hna] at h0
 rw [hnb] at h1
 have H0 := hide h0
 have H1 := hide h1
 have GR := hide (grow_any (na + nb) w hl)
 rw [show ((na + nb : Nat) : Int) = (na : Int) + (nb : Int) by omega] at GR
 clear ha hb hna hnb
 go_enter Tryz.func34, Tryz.ntmps34
 go_wp2_with fail
 go_loopw [3, 11] (fun sv iv wr => ∃ k : Nat, k ≤ 2 ∧ iv = .int .i64 k ∧ sv = .int .i64 (if k = 0 then 0 else if k = 1 then (na : Int) else (na : Int) + nb) ∧ wr = w) (fun _ iv _ => 2 - (intOf iv).toNat)
 case atStart => exact ⟨0, by omega, rfl, rfl, rfl⟩
 case round =>
  obtain ⟨k, hk, rfl, rfl, rfl⟩ := hrel
  obtain rfl | rfl | rfl : k = 0 ∨ k = 1 ∨ k = 2 := by omega
  ·have n0 : decide ((na : Int) < 0) = false := by simp
   simp only [if_true]
   go_wp2_with fail
   go_roundw
   case rel => exact ⟨1, by omega, by simp⟩
   case measure => simp [intOf]
  ·have n0 : decide ((na : Int) + (nb : Int) < 0) = false := by simp; omega
   simp only [if_true, if_false, Nat.one_ne_zero]
   go_wp2_with fail
   go_roundw
   case rel => exact ⟨2, by omega, by simp⟩
   case measure => simp [intOf]
  ·simp only [if_false, show (2 : Nat) ≠ 0 by omega, show (2 : Nat) ≠ 1 by omega]
   clear h0 h1
   go_wp2_with fail
   refine GR.out.mono ?_
   rintro r w2 ⟨v, rfl, ov, gv⟩
   have OV := hide ov
   have BV := hide (below_of gv)
   obtain ⟨ov_, cv, rfl, -, -⟩ := ov.sl
   clear GR ov gv
   go_wp2_with fail
   go_loopw [6, 27] (fun sv iv w3 => ∃ k : Nat, k ≤ 2 ∧ iv = .int .i64 k ∧ Ow w3 wr.heap.size sv (if k = 0 then [] else if k = 1 then la else la ++ lb) ∧ Below wr.heap.size wr w3) (fun _ iv _ => 2 - (intOf iv).toNat)
   case atStart => exact ⟨0, by omega, rfl, OV.out, BV.out⟩
   case round =>
    rename World => w3
    clear OV BV
    obtain ⟨k, hk, rfl, ow, hbw⟩ := hrel
    obtain rfl | rfl | rfl : k = 0 ∨ k = 1 ∨ k = 2 := by omega
    ·have BW := hide hbw
     have O1 := hide ow
     have c0 : w3.cell? ⟨b, 0, none⟩ = some (.slice oa na ca) := (BW.out.cell (p := ⟨b, 0, none⟩) hbl).trans H0.out
     obtain ⟨ox, cx, rfl, -, -⟩ := ow.sl
     obtain ⟨ea, ce, w4, hap, o4, g4⟩ := app_ow (l := []) (l2 := la) ow (HA.out.below BW.out) (by first | (rw [NA.out]; simp; omega) | (rw [NA.out, NB.out]; omega)) BW.out.size
     rw [NA.out] at o4
     simp only [List.length_nil, Nat.zero_add, List.nil_append] at o4
     have O4 := hide o4
     have B4 := hide (BW.out.trans (grown_below g4 (own_base ow) BW.out.size))
     rw [NA.out] at hap
     clear ow hbw g4 o4
     simp only [List.length_nil] at hap
     go_wp2_with (at_builtin; refine Lib.wpList_append_run _ (by rfl) _ _ _ _ (by rfl) _ _ (by rfl) (by rfl) _ _ hap ?_)
     go_roundw
     case rel => exact ⟨1, by omega, by simp, O4.out, B4.out⟩
     case measure => simp [intOf]
    ·have BW := hide hbw
     have O1 := hide ow
     have c0 : w3.cell? ⟨b, 1, none⟩ = some (.slice ob nb cb) := (BW.out.cell (p := ⟨b, 1, none⟩) hbl).trans H1.out
     obtain ⟨ox, cx, rfl, -, -⟩ := ow.sl
     obtain ⟨ea, ce, w4, hap, o4, g4⟩ := app_ow (l := la) (l2 := lb) ow (HB.out.below BW.out) (by first | (rw [NA.out]; simp; omega) | (rw [NA.out, NB.out]; omega)) BW.out.size
     rw [NA.out, NB.out] at o4
     have O4 := hide o4
     have B4 := hide (BW.out.trans (grown_below g4 (own_base ow) BW.out.size))
     rw [NA.out, NB.out] at hap
     clear ow hbw g4 o4
     go_wp2_with (at_builtin; refine Lib.wpList_append_run _ (by rfl) _ _ _ _ (by rfl) _ _ (by rfl) (by rfl) _ _ hap ?_)
     go_roundw
     case rel => exact ⟨2, by omega, by simp, O4.out, B4.out⟩
     case measure => simp [intOf]
    ·have BW := hide hbw
     obtain ⟨ox, cx, rfl, -, -⟩ := ow.sl
     have O1 := hide ow
     clear ow hbw
     go_wp2_with fail
     go_ret
     exact ⟨_, rfl, O1.out, BW.out⟩
end Eg
end Go.Proofs.YtblfimobiibmjaaGreat
namespace Go.Proofs.YtblfimobiibmjaaGreat
open Go.ChangeShapes Go.WideShapes Go.ChangeAt Go.RowKit
namespace Eg
open En Gu Ba
theorem step_append_run {ops : Array Oper} (w : World) {o : Oper} {a : Act} {K : Act → World → Prop} {Q : Exit → Act → World → Prop} {E : Prop} (hgd : o.guard = none) (s x : Operand) (t tn : TypeId)
 (ho : o.op = .call { callee := .builtin .append, args := #[s, x], argTypes := #[t, tn] }) (vs vx : Value) (hs : a.eval s = vs) (hx : a.eval x = vx)
 (v' : Value) (w' : World) (hr : (Builtin.append_ #[t, tn] o.type #[vs, vx]).run Tryz.prog w = .ok v' w') (h : K (a.put o.dst v') w') :
 if Region.wanted o (yielded ops a.tmps) = true then Oper.wp Tryz.prog o a w K Q else E := by
 have hw : Region.wanted o (yielded ops a.tmps) = true := by simp [Region.wanted, hgd]
 rw [if_pos hw]
 exact Lib.wp_append_run w s x t tn ho vs vx hs hx v' w' hr h
def Od (w : World) (B : Nat) (v : Value) (l : List (Nat × Nat)) : Prop := w.ownsRow B 125 2 v l.length (dlc l)
theorem Od.sl {w : World} {B : Nat} {v : Value} {l : List (Nat × Nat)} (h : Od w B v l) : ∃ oa c, v = .slice oa l.length c ∧ l.length ≤ c ∧ c ≤ maxLen := by
 rcases h.2 with ⟨rfl, h0⟩ | ⟨g, cap, cur, rfl, -, -, h1, h2, -⟩
 ·exact ⟨none, 0, by rw [h0], by omega, Nat.zero_le _⟩
 ·exact ⟨_, _, rfl, h1, h2⟩
theorem Od.cell {w : World} {B : Nat} {oa : Option Addr} {c k : Nat} {l : List (Nat × Nat)} {x : Nat × Nat} (h : Od w B (.slice oa l.length c) l) (hk : l[k]? = some x) :
 ∃ g, oa = some ⟨g, 0, none⟩ ∧ w.cell? ⟨g, k * 2, none⟩ = some (.int .i64 (x.1 : Int)) ∧ w.cell? ⟨g, k * 2 + 1, none⟩ = some (.int .i64 (x.2 : Int)) := by
 have hl := (List.getElem?_eq_some_iff.1 hk).1
 obtain ⟨g, rfl, -, -, hc⟩ := own_cells h (by omega)
 obtain ⟨a, b⟩ := dlc_at l k x hk
 exact ⟨g, rfl, hc _ _ a, hc _ _ b⟩
theorem Od.below {w w' : World} {B : Nat} {v : Value} {l : List (Nat × Nat)} (h : Od w B v l) (hb : Below w.heap.size w w') : Od w' B v l := own_below h hb
theorem own_lt2 {w : World} {B : Nat} {v : Value} {l : List Ed} (h : Ow w B v l) : ∀ g, v.ownBlock = some g → g < w.heap.size := by
 intro g hg
 rcases h.2 with ⟨rfl, _⟩ | ⟨b, cap, cur, rfl, q, q2, _⟩
 ·simp [Value.ownBlock] at hg
 ·simp [Value.ownBlock] at hg
  have := heap_lt q2
  omega
def eC (sz bk : Nat) (S R : List (Nat × Nat)) (k : Nat) : List Ed := match R[k]? with
 | none => []
 | some q => (match S[k]? with
    | none => []
    | some p => [⟨p.1, q.2, 3⟩]) ++ (match S[k + sz]? with
    | none => []
    | some p => [⟨q.1, p.2, bk⟩])
def eX (sz bk : Nat) (S R : List (Nat × Nat)) (n : Nat) : List Ed := (List.range n).flatMap (eC sz bk S R)
theorem eX_succ (sz bk : Nat) (S R : List (Nat × Nat)) (n : Nat) : eX sz bk S R (n + 1) = eX sz bk S R n ++ eC sz bk S R n := by
 unfold eX
 rw [List.range_succ, List.flatMap_append]
 simp
theorem eX_len (sz bk : Nat) (S R : List (Nat × Nat)) : ∀ n, (eX sz bk S R n).length ≤ 2 * n
 | 0 => by simp [eX]
 | n + 1 => by
   have := eX_len sz bk S R n
   rw [eX_succ, List.length_append]
   have : (eC sz bk S R n).length ≤ 2 := by
    unfold eC
    split
    ·simp
    ·split <;> split <;> simp
   omega
theorem eC_is {sz bk : Nat} {S R : List (Nat × Nat)} {k : Nat} {q : Nat × Nat} (hq : R[k]? = some q) : eC sz bk S R k = (match S[k]? with
 | none => []
 | some p => [⟨p.1, q.2, 3⟩]) ++ (match S[k + sz]? with
 | none => []
 | some p => [⟨q.1, p.2, bk⟩]) := by
 unfold eC
 rw [hq]
theorem x_app {w : World} {B : Nat} {v : Value} {l : List Ed} (W : World) (ho : Ow w B v l) (hb : Below w.heap.size w W) (e : Ed) (hl : l.length ≤ 90000) (hB : B ≤ w.heap.size) :
 ∃ ea' c' w', (Builtin.append_ #[24, 24] 24 #[v, .slice (some ⟨W.heap.size, 0, none⟩) 1 1]).run Tryz.prog (W.alloc (.cells #[.int .i64 (e.f : Int), .int .i64 (e.t : Int), .int .i64 (e.r : Int)] 70)).drew = .ok (.slice ea' (l.length + 1) c') w' ∧ Ow w' B (.slice ea' (l.length + 1) c') (l ++ [e]) ∧ W.grownBy w' v.ownBlock := by
 have bW := btr (below_alloc W (.cells #[.int .i64 (e.f : Int), .int .i64 (e.t : Int), .int .i64 (e.r : Int)] 70)) (bdrew1 _)
 have hc : (W.alloc (.cells #[.int .i64 (e.f : Int), .int .i64 (e.t : Int), .int .i64 (e.r : Int)] 70)).drew.heap[W.heap.size]? = some (.cells #[.int .i64 (e.f : Int), .int .i64 (e.t : Int), .int .i64 (e.r : Int)] 70) := heap_new W _
 obtain ⟨ea', c', w', h1, h2, h3, -⟩ := app_ed (W.alloc (.cells #[.int .i64 (e.f : Int), .int .i64 (e.t : Int), .int .i64 (e.r : Int)] 70)).drew B v l [e] l.length rfl (own_below ho (btr hb bW)) ⟨W.heap.size, 0, none⟩ 1 1 rfl (fun j u hj => by rw [Addr.add_lit, Nat.zero_add, cell_of hc]; simpa [edc] using hj) (by omega) (by have := hb.size; have := bW.size; omega)
 refine ⟨ea', c', w', h1, ?_, ?_⟩
 ·unfold Ow
  rw [List.length_append]
  exact h2
 ·have g := grown_more (o := v.ownBlock) (grown_of bW)
  exact g.trans h3
end Eg
end Go.Proofs.YtblfimobiibmjaaGreat
namespace Go.Proofs.YtblfimobiibmjaaGreat
open Go.ChangeShapes Go.WideShapes Go.ChangeAt Go.RowKit
namespace Eg
open En Gu Ba
def dl (l : List Ev) (c : Int) (b : Bool) (k : Nat) : List (Nat × Nat) := (done l c b k).map fun i => (bg l i, i)
theorem dl_succ (l : List Ev) (c : Int) (b : Bool) (k : Nat) : dl l c b (k + 1) = dl l c b k ++ (one l c b k).map fun i => (bg l i, i) := by
 unfold dl
 rw [done_succ, List.map_append]
theorem dl_len (l : List Ev) (c : Int) (b : Bool) : ∀ k, (dl l c b k).length ≤ k
 | 0 => by simp [dl, done]
 | k + 1 => by
   have := dl_len l c b k
   rw [dl_succ, List.length_append, List.length_map]
   have : (one l c b k).length ≤ 1 := by
    unfold one
    split
    ·simp
    ·split
     ·simp
     ·split
      ·simp
      ·split <;> simp
   omega
theorem eX_is (l : List Ev) (c : Int) : eX (szF l c) (if szF l c = 0 then 5 else 6) (dl l c true l.length) (dl l c false l.length) (dl l c false l.length).length = chE l c := by
 unfold eX chE
 rw [show (dl l c false l.length).length = (done l c false l.length).length by unfold dl; rw [List.length_map]]
 congr 1
 funext k
 unfold eC outC dl
 rw [List.getElem?_map, List.getElem?_map, List.getElem?_map]
 cases (done l c false l.length)[k]? with
 | none => rfl
 | some q =>
   simp only [Option.map_some]
   cases (done l c true l.length)[k]? <;> cases (done l c true l.length)[k + szF l c]? <;> rfl
structure CM (w : World) (M C : Nat) (sz : Nat → Int) (cl : Nat → Nat) (D : Nat → Bool → List (Nat × Nat)) (vs : Nat → Bool → Value) : Prop where
 row : ∃ cur, w.heap[M]? = some (.cells cur 123 (0, 0)) ∧ cur.size = C * 4 ∧ ∀ c, c < C → cur[c * 4]? = some (.int .i64 (sz c)) ∧ cur[c * 4 + 1]? = some (.int .i64 (cl c : Int)) ∧ cur[c * 4 + 2]? = some (vs c true) ∧ cur[c * 4 + 3]? = some (vs c false)
 od : ∀ c, c < C → ∀ b, Od w (M + 1) (vs c b) (D c b)
 dj : ∀ c b c' b', c < C → c' < C → (c ≠ c' ∨ b ≠ b') → ∀ g, (vs c b).ownBlock = some g → (vs c' b').ownBlock ≠ some g
section
variable {w w' : World} {M C : Nat} {sz : Nat → Int} {cl : Nat → Nat} {D : Nat → Bool → List (Nat × Nat)} {vs : Nat → Bool → Value}
theorem CM.lt (h : CM w M C sz cl D vs) : M < w.heap.size := by
 obtain ⟨cur, a, -⟩ := h.row
 exact heap_lt a
theorem CM.below (h : CM w M C sz cl D vs) (b : Below w.heap.size w w') : CM w' M C sz cl D vs := by
 obtain ⟨cur, a, r⟩ := h.row
 exact ⟨⟨cur, heap_below a b, r⟩, fun c hc x => (h.od c hc x).below b, h.dj⟩
theorem CM.read (h : CM w M C sz cl D vs) {c : Nat} (hc : c < C) : w.cell? ⟨M, c * 4, none⟩ = some (.int .i64 (sz c)) ∧ w.cell? ⟨M, c * 4 + 1, none⟩ = some (.int .i64 (cl c : Int)) ∧ w.cell? ⟨M, c * 4 + 2, none⟩ = some (vs c true) ∧ w.cell? ⟨M, c * 4 + 3, none⟩ = some (vs c false) := by
 obtain ⟨cur, a, -, r⟩ := h.row
 obtain ⟨r0, r1, r2, r3⟩ := r c hc
 exact ⟨(cell_of a _).trans r0, (cell_of a _).trans r1, (cell_of a _).trans r2, (cell_of a _).trans r3⟩
theorem CM.fr (h : CM w M C sz cl D vs) (o : Nat) : w.frozen? ⟨M, o, none⟩ = false := by
 obtain ⟨cur, a, -⟩ := h.row
 exact frozen_of a _
theorem CM.congr {sz' : Nat → Int} {cl' : Nat → Nat} {D' : Nat → Bool → List (Nat × Nat)} {vs' : Nat → Bool → Value} (h : CM w M C sz cl D vs) (e1 : ∀ c, c < C → sz' c = sz c) (e2 : ∀ c, c < C → cl' c = cl c) (e3 : ∀ c, c < C → ∀ b, D' c b = D c b) (e4 : ∀ c, c < C → ∀ b, vs' c b = vs c b) : CM w M C sz' cl' D' vs' := by
 obtain ⟨cur, a, s, r⟩ := h.row
 refine ⟨⟨cur, a, s, fun c hc => ?_⟩, fun c hc b => ?_, fun c b c' b' hc hc' hne g => ?_⟩
 ·rw [e1 c hc, e2 c hc, e4 c hc, e4 c hc]
  exact r c hc
 ·rw [e3 c hc, e4 c hc]
  exact h.od c hc b
 ·rw [e4 c hc, e4 c' hc']
  exact h.dj c b c' b' hc hc' hne g
theorem od_other {B : Nat} {v : Value} {l : List (Nat × Nat)} {k : Nat} {x : Value} {o : Nat} (h : Od w B v l) (hk : k < B) : Od (w.setCell ⟨k, o, none⟩ x) B v l := by
 refine own_keep h fun g hg hl => ?_
 rw [Below.heap_setCell _ _ _ _ (fun e => by have e' : g = k := e; omega)]
theorem CM.size (h : CM w M C sz cl D vs) {c : Nat} (hc : c < C) (x : Int) : CM (w.setCell ⟨M, c * 4, none⟩ (.int .i64 x)) M C (fun y => if y = c then x else sz y) cl D vs := by
 obtain ⟨cur, a, s, r⟩ := h.row
 refine ⟨⟨_, Ba.heap_setCell_same a _, by simpa using s, fun y hy => ?_⟩, fun y hy b => od_other (h.od y hy b) (Nat.lt_succ_self _), h.dj⟩
 obtain ⟨r0, r1, r2, r3⟩ := r y hy
 refine ⟨?_, ?_, ?_, ?_⟩
 ·by_cases e : y = c
  ·subst e
   rw [if_pos rfl]
   exact Array.getElem?_setIfInBounds_self_of_lt (by omega)
  ·rw [if_neg e]
   exact (Array.getElem?_setIfInBounds_ne (by omega)).trans r0
 all_goals exact (Array.getElem?_setIfInBounds_ne (by omega)).trans (by assumption)
theorem CM.close (h : CM w M C sz cl D vs) {c : Nat} (hc : c < C) (x : Nat) : CM (w.setCell ⟨M, c * 4 + 1, none⟩ (.int .i64 (x : Int))) M C sz (fun y => if y = c then x else cl y) D vs := by
 obtain ⟨cur, a, s, r⟩ := h.row
 refine ⟨⟨_, Ba.heap_setCell_same a _, by simpa using s, fun y hy => ?_⟩, fun y hy b => od_other (h.od y hy b) (Nat.lt_succ_self _), h.dj⟩
 obtain ⟨r0, r1, r2, r3⟩ := r y hy
 refine ⟨(Array.getElem?_setIfInBounds_ne (by omega)).trans r0, ?_, (Array.getElem?_setIfInBounds_ne (by omega)).trans r2, (Array.getElem?_setIfInBounds_ne (by omega)).trans r3⟩
 by_cases e : y = c
 ·subst e
  rw [if_pos rfl]
  exact Array.getElem?_setIfInBounds_self_of_lt (by omega)
 ·rw [if_neg e]
  exact (Array.getElem?_setIfInBounds_ne (by omega)).trans r1
theorem CM.put (h : CM w M C sz cl D vs) {c : Nat} (hc : c < C) (b : Bool) {v' : Value} {l' : List (Nat × Nat)} (o' : Od w' (M + 1) v' l') (g : w.grownBy w' (vs c b).ownBlock) (hn : v'.ownBlock = (vs c b).ownBlock ∨ ∀ n, v'.ownBlock = some n → w.heap.size ≤ n) :
 CM (w'.setCell ⟨M, c * 4 + (if b then 2 else 3), none⟩ v') M C sz cl (fun y z => if y = c ∧ z = b then l' else D y z) (fun y z => if y = c ∧ z = b then v' else vs y z) := by
 obtain ⟨cur, a, s, r⟩ := h.row
 have hM : some M ≠ (vs c b).ownBlock := fun e => by have := own_base (h.od c hc b) M e.symm; omega
 have a' : w'.heap[M]? = some (.cells cur 123 (0, 0)) := (g.block M (heap_lt a) hM).trans a
 refine ⟨⟨_, Ba.heap_setCell_same a' _, by simpa using s, fun y hy => ?_⟩, fun y hy z => ?_, fun y z y' z' hy hy' hne q hq => ?_⟩
 ·obtain ⟨r0, r1, r2, r3⟩ := r y hy
  by_cases e : y = c
  ·subst e
   cases b
   ·simp only [if_false, Bool.false_eq_true, true_and, if_true, Bool.true_eq_false]
    refine ⟨?_, ?_, ?_, Array.getElem?_setIfInBounds_self_of_lt (by omega)⟩
    ·exact (Array.getElem?_setIfInBounds_ne (by omega)).trans r0
    ·exact (Array.getElem?_setIfInBounds_ne (by omega)).trans r1
    ·exact (Array.getElem?_setIfInBounds_ne (by omega)).trans r2
   ·simp only [if_false, Bool.false_eq_true, true_and, if_true]
    refine ⟨?_, ?_, Array.getElem?_setIfInBounds_self_of_lt (by omega), ?_⟩
    ·exact (Array.getElem?_setIfInBounds_ne (by omega)).trans r0
    ·exact (Array.getElem?_setIfInBounds_ne (by omega)).trans r1
    ·exact (Array.getElem?_setIfInBounds_ne (by omega)).trans r3
  ·have hx : c * 4 + (if b then 2 else 3) < c * 4 + 4 := by cases b <;> simp
   simp only [e, false_and, if_false]
   refine ⟨?_, ?_, ?_, ?_⟩
   ·exact (Array.getElem?_setIfInBounds_ne (by omega)).trans r0
   ·exact (Array.getElem?_setIfInBounds_ne (by omega)).trans r1
   ·exact (Array.getElem?_setIfInBounds_ne (by omega)).trans r2
   ·exact (Array.getElem?_setIfInBounds_ne (by omega)).trans r3
 ·by_cases e : y = c ∧ z = b
  ·simp only [e, and_self, if_true]
   exact od_other o' (Nat.lt_succ_self _)
  ·simp only [e, if_false]
   refine od_other ?_ (Nat.lt_succ_self _)
   rcases (h.od y hy z).2 with ⟨q1, q2⟩ | ⟨q, cap, cr, q1, q2, q3, q4⟩
   ·exact ⟨(h.od y hy z).1, .inl ⟨q1, q2⟩⟩
   ·refine ⟨(h.od y hy z).1, .inr ⟨q, cap, cr, q1, q2, (g.block q (heap_lt q3) fun e2 => ?_).trans q3, q4⟩⟩
    refine h.dj y z c b hy hc ?_ q (by rw [q1]; rfl) e2.symm
    rcases Classical.em (y = c) with ey | ey
    ·exact .inr fun ez => e ⟨ey, ez⟩
    ·exact .inl ey
 ·have old : ∀ y z, y < C → ¬ (y = c ∧ z = b) → ∀ n, v'.ownBlock = some n → (vs y z).ownBlock ≠ some n := by
   intro y z hy e n hn1 hn2
   rcases hn with q | q
   ·rw [q] at hn1
    refine h.dj y z c b hy hc ?_ n hn2 hn1
    rcases Classical.em (y = c) with ey | ey
    ·exact .inr fun ez => e ⟨ey, ez⟩
    ·exact .inl ey
   ·have q1 := q n hn1
    have q2 := own_lt (h.od y hy z) n hn2
    omega
  by_cases e : y = c ∧ z = b <;> by_cases e' : y' = c ∧ z' = b
  ·obtain ⟨rfl, rfl⟩ := e
   obtain ⟨rfl, rfl⟩ := e'
   simp at hne
  ·simp only [e, e', if_false, and_self, if_true] at hq ⊢
   exact old y' z' hy' e' q hq
  ·simp only [e, e', if_false, and_self, if_true] at hq ⊢
   exact fun q2 => old y z hy e q q2 hq
  ·simp only [e, e', if_false] at hq ⊢
   exact h.dj y z y' z' hy hy' hne q hq
end
end Eg
end Go.Proofs.YtblfimobiibmjaaGreat
namespace Go.Proofs.YtblfimobiibmjaaGreat
open Go.ChangeShapes Go.WideShapes Go.ChangeAt Go.RowKit
namespace Eg
open En Gu Ba
theorem Tok.chk {l : List Ev} (h : Tok l) {i : Nat} {e : Ev} (he : l[i]? = some e) : chk e = 0 := by
 have q := h i e he
 unfold ruleD at q
 split at q
 ·omega
 ·rename_i z
  simp only [not_or, Decidable.not_not] at z
  exact z.2
theorem Tok.c1 {l : List Ev} (h : Tok l) {i : Nat} {e : Ev} (he : l[i]? = some e) : -1 ≤ e.c := (chk_c (h.chk he)).1
theorem chk_v {e : Ev} (h : chk e = 0) (h2 : e.k = 2) : e.v ≤ 4 := by
 have hk : ¬ (e.k < 1 ∨ 13 < e.k) := fun q => by simp [chk, q] at h
 have hb : (ff e && okF e) = true := by
  apply Classical.byContradiction
  intro q
  simp [chk, hk, q] at h
 have hf : ff e = true := by revert hb; cases ff e <;> simp
 have ho : okF e = true := by revert hb; rw [hf]; simp
 have o3 := okF_at ho 3 (by decide)
 obtain ⟨k, g, c, a, v, m, s, o⟩ := e
 simp only at h2
 subst h2
 simp [okA, spn, En.fl, Ba.nth, inS] at o3
 show v ≤ 4
 omega
def svL (l : List Ev) (i : Nat) (e : Ev) : List (Nat × Nat) := if e.m = -1 ∨ i + 1 = l.length then [] else [(bg l (i + 1), i + 1)]
theorem service_any (oa : Option Addr) (l : List Ev) (c i : Nat) (e : Ev) (w : World) (hA : EsAt w oa l) (h : Tok l) (he : l[i]? = some e) (hl : l.length ≤ 2000) :
 Calls Tryz.prog 66 #[.slice oa l.length c, .int .i64 (i : Int)] w fun r w' => (∃ v, r = .returned v ∧ Od w' w.heap.size v (svL l i e)) ∧ Below w.heap.size w w' := by
 have hi := (List.getElem?_eq_some_iff.1 he).1
 by_cases hs : e.m = -1 ∨ i + 1 = l.length
 ·refine (service_none oa l c i e w hA he hl hs).mono ?_
  rintro r w' ⟨rfl, b⟩
  unfold svL
  rw [if_pos hs]
  exact ⟨⟨_, rfl, ⟨rfl, .inl ⟨rfl, rfl⟩⟩⟩, b⟩
 ·refine (service_one oa l c i e w hA h he hl (fun q => hs (.inl q)) (by have : i + 1 ≠ l.length := fun q => hs (.inr q); omega)).mono ?_
  rintro r w' ⟨⟨g, rfl, hg, hc⟩, b⟩
  unfold svL
  rw [if_neg hs]
  refine ⟨⟨_, rfl, ⟨rfl, .inr ⟨g, 1, _, rfl, hg, hc, Nat.le_refl _, by decide, rfl, rfl⟩⟩⟩, b⟩
theorem od_one {W : World} {g : Nat} {x : Nat × Nat} (hc : W.heap[g]? = some (.cells #[.int .i64 (x.1 : Int), .int .i64 (x.2 : Int)] 125)) : Od W g (.slice (some ⟨g, 0, none⟩) 1 1) [x] :=
 ⟨rfl, .inr ⟨g, 1, _, rfl, Nat.le_refl _, hc, Nat.le_refl _, by decide, rfl, rfl⟩⟩
theorem app_od {w : World} {B B2 : Nat} {v v2 : Value} {l l2 : List (Nat × Nat)} (ho : Od w B v l) (h2 : Od w B2 v2 l2) (hl : l.length + l2.length ≤ 100000) (hb : B ≤ w.heap.size) :
 ∃ v' w', (Builtin.append_ #[121, 121] 121 #[v, v2]).run Tryz.prog w = .ok v' w' ∧ Od w' B v' (l ++ l2) ∧ w.grownBy w' v.ownBlock ∧ (v'.ownBlock = v.ownBlock ∨ v'.ownBlock = some w.heap.size) := by
 obtain ⟨i0, hi, hz, hs, hby⟩ := info_ex info_dt0
 obtain ⟨oa, c, rfl, -, -⟩ := h2.sl
 rcases oa with _ | ⟨g, o, x⟩
 ·have h0 : l2.length = 0 := by
   rcases h2.2 with ⟨-, q⟩ | ⟨g, cap, cur, q, -⟩
   ·exact q
   ·cases q
  have hl0 : l2 = [] := List.length_eq_zero_iff.1 h0
  subst hl0
  obtain ⟨ob, cb, rfl, -, -⟩ := ho.sl
  refine ⟨_, w, run_app_none B 121 121 125 i0 2 Tryz.underlying121 hi ob l.length cb c _ ho, by simpa using ho, grown_refl _ _, .inl rfl⟩
 ·obtain ⟨rfl, rfl⟩ : o = 0 ∧ x = none := by
   rcases h2.2 with ⟨q, -⟩ | ⟨g, cap, cur, q, -⟩
   ·cases q
   ·cases q; exact ⟨rfl, rfl⟩
  obtain ⟨cur, hg, hcell⟩ : ∃ cur, w.heap[g]? = some (.cells cur 125 (0, 0)) ∧ ∀ k, k < l2.length * 2 → cur[k]? = (dlc l2)[k]? := by
   rcases h2.2 with ⟨q, -⟩ | ⟨g', cap', cur, q, q1, q2, q3, q4, q5, q6⟩
   ·cases q
   ·simp only [Value.slice.injEq, Option.some.injEq, Addr.mk.injEq, and_true, true_and] at q
    obtain ⟨rfl, rfl⟩ := q
    refine ⟨cur, q2, fun k hk => ?_⟩
    rw [← q6, List.getElem?_take, if_pos (by omega)]
    simp
  obtain ⟨ea', c', w', h3, h4, h5, -, h6⟩ := app_dl w B v l l2 l.length rfl ho ⟨g, 0, none⟩ l2.length c rfl (fun j u hj => by
   have hj2 := (List.getElem?_eq_some_iff.1 hj).1
   rw [dlc_len] at hj2
   rw [Addr.add_lit, Nat.zero_add, cell_of hg, hcell j hj2, hj]) hl hb
  refine ⟨_, w', h3, ?_, h5, h6⟩
  unfold Od
  rw [List.length_append]
  exact h4
theorem dl_same {l : List Ev} {c : Int} {b : Bool} {k : Nat} (h : one l c b k = []) : dl l c b (k + 1) = dl l c b k := by
 rw [dl_succ, h]
 simp
theorem one_not {l : List Ev} {k : Nat} {e : Ev} (he : l[k]? = some e) {c : Int} (b : Bool) (h : e.c ≠ c ∨ moves e = false) : one l c b k = [] := by
 unfold one
 rw [he]
 simp only
 rw [if_pos h]
theorem dl_own {l : List Ev} {k : Nat} {e : Ev} (he : l[k]? = some e) (hm : moves e = true) : dl l e.c e.s (k + 1) = dl l e.c e.s k ++ [(bg l k, k)] := by
 rw [dl_succ]
 unfold one
 rw [he]
 simp [hm]
theorem dl_svc {l : List Ev} {k : Nat} {e : Ev} (he : l[k]? = some e) (hm : moves e = true) (h1 : -1 ≤ e.m) : dl l e.c (!e.s) (k + 1) = dl l e.c (!e.s) k ++ svL l k e := by
 rw [dl_succ]
 unfold one svL
 have hk := (List.getElem?_eq_some_iff.1 he).1
 rw [he]
 simp only [ne_eq, not_true_eq_false, hm, Bool.true_eq_false, or_self, if_false]
 rw [if_neg (by cases e.s <;> simp)]
 by_cases h : 0 ≤ e.m ∧ k + 1 < l.length
 ·rw [if_pos h, if_neg (by omega)]
  rfl
 ·rw [if_neg h, if_pos (by omega)]
  rfl
theorem size_next {l : List Ev} {k : Nat} {e : Ev} (he : l[k]? = some e) (c : Int) : (inn l (k + 1) c).size = if e.c = c ∧ e.k = 2 then e.v else (inn l k c).size := by
 rw [inn_succ he]
 unfold ins
 by_cases h : e.c ≠ c
 ·rw [if_pos h, if_neg (fun q => h q.1)]
 ·rw [if_neg h]
  have hc : e.c = c := Classical.not_not.1 h
  by_cases hm : moves e = true
  ·rw [if_pos hm, mov_size, if_neg]
   intro q
   unfold moves at hm
   simp [q.2] at hm
  ·rw [if_neg hm]
   show (if e.k = 2 then e.v else (inn l k c).size) = if e.c = c ∧ e.k = 2 then e.v else (inn l k c).size
   simp [hc]
theorem cl_next {l : List Ev} {k : Nat} {e : Ev} (he : l[k]? = some e) (c : Int) : clF l c (k + 1) = if e.k = 5 ∧ e.c = c then k else clF l c k := by
 show (match l[k]? with | some e => if e.k = 5 ∧ e.c = c then k else clF l c k | none => clF l c k) = _
 rw [he]
theorem ce_next (l : List Ev) (k : Nat) : clE l (k + 1) = clE l k ++ out4 l k := by
 unfold clE
 rw [List.range_succ, List.flatMap_append]
 simp
theorem ce_len (l : List Ev) : ∀ k, (clE l k).length ≤ k
 | 0 => by simp [clE]
 | k + 1 => by
   have := ce_len l k
   rw [ce_next, List.length_append]
   have : (out4 l k).length ≤ 1 := by
    unfold out4
    split
    ·simp
    ·split <;> simp
   omega
theorem ce_same {l : List Ev} {k : Nat} {e : Ev} (he : l[k]? = some e) (h : ¬ (e.c ≠ -1 ∧ (e.k = 4 ∨ e.k = 7) ∧ e.o = false)) : clE l (k + 1) = clE l k := by
 rw [ce_next]
 unfold out4
 rw [he]
 simp only
 rw [if_neg h, List.append_nil]
theorem ce_more {l : List Ev} {k : Nat} {e : Ev} (he : l[k]? = some e) (h : e.c ≠ -1 ∧ (e.k = 4 ∨ e.k = 7) ∧ e.o = false) : clE l (k + 1) = clE l k ++ [⟨clF l e.c k, k, 4⟩] := by
 rw [ce_next]
 unfold out4
 rw [he]
 simp only
 rw [if_pos h]
end Eg
end Go.Proofs.YtblfimobiibmjaaGreat
