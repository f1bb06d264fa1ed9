import Derived.Test.YtkkgbeaaekmhfaaGreatZjGl3
import Derived.Maps.AppendAt
import Derived.LoopN
import Derived.Deep.RegionHeld3
import Derived.Deep.AppendLies
namespace Go.Proofs.YtkkgbeaaekmhfaaGreat
open Go.ChangeShapes Go.WideShapes Go.ChangeAt Go.RowKit
namespace Gu
open En Ba
theorem put_few (L : List Int) (e : Ev) (nx : Option Ev) : (put L e nx).length ≤ L.length + 1 := by
 unfold put
 split
 ·simp
 ·split
  ·cases nx <;> simp
  ·simp
theorem ins_few (s : In) (c : Int) (e : Ev) (nx : Option Ev) : (ins s c e nx).L.length ≤ s.L.length + 1 := by
 unfold ins
 split
 ·exact Nat.le_succ _
 ·split
  ·have := put_few s.L e nx
   unfold mov
   split
   ·split
    ·rename_i v r hq
     rw [hq] at this
     simp at this ⊢
     omega
    ·simp
   ·exact this
  ·exact Nat.le_succ _
theorem inn_few (l : List Ev) (k : Nat) (c : Int) : (inn l k c).L.length ≤ k := by
 induction k with
 | zero => simp [inn, in0]
 | succ k ih =>
   unfold inn
   split
   ·exact Nat.le_trans (ins_few _ _ _ _) (by omega)
   ·omega
theorem IG.bn {l : List Ev} {k : Nat} {s : Gs} (I : IG l k s) (hk : k ≤ 2000) : Bn s 2900 := by
 have h1 : ∀ (p : Ev → Bool), (l.take k).countP p ≤ k := fun p => Nat.le_trans List.countP_le_length (by simp; omega)
 refine ⟨?_, ?_, fun j d hd => ?_⟩
 ·have := I.c.len
  have := h1 (fun x => decide (x.k = 1))
  unfold there at *
  omega
 ·have := I.m.len
  have := h1 (fun x => decide (x.k = 2))
  omega
 ·have hl : j < s.ch.length := (List.getElem?_eq_some_iff.1 hd).1
  have h2 := (I.m.at_ j hl).1
  rw [List.getD_eq_getElem?_getD, hd] at h2
  have h3 : d.vs = (inn l k (j : Int)).L := congrArg Chn.vs h2
  have := inn_few l k (j : Int)
  rw [h3]
  omega
theorem gw0 (w : World) (oa : Option Addr) (n c : Nat) : GW (((w.alloc (.cells #[.int .i64 0] 3)).alloc (.map #[] 0)).alloc (.cells #[.slice oa n c, .slice (some ⟨w.heap.size, 0, none⟩) 1 1, .map (some (w.heap.size + 1)), .bool false, .int .i64 0, .int .i64 0, .int .i64 0, .int .i64 0, .int .i64 0, .int .i64 0, .bool false, .bool false] 51)) w.heap.size (w.heap.size + 1 + 1) (.slice oa n c) gs0 := by
 have hR := heap_new ((w.alloc (.cells #[.int .i64 0] 3)).alloc (.map #[] 0)) (.cells #[.slice oa n c, .slice (some ⟨w.heap.size, 0, none⟩) 1 1, .map (some (w.heap.size + 1)), .bool false, .int .i64 0, .int .i64 0, .int .i64 0, .int .i64 0, .int .i64 0, .int .i64 0, .bool false, .bool false] 51)
 rw [World.size_alloc, World.size_alloc] at hR
 have hS := heap_below (heap_below (heap_new w (.cells #[.int .i64 0] 3)) (below_alloc _ (.map #[] 0))) (below_alloc _ (.cells #[.slice oa n c, .slice (some ⟨w.heap.size, 0, none⟩) 1 1, .map (some (w.heap.size + 1)), .bool false, .int .i64 0, .int .i64 0, .int .i64 0, .int .i64 0, .int .i64 0, .int .i64 0, .bool false, .bool false] 51))
 have hM := ((World.ownsMap_made (w.alloc (.cells #[.int .i64 0] 3)) Tryz.prog 3 mE).alloc (.cells #[.slice oa n c, .slice (some ⟨w.heap.size, 0, none⟩) 1 1, .map (some (w.heap.size + 1)), .bool false, .int .i64 0, .int .i64 0, .int .i64 0, .int .i64 0, .int .i64 0, .int .i64 0, .bool false, .bool false] 51)).mono (Nat.zero_le 100000)
 rw [World.size_alloc] at hM
 exact ⟨w.heap.size + 1, .slice (some ⟨w.heap.size, 0, none⟩) 1 1, .map [], [], ⟨by omega, by omega⟩, hR, ⟨rfl, .inr ⟨w.heap.size, 1, #[.int .i64 0], rfl, Nat.le_refl _, hS, Nat.le_refl _, by unfold maxLen; omega, by simp, by simp [ic, gs0]⟩⟩, hM, MI.nil, rfl, (fun i x c hx => by simp at hx), (fun i j x y hx => by simp at hx), (fun i x hx => by simp at hx)⟩
theorem hmf : ∀ (fn : Fn) (first cap : Array Value) (w : World), (Instr.makeFunc fn first cap).run Tryz.prog w = .ok (.func fn first cap) w := fun _ _ _ _ => rfl
set_option maxRecDepth 100000 in
set_option maxHeartbeats 6400000 in
theorem gcheck_any (oa : Option Addr) (l : List Ev) (c : Nat) (w : World) (hA : EsAt w oa l) (hl : l.length ≤ 2000) :
 Calls Tryz.prog 9 #[.slice oa l.length c] w fun r w' => (∃ n a, r = .returned (.tuple #[.int .i64 n, .int .i64 a]) ∧ Chk l n a) ∧ Below w.heap.size w w' := by
 have HA := hide hA
 have HL := hide hl
 have hmm := @run_makeMap Tryz.prog
 obtain ⟨M, hM⟩ : ∃ M, l.length = M := ⟨_, rfl⟩
 have HM := hide hM
 obtain ⟨ev, hev⟩ : ∃ ev, Value.slice oa l.length c = ev := ⟨_, rfl⟩
 have HEV := hide hev
 have G0 := hide (gw0 w oa l.length c)
 have B0 := hide (btr (btr (below_alloc w (.cells #[.int .i64 0] 3)) (below_alloc _ (.map #[] 0))) (below_alloc _ (.cells #[.slice oa l.length c, .slice (some ⟨w.heap.size, 0, none⟩) 1 1, .map (some (w.heap.size + 1)), .bool false, .int .i64 0, .int .i64 0, .int .i64 0, .int .i64 0, .int .i64 0, .int .i64 0, .bool false, .bool false] 51)))
 rw [hM] at hl G0 B0 ⊢
 clear hA hM hev
 go_enter Tryz.func9, Tryz.ntmps9
 go_upto_region 3 with fail
 clear hmm
 generalize ((w.alloc (.cells #[.int .i64 0] 3)).alloc (.map #[] 0)).alloc (.cells #[.slice oa M c, .slice (some ⟨w.heap.size, 0, none⟩) 1 1, .map (some (w.heap.size + 1)), .bool false, .int .i64 0, .int .i64 0, .int .i64 0, .int .i64 0, .int .i64 0, .int .i64 0, .bool false, .bool false] 51) = W0 at *
 obtain ⟨R, hR⟩ : ∃ R, w.heap.size + 1 + 1 = R := ⟨_, rfl⟩
 rw [hR] at G0 ⊢
 clear hR
 go_loopw [13] (fun i wr => ∃ (k : Nat) (s : Gs), k ≤ M ∧ i = .int .i64 (k : Int) ∧ IG l k s ∧ (∀ j, j < k → ∀ x, l[j]? = some x → ruleD l j x = 0) ∧ GW wr w.heap.size R (.slice oa M c) s ∧ Fb w.heap.size w wr) (fun i _ => M - (intOf i).toNat)
 case atStart => exact ⟨0, gs0, Nat.zero_le _, rfl, IG.nil l, fun j hj => absurd hj (Nat.not_lt_zero _), G0.out, Fb.of B0.out (Nat.le_refl _)⟩
 case round =>
  obtain ⟨k, s, hk, rfl, ig, hall, g, fb⟩ := hrel
  have IG0 := hide ig
  have ALL := hide hall
  have HG := hide g
  have FB := hide fb
  clear ig hall g fb G0 B0
  by_cases hlt : k < M
  ·have hlt' : (k : Int) < (M : Int) := by omega
   obtain ⟨e, he⟩ : ∃ e, l[k]? = some e := ⟨_, List.getElem?_eq_getElem (by rw [HM.out]; omega)⟩
   have HE := hide he
   have BN := hide (IG0.out.bn (by omega))
   have AL := below_alloc wr (.cells #[.func (.func 19) #[.pointer (some ⟨R, 0, none⟩)] #[], .func (.func 20) #[.pointer (some ⟨R, 0, none⟩)] #[], .func (.func 21) #[.pointer (some ⟨R, 0, none⟩)] #[], .func (.func 22) #[.pointer (some ⟨R, 0, none⟩)] #[], .func (.func 23) #[.pointer (some ⟨R, 0, none⟩)] #[], .func (.func 24) #[.pointer (some ⟨R, 0, none⟩)] #[]] 53)
   have FB1 := hide (FB.out.trans (Fb.of AL (by have := FB.out.size; omega)))
   have CT : Hid (Calls Tryz.prog 18 #[.int .i64 (k : Int), .slice (some ⟨wr.heap.size, 0, none⟩) 6 6] (wr.alloc (.cells #[.func (.func 19) #[.pointer (some ⟨R, 0, none⟩)] #[], .func (.func 20) #[.pointer (some ⟨R, 0, none⟩)] #[], .func (.func 21) #[.pointer (some ⟨R, 0, none⟩)] #[], .func (.func 22) #[.pointer (some ⟨R, 0, none⟩)] #[], .func (.func 23) #[.pointer (some ⟨R, 0, none⟩)] #[], .func (.func 24) #[.pointer (some ⟨R, 0, none⟩)] #[]] 53)) fun r w' => BrP k e l[k + 1]? s w.heap.size R (.slice oa M c) (wr.alloc (.cells #[.func (.func 19) #[.pointer (some ⟨R, 0, none⟩)] #[], .func (.func 20) #[.pointer (some ⟨R, 0, none⟩)] #[], .func (.func 21) #[.pointer (some ⟨R, 0, none⟩)] #[], .func (.func 22) #[.pointer (some ⟨R, 0, none⟩)] #[], .func (.func 23) #[.pointer (some ⟨R, 0, none⟩)] #[], .func (.func 24) #[.pointer (some ⟨R, 0, none⟩)] #[]] 53)) r w') := by
    show Calls _ _ _ _ _
    have g := HG.out
    rw [← HM.out] at g ⊢
    have hg : GW (wr.alloc (.cells #[.func (.func 19) #[.pointer (some ⟨R, 0, none⟩)] #[], .func (.func 20) #[.pointer (some ⟨R, 0, none⟩)] #[], .func (.func 21) #[.pointer (some ⟨R, 0, none⟩)] #[], .func (.func 22) #[.pointer (some ⟨R, 0, none⟩)] #[], .func (.func 23) #[.pointer (some ⟨R, 0, none⟩)] #[], .func (.func 24) #[.pointer (some ⟨R, 0, none⟩)] #[]] 53)) w.heap.size R (.slice oa l.length c) s := by obtain ⟨mb, vs, D, cs, g⟩ := g; exact ⟨mb, vs, D, cs, g.below AL⟩
    exact bro_any hg HA.out rfl FB1.out.b HE.out BN.out (by have := HL.out; omega) (heap_new wr (.cells #[.func (.func 19) #[.pointer (some ⟨R, 0, none⟩)] #[], .func (.func 20) #[.pointer (some ⟨R, 0, none⟩)] #[], .func (.func 21) #[.pointer (some ⟨R, 0, none⟩)] #[], .func (.func 22) #[.pointer (some ⟨R, 0, none⟩)] #[], .func (.func 23) #[.pointer (some ⟨R, 0, none⟩)] #[], .func (.func 24) #[.pointer (some ⟨R, 0, none⟩)] #[]] 53))
   clear AL he
   have mf := hmf
   go_wp2_with fail
   refine CT.out.mono ?_
   rintro r w1 ⟨⟨n, hst, rfl⟩ | ⟨s', hst, rfl, g1⟩, fb1⟩
   ·rcases stepG_is IG0.out HE.out with ⟨n', hn0, hrd, hq⟩ | ⟨-, t, hq, -⟩
    ·rw [hst] at hq
     injection hq with hq
     subst hq
     have dn : (n != 0) = true := by simp [hn0]
     have FIN : Hid (Chk l n (k : Int)) := .inl ⟨k, e, HE.out, by rw [hrd]; exact hn0, hrd.symm, rfl, ALL.out⟩
     have FB2 := hide (FB1.out.trans fb1)
     clear hst hn0 hrd fb1 mf
     go_wp2_with fail
     go_ret2
     exact ⟨⟨_, _, rfl, FIN.out⟩, FB2.out.b⟩
    ·rw [hst] at hq; cases hq
   ·rcases stepG_is IG0.out HE.out with ⟨n', hn0, hrd, hq⟩ | ⟨hrd, t, hq, ig'⟩
    ·rw [hst] at hq; cases hq
    ·rw [hst] at hq
     injection hq with hq
     subst hq
     have IG1 := hide ig'
     have G1 := hide g1
     have FB2 := hide (FB1.out.trans fb1)
     have AL1 : Hid (∀ j, j < k + 1 → ∀ x, l[j]? = some x → ruleD l j x = 0) := fun j hj x hx => by
      by_cases hjk : j = k
      ·subst hjk; rw [HE.out] at hx; cases hx; exact hrd
      ·exact ALL.out j (by omega) x hx
     clear hst hrd fb1 ig' g1 mf
     go_wp2_with fail
     go_roundw
     case measure => simp [intOf]; omega
     case rel => exact ⟨k + 1, s', by omega, by simp, IG1.out, AL1.out, G1.out, FB2.out⟩
  ·have hge : k = M := by omega
   have dl : decide ((k : Int) < (M : Int)) = false := by simp; omega
   have dl2 : decide (k < M) = false := by simp; omega
   have IG1 : Hid (IG l l.length s) := by show IG _ _ _; rw [HM.out, ← hge]; exact IG0.out
   have AL1 : Hid (∀ j x, l[j]? = some x → ruleD l j x = 0) := fun j x hx => ALL.out j (by have := (List.getElem?_eq_some_iff.1 hx).1; have := HM.out; omega) x hx
   have OW := hide (owed_any HG.out)
   have OI := hide IG1.out.owed
   obtain ⟨ow, how⟩ : ∃ ow, owed s.la = ow := ⟨_, rfl⟩
   rw [how] at OW OI
   clear hge how hlt
   go_wp2_with fail
   refine OW.out.mono ?_
   rintro r w1 ⟨rfl, rfl⟩
   cases ow
   ·have FIN : Hid (Chk l 0 0) := .inr ⟨AL1.out, by rw [← OI.out]; rfl⟩
    go_wp2_with fail
    go_ret2
    exact ⟨⟨_, _, rfl, FIN.out⟩, FB.out.b⟩
   ·have FIN : Hid (Chk l 4 (M : Int)) := .inr ⟨AL1.out, by rw [← OI.out, HM.out]; rfl⟩
    go_wp2_with fail
    go_ret2
    exact ⟨⟨_, _, rfl, FIN.out⟩, FB.out.b⟩
end Gu
end Go.Proofs.YtkkgbeaaekmhfaaGreat
namespace Go.Proofs.YtkkgbeaaekmhfaaGreat
open Go.ChangeShapes Go.WideShapes Go.ChangeAt Go.RowKit
namespace Gu
open En Ba
theorem num_any (e : Ev) (w : World) : Calls Tryz.prog 27 #[evv e] w fun r w' => r = .returned (.tuple #[.int .i64 e.m, .bool (e.k == 1)]) ∧ Below w.heap.size w w' := by
 have B1 := hide (btr (below_alloc w (.cells #[.int .i64 e.k, .int .i64 e.g, .int .i64 e.c, .int .i64 e.a, .int .i64 e.v, .int .i64 e.m, .bool e.s, .bool e.o] 35)) (bdrew1 _))
 have E1 := heap_new w (.cells #[.int .i64 e.k, .int .i64 e.g, .int .i64 e.c, .int .i64 e.a, .int .i64 e.v, .int .i64 e.m, .bool e.s, .bool e.o] 35)
 have v0 : (w.alloc (.cells #[.int .i64 e.k, .int .i64 e.g, .int .i64 e.c, .int .i64 e.a, .int .i64 e.v, .int .i64 e.m, .bool e.s, .bool e.o] 35)).drew.cell? ⟨w.heap.size, 0, none⟩ = some (.int .i64 e.k) := cell_of E1 0
 have v5 : (w.alloc (.cells #[.int .i64 e.k, .int .i64 e.g, .int .i64 e.c, .int .i64 e.a, .int .i64 e.v, .int .i64 e.m, .bool e.s, .bool e.o] 35)).drew.cell? ⟨w.heap.size, 5, none⟩ = some (.int .i64 e.m) := cell_of E1 5
 clear E1
 unfold evv evc
 go_enter Tryz.func27, Tryz.ntmps27
 go_wp2_with fail
 generalize w.alloc (.cells #[.int .i64 e.k, .int .i64 e.g, .int .i64 e.c, .int .i64 e.a, .int .i64 e.v, .int .i64 e.m, .bool e.s, .bool e.o] 35) = W1 at *
 go_region
 all_goals
  go_wp2_with fail
  go_ret2
  exact ⟨rfl, B1.out⟩
set_option maxHeartbeats 1600000 in
theorem cnt_no (oa : Option Addr) (l : List Ev) (c : Nat) (w : World) (hA : EsAt w oa l) (hl : l.length ≤ 2000) (hk : ∀ (i : Nat) e, l[i]? = some e → e.k ≠ 1) :
 Calls Tryz.prog 26 #[.slice oa l.length c, .func (.func 27) #[] #[]] w fun r w' => r = .returned (.int .i64 0) ∧ Below w.heap.size w w' := by
 have HA := hide hA
 have HK := hide hk
 obtain ⟨M, hM⟩ : ∃ M, l.length = M := ⟨_, rfl⟩
 have HM := hide hM
 rw [hM] at hl ⊢
 clear hA hk hM
 go_enter Tryz.func26, Tryz.ntmps26
 go_wp2_with fail
 go_loopw [5, 12] (fun m i wr => ∃ k : Nat, k ≤ M ∧ m = .int .i64 0 ∧ i = .int .i64 (k : Int) ∧ Below w.heap.size w wr) (fun _ i _ => M - (intOf i).toNat)
 case atStart => exact ⟨0, Nat.zero_le _, rfl, rfl, Below.refl _ _⟩
 case round =>
  obtain ⟨k, hkM, rfl, rfl, bl⟩ := hrel
  have BL := hide bl
  have EA := hide (HA.out.below bl)
  clear bl
  by_cases hlt : k < M
  ·have hlt' : (k : Int) < (M : Int) := by omega
   obtain ⟨e, he⟩ : ∃ e, l[k]? = some e := ⟨_, List.getElem?_eq_getElem (by rw [HM.out]; omega)⟩
   obtain ⟨b1, o1, rfl, -⟩ := EA.out k e he
   obtain ⟨p0, p1, p2, p3, p4, p5, p6, p7⟩ := EA.out.read he
   have hk1 := HK.out k e he
   have d1 : (e.k == 1) = false := by simp [hk1]
   have CN := hide (num_any e (wr.alloc (.cells #[.int .i64 e.k, .int .i64 e.g, .int .i64 e.c, .int .i64 e.a, .int .i64 e.v, .int .i64 e.m, .bool e.s, .bool e.o] 35)))
   unfold evv evc at CN
   rw [d1] at CN
   have BA := hide (btr BL.out (below_alloc wr (.cells #[.int .i64 e.k, .int .i64 e.g, .int .i64 e.c, .int .i64 e.a, .int .i64 e.v, .int .i64 e.m, .bool e.s, .bool e.o] 35)))
   clear he hk1
   go_wp2_with fail
   refine CN.out.mono ?_
   rintro r w1 ⟨rfl, b2⟩
   have B2 := hide (btr BA.out b2)
   clear b2
   go_wp2_with fail
   go_roundw
   case measure => simp [intOf]; omega
   case rel => exact ⟨k + 1, by omega, rfl, by simp, B2.out⟩
  ·have dl : decide ((k : Int) < (M : Int)) = false := by simp; omega
   have dl2 : decide (k < M) = false := by simp; omega
   clear hlt
   go_wp2_with fail
   go_ret
   exact ⟨rfl, BL.out⟩
theorem gors_no (oa : Option Addr) (l : List Ev) (c : Nat) (w : World) (hA : EsAt w oa l) (hl : l.length ≤ 2000) (hk : ∀ (i : Nat) e, l[i]? = some e → e.k ≠ 1) :
 Calls Tryz.prog 11 #[.slice oa l.length c] w fun r w' => r = .returned (.int .i64 1) ∧ Below w.heap.size w w' := by
 have CN := hide (cnt_no oa l c w hA hl hk)
 generalize l.length = M at *
 clear hA hk
 go_enter Tryz.func11, Tryz.ntmps11
 go_wp2_with fail
 refine CN.out.mono ?_
 rintro r w1 ⟨rfl, b2⟩
 go_wp2_with fail
 go_ret
 exact ⟨rfl, b2⟩
def ex : Ev := ⟨11, 0, -1, -1, -1, -1, false, false⟩
theorem ex2 : Chk [ex, ex] 2 1 := .inl ⟨1, ex, rfl, by decide, by decide, rfl, fun j hj x hx => by
 have : j = 0 := by omega
 subst this
 cases hx
 decide⟩
theorem ex1 : Chk [ex] 0 0 := .inr ⟨fun j x hx => by
 have : j = 0 := by have := (List.getElem?_eq_some_iff.1 hx).1; simp at this; exact this
 subst this
 cases hx
 decide, by decide⟩
theorem ex_at {w : World} {B : Nat} (h : w.heap[B]? = some (.cells #[.int .i64 11, .int .i64 0, .int .i64 (-1), .int .i64 (-1), .int .i64 (-1), .int .i64 (-1), .bool false, .bool false] 35 (0, 0))) : EsAt w (some ⟨B, 0, none⟩) [ex] := fun i e he => by
 have : i = 0 := by have := (List.getElem?_eq_some_iff.1 he).1; simp at this; exact this
 subst this
 cases he
 refine ⟨B, 0, rfl, fun j hj => ?_⟩
 rw [cell_of h]
 match j, hj with
 | 0, _ => rfl
 | 1, _ => rfl
 | 2, _ => rfl
 | 3, _ => rfl
 | 4, _ => rfl
 | 5, _ => rfl
 | 6, _ => rfl
 | 7, _ => rfl
theorem ex_at2 {w : World} {B : Nat} (h : w.heap[B]? = some (.cells #[.int .i64 11, .int .i64 0, .int .i64 (-1), .int .i64 (-1), .int .i64 (-1), .int .i64 (-1), .bool false, .bool false, .int .i64 11, .int .i64 0, .int .i64 (-1), .int .i64 (-1), .int .i64 (-1), .int .i64 (-1), .bool false, .bool false] 35 (0, 0))) : EsAt w (some ⟨B, 0, none⟩) [ex, ex] := fun i e he => by
 have hi : i = 0 ∨ i = 1 := by have := (List.getElem?_eq_some_iff.1 he).1; simp at this; omega
 rcases hi with rfl | rfl
 ·cases he
  refine ⟨B, 0, rfl, fun j hj => ?_⟩
  rw [cell_of h]
  match j, hj with
  | 0, _ => rfl
  | 1, _ => rfl
  | 2, _ => rfl
  | 3, _ => rfl
  | 4, _ => rfl
  | 5, _ => rfl
  | 6, _ => rfl
  | 7, _ => rfl
 ·cases he
  refine ⟨B, 0, rfl, fun j hj => ?_⟩
  rw [cell_of h]
  match j, hj with
  | 0, _ => rfl
  | 1, _ => rfl
  | 2, _ => rfl
  | 3, _ => rfl
  | 4, _ => rfl
  | 5, _ => rfl
  | 6, _ => rfl
  | 7, _ => rfl
set_option maxRecDepth 100000 in
set_option maxHeartbeats 3200000 in
theorem exits_any (w : World) : Calls Tryz.prog 7 #[] w fun r w' => r = .returned (.bool true) ∧ Below w.heap.size w w' := by
 have A0 := below_alloc w (.cells #[.int .i64 11, .int .i64 0, .int .i64 (-1), .int .i64 (-1), .int .i64 (-1), .int .i64 (-1), .bool false, .bool false] 35)
 have h0 := heap_new w (.cells #[.int .i64 11, .int .i64 0, .int .i64 (-1), .int .i64 (-1), .int .i64 (-1), .int .i64 (-1), .bool false, .bool false] 35)
 have A1 := below_alloc (w.alloc (.cells #[.int .i64 11, .int .i64 0, .int .i64 (-1), .int .i64 (-1), .int .i64 (-1), .int .i64 (-1), .bool false, .bool false] 35)) (.cells #[.int .i64 11, .int .i64 0, .int .i64 (-1), .int .i64 (-1), .int .i64 (-1), .int .i64 (-1), .bool false, .bool false, .int .i64 11, .int .i64 0, .int .i64 (-1), .int .i64 (-1), .int .i64 (-1), .int .i64 (-1), .bool false, .bool false] 35)
 have h1 := heap_new (w.alloc (.cells #[.int .i64 11, .int .i64 0, .int .i64 (-1), .int .i64 (-1), .int .i64 (-1), .int .i64 (-1), .bool false, .bool false] 35)) (.cells #[.int .i64 11, .int .i64 0, .int .i64 (-1), .int .i64 (-1), .int .i64 (-1), .int .i64 (-1), .bool false, .bool false, .int .i64 11, .int .i64 0, .int .i64 (-1), .int .i64 (-1), .int .i64 (-1), .int .i64 (-1), .bool false, .bool false] 35)
 rw [World.size_alloc] at h1
 have C1 := hide (gcheck_any (some ⟨w.heap.size + 1, 0, none⟩) [ex, ex] 2 _ (ex_at2 h1) (by decide))
 have B1 := hide (btr A0 A1)
 have H1 := hide (heap_below h0 A1)
 clear A0 h0 A1 h1
 go_enter Tryz.func7, Tryz.ntmps7
 go_wp2_with fail
 refine C1.out.mono ?_
 rintro r w1 ⟨⟨n, a, rfl, hc⟩, b1⟩
 obtain ⟨rfl, rfl⟩ := hc.eq ex2
 have B2 := hide (btr B1.out b1)
 have H2 := hide (heap_below H1.out b1)
 clear b1 hc C1 B1 H1
 have v0 : w1.cell? ⟨w.heap.size, 0, none⟩ = some (.int .i64 11) := cell_of H2.out 0
 have v1 : w1.cell? ⟨w.heap.size, 1, none⟩ = some (.int .i64 0) := cell_of H2.out 1
 have v2 : w1.cell? ⟨w.heap.size, 2, none⟩ = some (.int .i64 (-1)) := cell_of H2.out 2
 have v3 : w1.cell? ⟨w.heap.size, 3, none⟩ = some (.int .i64 (-1)) := cell_of H2.out 3
 have v4 : w1.cell? ⟨w.heap.size, 4, none⟩ = some (.int .i64 (-1)) := cell_of H2.out 4
 have v5 : w1.cell? ⟨w.heap.size, 5, none⟩ = some (.int .i64 (-1)) := cell_of H2.out 5
 have v6 : w1.cell? ⟨w.heap.size, 6, none⟩ = some (.bool false) := cell_of H2.out 6
 have v7 : w1.cell? ⟨w.heap.size, 7, none⟩ = some (.bool false) := cell_of H2.out 7
 have C2 := hide (gcheck_any (some ⟨w1.heap.size, 0, none⟩) [ex] 1 _ (ex_at (heap_new w1 (.cells #[.int .i64 11, .int .i64 0, .int .i64 (-1), .int .i64 (-1), .int .i64 (-1), .int .i64 (-1), .bool false, .bool false] 35))) (by decide))
 have B3 := hide (btr B2.out (below_alloc w1 (.cells #[.int .i64 11, .int .i64 0, .int .i64 (-1), .int .i64 (-1), .int .i64 (-1), .int .i64 (-1), .bool false, .bool false] 35)))
 have H3 := hide (heap_below H2.out (below_alloc w1 (.cells #[.int .i64 11, .int .i64 0, .int .i64 (-1), .int .i64 (-1), .int .i64 (-1), .int .i64 (-1), .bool false, .bool false] 35)))
 go_wp2_with fail
 refine C2.out.mono ?_
 rintro r w2 ⟨⟨n, a, rfl, hc⟩, b2⟩
 obtain ⟨rfl, rfl⟩ := hc.eq ex1
 have B4 := hide (btr B3.out b2)
 have H4 := hide (heap_below H3.out b2)
 clear b2 hc C2 B3 H3 B2 H2 v0 v1 v2 v3 v4 v5 v6 v7
 have v0 : w2.cell? ⟨w.heap.size, 0, none⟩ = some (.int .i64 11) := cell_of H4.out 0
 have v1 : w2.cell? ⟨w.heap.size, 1, none⟩ = some (.int .i64 0) := cell_of H4.out 1
 have v2 : w2.cell? ⟨w.heap.size, 2, none⟩ = some (.int .i64 (-1)) := cell_of H4.out 2
 have v3 : w2.cell? ⟨w.heap.size, 3, none⟩ = some (.int .i64 (-1)) := cell_of H4.out 3
 have v4 : w2.cell? ⟨w.heap.size, 4, none⟩ = some (.int .i64 (-1)) := cell_of H4.out 4
 have v5 : w2.cell? ⟨w.heap.size, 5, none⟩ = some (.int .i64 (-1)) := cell_of H4.out 5
 have v6 : w2.cell? ⟨w.heap.size, 6, none⟩ = some (.bool false) := cell_of H4.out 6
 have v7 : w2.cell? ⟨w.heap.size, 7, none⟩ = some (.bool false) := cell_of H4.out 7
 have C3 := hide (gors_no (some ⟨w2.heap.size, 0, none⟩) [ex] 1 _ (ex_at (heap_new w2 (.cells #[.int .i64 11, .int .i64 0, .int .i64 (-1), .int .i64 (-1), .int .i64 (-1), .int .i64 (-1), .bool false, .bool false] 35))) (by decide) (fun i e he => by
  have : i = 0 := by have := (List.getElem?_eq_some_iff.1 he).1; simp at this; exact this
  subst this
  cases he
  decide))
 have B5 := hide (btr B4.out (below_alloc w2 (.cells #[.int .i64 11, .int .i64 0, .int .i64 (-1), .int .i64 (-1), .int .i64 (-1), .int .i64 (-1), .bool false, .bool false] 35)))
 go_wp2_with fail
 refine C3.out.mono ?_
 rintro r w3 ⟨rfl, b3⟩
 have B6 := hide (btr B5.out b3)
 go_wp2_with fail
 go_ret
 exact ⟨rfl, B6.out⟩
end Gu
end Go.Proofs.YtkkgbeaaekmhfaaGreat
namespace Go.Proofs.YtkkgbeaaekmhfaaGreat
namespace Gc
open En
def cntS (p : Ev → Bool) (f : Ev → Int) (a : Int) (e : Ev) : Int := if p e = true ∧ f e < 1099511627776 then max a (f e + 1) else a
def cntF (p : Ev → Bool) (f : Ev → Int) (l : List Ev) : Int := l.foldl (cntS p f) 0
theorem cntF_app (p : Ev → Bool) (f : Ev → Int) (l : List Ev) (e : Ev) : cntF p f (l ++ [e]) = cntS p f (cntF p f l) e := by simp [cntF]
theorem cntF_take (p : Ev → Bool) (f : Ev → Int) (l : List Ev) (k : Nat) (e : Ev) (h : l[k]? = some e) : cntF p f (l.take (k + 1)) = cntS p f (cntF p f (l.take k)) e := by
 have hk := (List.getElem?_eq_some_iff.1 h).1
 have he := (List.getElem?_eq_some_iff.1 h).2
 rw [List.take_succ_eq_append_getElem hk, cntF_app, he]
theorem cntS_rng (p : Ev → Bool) (f : Ev → Int) (a : Int) (e : Ev) (h : 0 ≤ a ∧ a ≤ 1099511627776) : 0 ≤ cntS p f a e ∧ cntS p f a e ≤ 1099511627776 := by
 unfold cntS
 split <;> omega
theorem cnt_rng (p : Ev → Bool) (f : Ev → Int) : ∀ (l : List Ev) (a : Int), 0 ≤ a ∧ a ≤ 1099511627776 → 0 ≤ l.foldl (cntS p f) a ∧ l.foldl (cntS p f) a ≤ 1099511627776
 | [], _, h => h
 | e :: l, a, h => cnt_rng p f l _ (cntS_rng p f a e h)
theorem cntF_rng (p : Ev → Bool) (f : Ev → Int) (l : List Ev) : 0 ≤ cntF p f l ∧ cntF p f l ≤ 1099511627776 := cnt_rng p f l 0 (by omega)
theorem cnt_fun (p : Ev → Bool) (f : Ev → Int) (l : List Ev) : ∃ F : Nat → Int, F 0 = 0 ∧ F l.length = cntF p f l ∧ (∀ k, 0 ≤ F k ∧ F k ≤ 1099511627776) ∧ ∀ k e, l[k]? = some e → F (k + 1) = if p e = true ∧ f e < 1099511627776 then max (F k) (f e + 1) else F k :=
 ⟨fun k => cntF p f (l.take k), rfl, by simp, fun k => cntF_rng p f _, fun k e h => cntF_take p f l k e h⟩
end Gc
end Go.Proofs.YtkkgbeaaekmhfaaGreat
namespace Go.Proofs.YtkkgbeaaekmhfaaGreat
open Go.ChangeShapes Go.WideShapes Go.ChangeAt Go.RowKit
namespace Gu
open En Ba
theorem chn_any (e : Ev) (w : World) : Calls Tryz.prog 28 #[evv e] w fun r w' => r = .returned (.tuple #[.int .i64 e.c, .bool (e.k == 2)]) ∧ Below w.heap.size w w' := by
 have B1 := hide (btr (below_alloc w (.cells #[.int .i64 e.k, .int .i64 e.g, .int .i64 e.c, .int .i64 e.a, .int .i64 e.v, .int .i64 e.m, .bool e.s, .bool e.o] 35)) (bdrew1 _))
 have E1 := heap_new w (.cells #[.int .i64 e.k, .int .i64 e.g, .int .i64 e.c, .int .i64 e.a, .int .i64 e.v, .int .i64 e.m, .bool e.s, .bool e.o] 35)
 have v0 : (w.alloc (.cells #[.int .i64 e.k, .int .i64 e.g, .int .i64 e.c, .int .i64 e.a, .int .i64 e.v, .int .i64 e.m, .bool e.s, .bool e.o] 35)).drew.cell? ⟨w.heap.size, 0, none⟩ = some (.int .i64 e.k) := cell_of E1 0
 have v2 : (w.alloc (.cells #[.int .i64 e.k, .int .i64 e.g, .int .i64 e.c, .int .i64 e.a, .int .i64 e.v, .int .i64 e.m, .bool e.s, .bool e.o] 35)).drew.cell? ⟨w.heap.size, 2, none⟩ = some (.int .i64 e.c) := cell_of E1 2
 clear E1
 unfold evv evc
 go_enter Tryz.func28, Tryz.ntmps28
 go_wp2_with fail
 generalize w.alloc (.cells #[.int .i64 e.k, .int .i64 e.g, .int .i64 e.c, .int .i64 e.a, .int .i64 e.v, .int .i64 e.m, .bool e.s, .bool e.o] 35) = W1 at *
 go_region
 all_goals
  go_wp2_with fail
  go_ret2
  exact ⟨rfl, B1.out⟩
theorem run_max_int (u : World) (ty : TypeId) (a b : Int) : (Builtin.max_ #[3, 3] ty #[.int .i64 a, .int .i64 b]).run Tryz.prog u = .ok (.int .i64 (max a b)) u := by
 have e : max a b = if b > a then b else a := by split <;> omega
 rw [e]
 simp [Builtin.max_, Builtin.max2]
set_option maxHeartbeats 3200000 in
theorem cnt_g (oa : Option Addr) (l : List Ev) (c : Nat) (w : World) (hA : EsAt w oa l) (hl : l.length ≤ 100000) (hw : ∀ (i : Nat) e, l[i]? = some e → e.k = 1 → -9223372036854775808 ≤ e.m) :
 Calls Tryz.prog 26 #[.slice oa l.length c, .func (.func 27) #[] #[]] w fun r w' => r = .returned (.int .i64 (Gc.cntF (fun e => e.k == 1) (fun e => e.m) l)) ∧ Below w.heap.size w w' := by
 have HA := hide hA
 have HW := hide hw
 obtain ⟨F, F0, FM, FR, FS⟩ := Gc.cnt_fun (fun e => e.k == 1) (fun e => e.m) l
 have HF := hide (And.intro F0 (And.intro FR FS))
 rw [← FM]
 obtain ⟨M, hM⟩ : ∃ M, l.length = M := ⟨_, rfl⟩
 have HM := hide hM
 rw [hM] at hl ⊢
 clear hA hw hM F0 FM FR FS
 go_enter Tryz.func26, Tryz.ntmps26
 go_wp2_with fail
 go_loopw [5, 12] (fun m i wr => ∃ k : Nat, k ≤ M ∧ m = .int .i64 (F k) ∧ i = .int .i64 (k : Int) ∧ Below w.heap.size w wr) (fun _ i _ => M - (intOf i).toNat)
 case atStart => exact ⟨0, Nat.zero_le _, by rw [HF.out.1], rfl, Below.refl _ _⟩
 case round =>
  obtain ⟨k, hkM, rfl, rfl, bl⟩ := hrel
  have BL := hide bl
  have EA := hide (HA.out.below bl)
  clear bl
  by_cases hlt : k < M
  ·have hlt' : (k : Int) < (M : Int) := by omega
   obtain ⟨e, he⟩ : ∃ e, l[k]? = some e := ⟨_, List.getElem?_eq_getElem (by rw [HM.out]; omega)⟩
   obtain ⟨b1, o1, rfl, -⟩ := EA.out k e he
   obtain ⟨p0, p1, p2, p3, p4, p5, p6, p7⟩ := EA.out.read he
   have HWE := hide (HW.out k e he)
   have FS := hide (HF.out.2.2 k e he)
   have hr := HF.out.2.1 k
   have CN := hide (num_any e (wr.alloc (.cells #[.int .i64 e.k, .int .i64 e.g, .int .i64 e.c, .int .i64 e.a, .int .i64 e.v, .int .i64 e.m, .bool e.s, .bool e.o] 35)))
   unfold evv evc at CN
   have BA := hide (btr BL.out (below_alloc wr (.cells #[.int .i64 e.k, .int .i64 e.g, .int .i64 e.c, .int .i64 e.a, .int .i64 e.v, .int .i64 e.m, .bool e.s, .bool e.o] 35)))
   clear he
   have KK : Hid (∀ (v : Value) (w1 : World), v = .int .i64 (F (k + 1)) → Below w.heap.size w w1 → ∃ k' : Nat, k' ≤ M ∧ v = .int .i64 (F k') ∧ Value.int .i64 ((k : Int) + 1) = .int .i64 (k' : Int) ∧ Below w.heap.size w w1) := fun v w1 hv hb => ⟨k + 1, by omega, hv, by simp, hb⟩
   generalize F (k + 1) = f1 at *
   generalize F k = f0 at *
   by_cases hk1 : e.k = 1
   ·have d1 : (e.k == 1) = true := by simp [hk1]
    rw [d1] at CN
    by_cases hm : e.m < 1099511627776
    ·have d2 : decide (e.m < 1099511627776) = true := decide_eq_true hm
     have hf : f1 = max f0 (e.m + 1) := by rw [FS.out, if_pos ⟨d1, hm⟩]
     have hmx : ∀ (ty : TypeId) (u : World), (Builtin.max_ #[3, 3] ty #[.int .i64 f0, .int .i64 (e.m + 1)]).run Tryz.prog u = .ok (.int .i64 f1) u := fun ty u => by rw [hf]; exact run_max_int u ty f0 (e.m + 1)
     have hwe := HWE.out hk1
     have hwr : IntKind.i64.wrap (e.m + 1) = e.m + 1 := by rw [IntKind.wrap_i64]; omega
     clear hk1 hm hf FS
     go_wp2_with fail
     refine CN.out.mono ?_
     rintro r w1 ⟨rfl, b2⟩
     have B2 := hide (btr BA.out b2)
     clear b2
     go_wp2_with fail
     go_roundw
     case measure => simp [intOf]; omega
     case rel => exact KK.out _ _ rfl B2.out
    ·have d2 : decide (e.m < 1099511627776) = false := decide_eq_false hm
     have hf : f1 = f0 := by rw [FS.out, if_neg (fun q => hm q.2)]
     subst hf
     clear hk1 hm FS
     go_wp2_with fail
     refine CN.out.mono ?_
     rintro r w1 ⟨rfl, b2⟩
     have B2 := hide (btr BA.out b2)
     clear b2
     go_wp2_with fail
     go_roundw
     case measure => simp [intOf]; omega
     case rel => exact KK.out _ _ rfl B2.out
   ·have d1 : (e.k == 1) = false := by simp [hk1]
    rw [d1] at CN
    have hf : f1 = f0 := by rw [FS.out, if_neg (fun q => by have := q.1; simp [hk1] at this)]
    subst hf
    clear hk1 FS
    go_wp2_with fail
    refine CN.out.mono ?_
    rintro r w1 ⟨rfl, b2⟩
    have B2 := hide (btr BA.out b2)
    clear b2
    go_wp2_with fail
    go_roundw
    case measure => simp [intOf]; omega
    case rel => exact KK.out _ _ rfl B2.out
  ·have dl : decide ((k : Int) < (M : Int)) = false := by simp; omega
   have dl2 : decide (k < M) = false := by simp; omega
   have hk : k = M := by omega
   subst hk
   clear hlt
   go_wp2_with fail
   go_ret
   exact ⟨rfl, BL.out⟩
set_option maxHeartbeats 3200000 in
theorem cnt_c (oa : Option Addr) (l : List Ev) (c : Nat) (w : World) (hA : EsAt w oa l) (hl : l.length ≤ 100000) (hw : ∀ (i : Nat) e, l[i]? = some e → e.k = 2 → -9223372036854775808 ≤ e.c) :
 Calls Tryz.prog 26 #[.slice oa l.length c, .func (.func 28) #[] #[]] w fun r w' => r = .returned (.int .i64 (Gc.cntF (fun e => e.k == 2) (fun e => e.c) l)) ∧ Below w.heap.size w w' := by
 have HA := hide hA
 have HW := hide hw
 obtain ⟨F, F0, FM, FR, FS⟩ := Gc.cnt_fun (fun e => e.k == 2) (fun e => e.c) l
 have HF := hide (And.intro F0 (And.intro FR FS))
 rw [← FM]
 obtain ⟨M, hM⟩ : ∃ M, l.length = M := ⟨_, rfl⟩
 have HM := hide hM
 rw [hM] at hl ⊢
 clear hA hw hM F0 FM FR FS
 go_enter Tryz.func26, Tryz.ntmps26
 go_wp2_with fail
 go_loopw [5, 12] (fun m i wr => ∃ k : Nat, k ≤ M ∧ m = .int .i64 (F k) ∧ i = .int .i64 (k : Int) ∧ Below w.heap.size w wr) (fun _ i _ => M - (intOf i).toNat)
 case atStart => exact ⟨0, Nat.zero_le _, by rw [HF.out.1], rfl, Below.refl _ _⟩
 case round =>
  obtain ⟨k, hkM, rfl, rfl, bl⟩ := hrel
  have BL := hide bl
  have EA := hide (HA.out.below bl)
  clear bl
  by_cases hlt : k < M
  ·have hlt' : (k : Int) < (M : Int) := by omega
   obtain ⟨e, he⟩ : ∃ e, l[k]? = some e := ⟨_, List.getElem?_eq_getElem (by rw [HM.out]; omega)⟩
   obtain ⟨b1, o1, rfl, -⟩ := EA.out k e he
   obtain ⟨p0, p1, p2, p3, p4, p5, p6, p7⟩ := EA.out.read he
   have HWE := hide (HW.out k e he)
   have FS := hide (HF.out.2.2 k e he)
   have hr := HF.out.2.1 k
   have CN := hide (chn_any e (wr.alloc (.cells #[.int .i64 e.k, .int .i64 e.g, .int .i64 e.c, .int .i64 e.a, .int .i64 e.v, .int .i64 e.m, .bool e.s, .bool e.o] 35)))
   unfold evv evc at CN
   have BA := hide (btr BL.out (below_alloc wr (.cells #[.int .i64 e.k, .int .i64 e.g, .int .i64 e.c, .int .i64 e.a, .int .i64 e.v, .int .i64 e.m, .bool e.s, .bool e.o] 35)))
   clear he
   have KK : Hid (∀ (v : Value) (w1 : World), v = .int .i64 (F (k + 1)) → Below w.heap.size w w1 → ∃ k' : Nat, k' ≤ M ∧ v = .int .i64 (F k') ∧ Value.int .i64 ((k : Int) + 1) = .int .i64 (k' : Int) ∧ Below w.heap.size w w1) := fun v w1 hv hb => ⟨k + 1, by omega, hv, by simp, hb⟩
   generalize F (k + 1) = f1 at *
   generalize F k = f0 at *
   by_cases hk1 : e.k = 2
   ·have d1 : (e.k == 2) = true := by simp [hk1]
    rw [d1] at CN
    by_cases hm : e.c < 1099511627776
    ·have d2 : decide (e.c < 1099511627776) = true := decide_eq_true hm
     have hf : f1 = max f0 (e.c + 1) := by rw [FS.out, if_pos ⟨d1, hm⟩]
     have hmx : ∀ (ty : TypeId) (u : World), (Builtin.max_ #[3, 3] ty #[.int .i64 f0, .int .i64 (e.c + 1)]).run Tryz.prog u = .ok (.int .i64 f1) u := fun ty u => by rw [hf]; exact run_max_int u ty f0 (e.c + 1)
     have hwe := HWE.out hk1
     have hwr : IntKind.i64.wrap (e.c + 1) = e.c + 1 := by rw [IntKind.wrap_i64]; omega
     clear hk1 hm hf FS
     go_wp2_with fail
     refine CN.out.mono ?_
     rintro r w1 ⟨rfl, b2⟩
     have B2 := hide (btr BA.out b2)
     clear b2
     go_wp2_with fail
     go_roundw
     case measure => simp [intOf]; omega
     case rel => exact KK.out _ _ rfl B2.out
    ·have d2 : decide (e.c < 1099511627776) = false := decide_eq_false hm
     have hf : f1 = f0 := by rw [FS.out, if_neg (fun q => hm q.2)]
     subst hf
     clear hk1 hm FS
     go_wp2_with fail
     refine CN.out.mono ?_
     rintro r w1 ⟨rfl, b2⟩
     have B2 := hide (btr BA.out b2)
     clear b2
     go_wp2_with fail
     go_roundw
     case measure => simp [intOf]; omega
     case rel => exact KK.out _ _ rfl B2.out
   ·have d1 : (e.k == 2) = false := by simp [hk1]
    rw [d1] at CN
    have hf : f1 = f0 := by rw [FS.out, if_neg (fun q => by have := q.1; simp [hk1] at this)]
    subst hf
    clear hk1 FS
    go_wp2_with fail
    refine CN.out.mono ?_
    rintro r w1 ⟨rfl, b2⟩
    have B2 := hide (btr BA.out b2)
    clear b2
    go_wp2_with fail
    go_roundw
    case measure => simp [intOf]; omega
    case rel => exact KK.out _ _ rfl B2.out
  ·have dl : decide ((k : Int) < (M : Int)) = false := by simp; omega
   have dl2 : decide (k < M) = false := by simp; omega
   have hk : k = M := by omega
   subst hk
   clear hlt
   go_wp2_with fail
   go_ret
   exact ⟨rfl, BL.out⟩
theorem gors_any (oa : Option Addr) (l : List Ev) (c : Nat) (w : World) (hA : EsAt w oa l) (hl : l.length ≤ 100000) (hw : ∀ (i : Nat) e, l[i]? = some e → e.k = 1 → -9223372036854775808 ≤ e.m) :
 Calls Tryz.prog 11 #[.slice oa l.length c] w fun r w' => r = .returned (.int .i64 (max 1 (Gc.cntF (fun e => e.k == 1) (fun e => e.m) l))) ∧ Below w.heap.size w w' := by
 have CN := hide (cnt_g oa l c w hA hl hw)
 generalize Gc.cntF (fun e => e.k == 1) (fun e => e.m) l = m at *
 have hmx : ∀ (ty : TypeId) (u : World), (Builtin.max_ #[3, 3] ty #[.int .i64 1, .int .i64 m]).run Tryz.prog u = .ok (.int .i64 (max 1 m)) u := fun ty u => run_max_int u ty 1 m
 generalize max 1 m = mm at *
 generalize l.length = M at *
 clear hA hw
 go_enter Tryz.func11, Tryz.ntmps11
 go_wp2_with fail
 refine CN.out.mono ?_
 rintro r w1 ⟨rfl, b2⟩
 go_wp2_with fail
 go_ret
 exact ⟨rfl, b2⟩
theorem chans_any (oa : Option Addr) (l : List Ev) (c : Nat) (w : World) (hA : EsAt w oa l) (hl : l.length ≤ 100000) (hw : ∀ (i : Nat) e, l[i]? = some e → e.k = 2 → -9223372036854775808 ≤ e.c) :
 Calls Tryz.prog 12 #[.slice oa l.length c] w fun r w' => r = .returned (.int .i64 (max 0 (Gc.cntF (fun e => e.k == 2) (fun e => e.c) l))) ∧ Below w.heap.size w w' := by
 have CN := hide (cnt_c oa l c w hA hl hw)
 generalize Gc.cntF (fun e => e.k == 2) (fun e => e.c) l = m at *
 have hmx : ∀ (ty : TypeId) (u : World), (Builtin.max_ #[3, 3] ty #[.int .i64 0, .int .i64 m]).run Tryz.prog u = .ok (.int .i64 (max 0 m)) u := fun ty u => run_max_int u ty 0 m
 generalize max 0 m = mm at *
 generalize l.length = M at *
 clear hA hw
 go_enter Tryz.func12, Tryz.ntmps12
 go_wp2_with fail
 refine CN.out.mono ?_
 rintro r w1 ⟨rfl, b2⟩
 go_wp2_with fail
 go_ret
 exact ⟨rfl, b2⟩
end Gu
end Go.Proofs.YtkkgbeaaekmhfaaGreat
namespace Go.Proofs.YtkkgbeaaekmhfaaGreat
open Go.ChangeShapes Go.WideShapes Go.ChangeAt Go.RowKit
namespace Cr
open Ba
structure Mb where
 p : Int
 q : Int
 s : Int
def mc (l : List Mb) : List Value := l.flatMap fun x => [.int .i64 x.p, .int .i64 x.q, .int .i64 x.s]
theorem mc_nil : mc [] = [] := rfl
theorem mc_cons (x : Mb) (l : List Mb) : mc (x :: l) = .int .i64 x.p :: .int .i64 x.q :: .int .i64 x.s :: mc l := rfl
theorem mc_app (l m : List Mb) : mc (l ++ m) = mc l ++ mc m := by simp [mc]
theorem mc_len (l : List Mb) : (mc l).length = l.length * 3 := by
 induction l with
 | nil => rfl
 | cons x l ih => rw [mc_cons]; simp; omega
theorem mc_at : ∀ (l : List Mb) (k : Nat) (x : Mb), l[k]? = some x → (mc l)[k * 3]? = some (.int .i64 x.p) ∧ (mc l)[k * 3 + 1]? = some (.int .i64 x.q) ∧ (mc l)[k * 3 + 2]? = some (.int .i64 x.s)
 | [], _, _, h => by simp at h
 | y :: l, 0, x, h => by simp at h; subst h; exact ⟨rfl, rfl, rfl⟩
 | y :: l, k + 1, x, h => by
   rw [mc_cons]
   have := mc_at l k x (by simpa using h)
   rw [show (k + 1) * 3 = k * 3 + 3 by omega]
   exact this
theorem mc_one (l : List Mb) : ∀ u ∈ mc l, u.oneCell' = true := by
 induction l with
 | nil => intro u hu; simp [mc_nil] at hu
 | cons x l ih =>
   intro u hu
   rw [mc_cons] at hu
   simp at hu
   rcases hu with rfl | rfl | rfl | hu
   ·rfl
   ·rfl
   ·rfl
   ·exact ih u hu
theorem mc_set1 : ∀ (l : List Mb) (k : Nat) (x : Mb) (y : Int), l[k]? = some x → (mc l).set (k * 3 + 1) (.int .i64 y) = mc (l.set k ⟨x.p, y, x.s⟩)
 | [], _, _, _, h => by simp at h
 | z :: l, 0, x, y, h => by simp at h; subst h; rfl
 | z :: l, k + 1, x, y, h => by
   rw [List.set_cons_succ, mc_cons, mc_cons, ← mc_set1 l k x y (by simpa using h), show (k + 1) * 3 + 1 = k * 3 + 1 + 1 + 1 + 1 by omega]
   simp only [List.set_cons_succ]
theorem mc_set2 : ∀ (l : List Mb) (k : Nat) (x : Mb) (y : Int), l[k]? = some x → (mc l).set (k * 3 + 2) (.int .i64 y) = mc (l.set k ⟨x.p, x.q, y⟩)
 | [], _, _, _, h => by simp at h
 | z :: l, 0, x, y, h => by simp at h; subst h; rfl
 | z :: l, k + 1, x, y, h => by
   rw [List.set_cons_succ, mc_cons, mc_cons, ← mc_set2 l k x y (by simpa using h), show (k + 1) * 3 + 2 = k * 3 + 2 + 1 + 1 + 1 by omega]
   simp only [List.set_cons_succ]
def MAt (w : World) (oa : Option Addr) (l : List Mb) : Prop :=
 ∀ k x, l[k]? = some x → ∃ b, oa = some ⟨b, 0, none⟩ ∧ w.cell? ⟨b, k * 3, none⟩ = some (.int .i64 x.p) ∧ w.cell? ⟨b, k * 3 + 1, none⟩ = some (.int .i64 x.q) ∧ w.cell? ⟨b, k * 3 + 2, none⟩ = some (.int .i64 x.s)
theorem MAt.nil (w : World) (oa : Option Addr) : MAt w oa [] := fun _ _ h => by simp at h
theorem MAt.below {w w' : World} {oa : Option Addr} {l : List Mb} (h : MAt w oa l) (hb : Below w.heap.size w w') : MAt w' oa l := by
 intro k x hk
 obtain ⟨b, e, h0, h1, h2⟩ := h k x hk
 exact ⟨b, e, (hb.cell (World.block_lt_of_cell? w _ h0)).trans h0, (hb.cell (World.block_lt_of_cell? w _ h1)).trans h1, (hb.cell (World.block_lt_of_cell? w _ h2)).trans h2⟩
theorem owns_mat {w : World} {base : Nat} {e : TypeId} {v : Value} {l : List Mb} (h : w.ownsRow base e 3 v l.length (mc l)) : ∃ oa c, v = .slice oa l.length c ∧ MAt w oa l ∧ l.length ≤ c := by
 rcases h.2 with ⟨rfl, h0⟩ | ⟨g, cap, cur, rfl, _, hg, hc, _, hcs, htk⟩
 ·refine ⟨none, 0, by rw [h0], ?_, by omega⟩
  obtain rfl := List.eq_nil_of_length_eq_zero h0
  exact MAt.nil _ _
 ·refine ⟨_, cap, rfl, ?_, hc⟩
  intro k x hk
  have hkl := (List.getElem?_eq_some_iff.1 hk).1
  obtain ⟨q0, q1, q2⟩ := mc_at l k x hk
  rw [← htk, List.getElem?_take_of_lt (by omega)] at q0 q1 q2
  refine ⟨g, rfl, ?_, ?_, ?_⟩
  ·rw [cell_of hg]; simpa using q0
  ·rw [cell_of hg]; simpa using q1
  ·rw [cell_of hg]; simpa using q2
theorem src3 (w : World) (x : Mb) (t : TypeId) : ∀ j u, (mc [x])[j]? = some u → (w.alloc (.cells #[.int .i64 x.p, .int .i64 x.q, .int .i64 x.s] t)).cell? ((⟨w.heap.size, 0, none⟩ : Addr).add j) = some u := by
 intro j u hj
 rw [Addr.add_lit, Nat.zero_add, cell_of (heap_new _ _)]
 rw [mc_cons, mc_nil] at hj
 rw [← hj]
 simp
theorem own_keep {w w' : World} {base : Nat} {e : TypeId} {size : Nat} {v : Value} {n : Nat} {xs : List Value} (h : w.ownsRow base e size v n xs) (hk : ∀ g, v.ownBlock = some g → w'.heap[g]? = w.heap[g]?) : w'.ownsRow base e size v n xs := by
 refine ⟨h.1, ?_⟩
 rcases h.2 with q | ⟨g, cap, cur, q1, q2, q3, q4⟩
 ·exact .inl q
 ·exact .inr ⟨g, cap, cur, q1, q2, (hk g (by rw [q1]; rfl)).trans q3, q4⟩
theorem own_blk {w : World} {base : Nat} {e : TypeId} {size : Nat} {v : Value} {n : Nat} {xs : List Value} (h : w.ownsRow base e size v n xs) (g : Nat) (hg : v.ownBlock = some g) : base ≤ g ∧ ∃ cur, w.heap[g]? = some (.cells cur e (0, 0)) := by
 rcases h.2 with ⟨rfl, _⟩ | ⟨g', cap, cur, rfl, q2, q3, q4⟩
 ·simp [Value.ownBlock] at hg
 ·simp [Value.ownBlock] at hg
  subst hg
  exact ⟨q2, cur, q3⟩
theorem own_set {w : World} {base : Nat} {e : TypeId} {g n cap j : Nat} {xs : List Value} (h : w.ownsRow base e 3 (.slice (some ⟨g, 0, none⟩) n cap) n xs) (u : Value) : (w.setCell ⟨g, j, none⟩ u).ownsRow base e 3 (.slice (some ⟨g, 0, none⟩) n cap) n (xs.set j u) := by
 refine ⟨by rw [List.length_set]; exact h.1, ?_⟩
 rcases h.2 with ⟨q, _⟩ | ⟨g', cap', cur, q1, q2, q3, q4, q5, q6, q7⟩
 ·cases q
 ·cases q1
  refine .inr ⟨g, cap, _, rfl, q2, Ba.heap_setCell_same q3 u, q4, q5, by simpa using q6, ?_⟩
  rw [Array.toList_setIfInBounds, List.take_set, q7]
structure Cw (T E : TypeId) (w : World) (B : Nat) (F : Nat → Prop) (oa : Option Addr) (c : Nat) (l : List Mb) : Prop where
 hp : w.heap[B]? = some (.cells #[.slice oa l.length c] T (0, 0))
 ow : w.ownsRow 0 E 3 (.slice oa l.length c) l.length (mc l)
 fb : F B
 fr : ∀ g, (Value.slice oa l.length c).ownBlock = some g → F g
 bd : Bd F w
 le : l.length ≤ 512
def Cq (T E : TypeId) (w : World) (B : Nat) (F : Nat → Prop) (l : List Mb) : Prop := ∃ oa c, Cw T E w B F oa c l
section
variable {T E : TypeId} {w w' : World} {B : Nat} {F K : Nat → Prop} {oa : Option Addr} {c : Nat} {l : List Mb}
theorem Cw.at (h : Cw T E w B F oa c l) : MAt w oa l ∧ l.length ≤ c := by
 obtain ⟨oa', c', e, h1, h2⟩ := owns_mat h.ow
 cases e
 exact ⟨h1, h2⟩
theorem Cw.lt (h : Cw T E w B F oa c l) : B < w.heap.size := heap_lt h.hp
theorem Cq.lt (h : Cq T E w B F l) : B < w.heap.size := by
 obtain ⟨oa, c, h⟩ := h
 exact h.lt
theorem Cq.le (h : Cq T E w B F l) : l.length ≤ 512 := by
 obtain ⟨oa, c, h⟩ := h
 exact h.le
theorem Cq.bd (h : Cq T E w B F l) : Bd F w := by
 obtain ⟨oa, c, h⟩ := h
 exact h.bd
theorem Cw.sm (h : Cw T E w B F oa c l) (s : Sm F w w') : Cw T E w' B F oa c l :=
 ⟨s.heap h.fb h.hp, own_keep h.ow fun g e => s g (h.fr g e), h.fb, h.fr, h.bd.sm s, h.le⟩
theorem Cw.below (h : Cw T E w B F oa c l) (hb : Below w.heap.size w w') : Cw T E w' B F oa c l := h.sm (Sm.below hb h.bd)
theorem Cq.below (h : Cq T E w B F l) (hb : Below w.heap.size w w') : Cq T E w' B F l := by
 obtain ⟨oa, c, h⟩ := h
 exact ⟨oa, c, h.below hb⟩
theorem Cq.kf (h : Cq T E w B F l) (k : KF K w w') (hd : ∀ x, F x → ¬ K x) : Cq T E w' B F l := by
 obtain ⟨oa, c, h⟩ := h
 exact ⟨oa, c, h.sm (Sm.kf k h.bd hd)⟩
theorem Cw.set1 {g k : Nat} {x : Mb} (h : Cw T E w B F (some ⟨g, 0, none⟩) c l) (hT : T ≠ E) (hk : l[k]? = some x) (y : Int) : Cw T E (w.setCell ⟨g, k * 3 + 1, none⟩ (.int .i64 y)) B F (some ⟨g, 0, none⟩) c (l.set k ⟨x.p, y, x.s⟩) := by
 have K := (KB.refl g w).setCell (k * 3 + 1) (.int .i64 y)
 have hg : g ≠ B := by
  intro e
  obtain ⟨_, cur, q⟩ := own_blk h.ow g rfl
  rw [e, h.hp] at q
  cases q
  exact hT rfl
 refine ⟨?_, ?_, h.fb, ?_, h.bd.mono K.size, by rw [List.length_set]; exact h.le⟩
 ·rw [List.length_set]; exact K.heap h.hp (Ne.symm hg)
 ·rw [List.length_set, ← mc_set1 l k x y hk]; exact own_set h.ow _
 ·rw [List.length_set]; exact h.fr
theorem Cw.set2 {g k : Nat} {x : Mb} (h : Cw T E w B F (some ⟨g, 0, none⟩) c l) (hT : T ≠ E) (hk : l[k]? = some x) (y : Int) : Cw T E (w.setCell ⟨g, k * 3 + 2, none⟩ (.int .i64 y)) B F (some ⟨g, 0, none⟩) c (l.set k ⟨x.p, x.q, y⟩) := by
 have K := (KB.refl g w).setCell (k * 3 + 2) (.int .i64 y)
 have hg : g ≠ B := by
  intro e
  obtain ⟨_, cur, q⟩ := own_blk h.ow g rfl
  rw [e, h.hp] at q
  cases q
  exact hT rfl
 refine ⟨?_, ?_, h.fb, ?_, h.bd.mono K.size, by rw [List.length_set]; exact h.le⟩
 ·rw [List.length_set]; exact K.heap h.hp (Ne.symm hg)
 ·rw [List.length_set, ← mc_set2 l k x y hk]; exact own_set h.ow _
 ·rw [List.length_set]; exact h.fr
def Fw (F : Nat → Prop) (v : Value) : Nat → Prop := fun k => F k ∨ v.ownBlock = some k
theorem Cw.put {v0 : Value} {m : List Mb} (hG : w.heap[B]? = some (.cells #[v0] T (0, 0))) (ow : w.ownsRow 0 E 3 (.slice oa m.length c) m.length (mc m)) (hT : T ≠ E) (fb : F B) (bd : Bd F w) (le : m.length ≤ 512) : Cw T E (w.setCell ⟨B, 0, none⟩ (.slice oa m.length c)) B (Fw F (.slice oa m.length c)) oa c m := by
 have K := (KB.refl B w).setCell 0 (.slice oa m.length c)
 refine ⟨(Ba.heap_setCell_same hG _).trans rfl, own_keep ow fun g e => ?_, .inl fb, fun g e => .inr e, ?_, le⟩
 ·obtain ⟨_, cur, q⟩ := own_blk ow g e
  refine K.block g (heap_lt q) fun e2 => ?_
  rw [e2, hG] at q
  cases q
  exact hT rfl
 ·intro k hk
  refine Nat.lt_of_lt_of_le ?_ K.size
  rcases hk with q | q
  ·exact bd k q
  ·obtain ⟨_, cur, q⟩ := own_blk ow k q
   exact heap_lt q
end
def spE (l : List Mb) (p : Int) : Int := if p < 0 then 1 else if 512 ≤ l.length then 5 else 0
def spV (l : List Mb) (p : Int) : Int := if p < 0 then 0 else if 512 ≤ l.length then 0 else l.length
def spL (l : List Mb) (p : Int) : List Mb := if p < 0 then l else if 512 ≤ l.length then l else l ++ [⟨p, 0, 0⟩]
def gt (l : List Mb) (g : Int) : Option Mb := if g < 0 then none else l[g.toNat]?
def thr (l : List Mb) (g : Int) : Bool := (gt l g).isSome
def one0 (o : Option Mb) : Mb := o.getD ⟨0, 0, 0⟩
def chE (l : List Mb) (g a : Int) : Int := match gt l g with
 | none => 6
 | some x => if x.s = a then 0 else 7
def chL (l : List Mb) (g a b d : Int) : List Mb := match gt l g with
 | none => l
 | some x => if x.s = a then l.set g.toNat ⟨x.p, x.q + d, b⟩ else l
def ablF : Nat → List Mb → List Int
 | _, [] => []
 | k, x :: l => if x.s = 0 then (k : Int) :: ablF (k + 1) l else ablF (k + 1) l
def abl (l : List Mb) : List Int := ablF 0 l
def hasS (l : List Mb) (s : Int) : Bool := l.any fun x => x.s == s
def ovr (l : List Mb) : Int := if hasS l 0 then 0 else if hasS l 1 then 2 else 1
theorem gt_none {l : List Mb} {g : Int} (h : gt l g = none) : g < 0 ∨ (l.length : Int) ≤ g := by
 unfold gt at h
 split at h
 ·exact .inl ‹_›
 ·rw [List.getElem?_eq_none_iff] at h
  omega
theorem gt_some {l : List Mb} {g : Int} {x : Mb} (h : gt l g = some x) : ∃ k : Nat, g = (k : Int) ∧ k < l.length ∧ l[k]? = some x := by
 unfold gt at h
 split at h
 ·cases h
 ·exact ⟨g.toNat, by omega, (List.getElem?_eq_some_iff.1 h).1, h⟩
theorem gt_nat (l : List Mb) (k : Nat) : gt l (k : Int) = l[k]? := by
 unfold gt
 rw [if_neg (by omega), Int.toNat_natCast]
theorem gt_out {l : List Mb} {g : Int} (h : g < 0 ∨ (l.length : Int) ≤ g) : gt l g = none := by
 unfold gt
 split
 ·rfl
 ·rw [List.getElem?_eq_none_iff]
  omega
def Bn (K : Nat) (l : List Mb) : Prop := ∀ x ∈ l, (0 ≤ x.q ∧ x.q ≤ K) ∧ 0 ≤ x.s ∧ x.s ≤ 2
theorem Bn.nil (K : Nat) : Bn K [] := fun _ h => by simp at h
theorem Bn.mono {K M : Nat} {l : List Mb} (h : Bn K l) (hK : K ≤ M) : Bn M l := fun x hx => by have := h x hx; omega
theorem Bn.at {K : Nat} {l : List Mb} (h : Bn K l) {k : Nat} {x : Mb} (hx : l[k]? = some x) : (0 ≤ x.q ∧ x.q ≤ K) ∧ 0 ≤ x.s ∧ x.s ≤ 2 := h x (List.mem_of_getElem? hx)
theorem Bn.gt {K : Nat} {l : List Mb} (h : Bn K l) {g : Int} {x : Mb} (hx : gt l g = some x) : (0 ≤ x.q ∧ x.q ≤ K) ∧ 0 ≤ x.s ∧ x.s ≤ 2 := by
 obtain ⟨k, _, _, q⟩ := gt_some hx
 exact h.at q
theorem Bn.sp {K : Nat} {l : List Mb} (h : Bn K l) (p : Int) : Bn K (spL l p) := by
 unfold spL
 split
 ·exact h
 ·split
  ·exact h
  ·intro x hx
   rcases List.mem_append.1 hx with q | q
   ·exact h x q
   ·simp at q
    subst q
    exact ⟨⟨by simp, by simp⟩, by simp, by simp⟩
theorem Bn.ch {K : Nat} {l : List Mb} (h : Bn K l) (g a b d : Int) (hb : 0 ≤ b ∧ b ≤ 2) (hd : 0 ≤ d ∧ d ≤ 1) : Bn (K + 1) (chL l g a b d) := by
 unfold chL
 cases hg : Cr.gt l g with
 | none => exact h.mono (Nat.le_succ _)
 | some x =>
   have hx := h.gt hg
   simp only
   split
   ·intro y hy
    rcases List.mem_or_eq_of_mem_set hy with q | q
    ·exact (h.mono (Nat.le_succ _)) y q
    ·subst q
     simp only
     omega
   ·exact h.mono (Nat.le_succ _)
theorem ablF_app : ∀ (k : Nat) (l m : List Mb), ablF k (l ++ m) = ablF k l ++ ablF (k + l.length) m
 | k, [], m => by simp [ablF]
 | k, x :: l, m => by
   have h := ablF_app (k + 1) l m
   rw [show k + 1 + l.length = k + (x :: l).length by simp; omega] at h
   simp only [List.cons_append, ablF, h]
   split <;> simp
theorem ablF_len : ∀ (k : Nat) (l : List Mb), (ablF k l).length ≤ l.length
 | _, [] => by simp [ablF]
 | k, x :: l => by
   have h := ablF_len (k + 1) l
   simp only [ablF]
   split <;> simp <;> omega
theorem abl_len (l : List Mb) : (abl l).length ≤ l.length := ablF_len 0 l
theorem abl_take {l : List Mb} {k : Nat} {x : Mb} (h : l[k]? = some x) : abl (l.take (k + 1)) = abl (l.take k) ++ if x.s = 0 then [(k : Int)] else [] := by
 have hk := (List.getElem?_eq_some_iff.1 h).1
 unfold abl
 rw [List.take_add_one, h, ablF_app]
 congr 1
 rw [List.length_take, Nat.min_eq_left (by omega), Nat.zero_add]
 simp [ablF]
theorem hasS_take {l : List Mb} {k : Nat} {x : Mb} (h : l[k]? = some x) (s : Int) : hasS (l.take (k + 1)) s = (hasS (l.take k) s || x.s == s) := by
 unfold hasS
 rw [List.take_add_one, h, List.any_append]
 simp
theorem ovr_cases (l : List Mb) : ovr l = 0 ∨ ovr l = 1 ∨ ovr l = 2 := by
 unfold ovr
 split
 ·exact .inl rfl
 ·split
  ·exact .inr (.inr rfl)
  ·exact .inr (.inl rfl)
end Cr
end Go.Proofs.YtkkgbeaaekmhfaaGreat
namespace Go.Proofs.YtkkgbeaaekmhfaaGreat
open Go.ChangeShapes Go.WideShapes Go.ChangeAt Go.RowKit
namespace Cr
open Ba
abbrev PC (w : World) (B : Nat) (F : Nat → Prop) (l : List Mb) : Prop := Cq 96 102 w B F l
theorem new_any (w : World) :
 Calls Tryz.prog 31 #[] w fun r w' => r = .returned (.pointer (some ⟨w.heap.size, 0, none⟩)) ∧ PC w' w.heap.size (fun k => k = w.heap.size) [] ∧ Below w.heap.size w w' := by
 go_enter Tryz.func31, Tryz.ntmps31
 go_wp2_with fail
 go_ret
 have hs := World.size_alloc w (.cells #[.slice none 0 0] 96)
 exact ⟨rfl, ⟨none, 0, heap_new _ _, World.ownsRow_nil _ _ _ _, rfl, fun g e => by simp [Value.ownBlock] at e, fun k (e : k = _) => by rw [hs]; omega, by simp⟩, below_alloc _ _⟩
theorem all_nil (w : World) :
 Calls Tryz.prog 67 #[.pointer none] w fun r w' => r = .returned (.slice none 0 0) ∧ w' = w := by
 go_enter Tryz.func67, Tryz.ntmps67
 go_wp2_with fail
 go_ret
 exact ⟨rfl, rfl⟩
theorem all_c (B : Nat) (oa : Option Addr) (n c : Nat) (w : World) (h : w.cell? ⟨B, 0, none⟩ = some (.slice oa n c)) :
 Calls Tryz.prog 67 #[.pointer (some ⟨B, 0, none⟩)] w fun r w' => r = .returned (.slice oa n c) ∧ w' = w := by
 go_enter Tryz.func67, Tryz.ntmps67
 go_wp2_with fail
 go_ret
 exact ⟨rfl, rfl⟩
theorem find_nil (g : Int) (w : World) :
 Calls Tryz.prog 95 #[.pointer none, .int .i64 g] w fun r w' => r = .returned (.pointer none) ∧ w' = w := by
 cases h1 : decide (g < 0)
 ·have d2 : decide (0 ≤ g) = true := by simp at h1 ⊢; omega
  go_enter Tryz.func95, Tryz.ntmps95
  go_wp2_with fail
  refine (all_nil _).mono ?_
  rintro r w1 ⟨rfl, rfl⟩
  go_wp2_with fail
  go_ret
  exact ⟨rfl, rfl⟩
 ·go_enter Tryz.func95, Tryz.ntmps95
  go_wp2_with fail
  refine (all_nil _).mono ?_
  rintro r w1 ⟨rfl, rfl⟩
  go_wp2_with fail
  go_ret
  exact ⟨rfl, rfl⟩
theorem find_out (B : Nat) (F : Nat → Prop) (l : List Mb) (g : Int) (w : World) (h : PC w B F l) (hg : gt l g = none) :
 Calls Tryz.prog 95 #[.pointer (some ⟨B, 0, none⟩), .int .i64 g] w fun r w' => r = .returned (.pointer none) ∧ w' = w := by
 obtain ⟨oa, c, h⟩ := h
 have AL := hide (all_c B oa l.length c w (cell_of h.hp 0))
 have hg' := gt_none hg
 clear h hg
 cases h1 : decide (g < 0)
 ·have d2 : decide ((l.length : Int) ≤ g) = true := by simp at h1 ⊢; omega
  clear hg'
  go_enter Tryz.func95, Tryz.ntmps95
  go_wp2_with fail
  refine AL.out.mono ?_
  rintro r w1 ⟨rfl, rfl⟩
  go_wp2_with fail
  go_ret
  exact ⟨rfl, rfl⟩
 ·clear hg'
  go_enter Tryz.func95, Tryz.ntmps95
  go_wp2_with fail
  refine AL.out.mono ?_
  rintro r w1 ⟨rfl, rfl⟩
  go_wp2_with fail
  go_ret
  exact ⟨rfl, rfl⟩
theorem find_in (B : Nat) (F : Nat → Prop) (b c : Nat) (l : List Mb) (k : Nat) (x : Mb) (w : World) (h : Cw 96 102 w B F (some ⟨b, 0, none⟩) c l) (hx : l[k]? = some x) :
 Calls Tryz.prog 95 #[.pointer (some ⟨B, 0, none⟩), .int .i64 (k : Int)] w fun r w' => r = .returned (.pointer (some ⟨b, k * 3, none⟩)) ∧ w' = w := by
 have AL := hide (all_c B (some ⟨b, 0, none⟩) l.length c w (cell_of h.hp 0))
 have hk := (List.getElem?_eq_some_iff.1 hx).1
 have hle := h.le
 clear h hx
 have d1 : decide ((k : Int) < 0) = false := decide_eq_false (by omega)
 have d2 : decide ((l.length : Int) ≤ (k : Int)) = false := decide_eq_false (by omega)
 have d3 : (k : Int) < (l.length : Int) := by omega
 go_enter Tryz.func95, Tryz.ntmps95
 go_wp2_with fail
 refine AL.out.mono ?_
 rintro r w1 ⟨rfl, rfl⟩
 go_wp2_with fail
 go_ret
 exact ⟨rfl, rfl⟩
theorem Cw.got {w : World} {B : Nat} {F : Nat → Prop} {oa : Option Addr} {c : Nat} {l : List Mb} {k : Nat} {x : Mb} (h : Cw 96 102 w B F oa c l) (hx : l[k]? = Option.some x) : ∃ b, oa = Option.some ⟨b, 0, none⟩ ∧ w.cell? ⟨b, k * 3, none⟩ = Option.some (.int .i64 x.p) ∧ w.cell? ⟨b, k * 3 + 1, none⟩ = Option.some (.int .i64 x.q) ∧ w.cell? ⟨b, k * 3 + 2, none⟩ = Option.some (.int .i64 x.s) := h.at.1 k x hx
theorem state_nil (g : Int) (w : World) :
 Calls Tryz.prog 108 #[.pointer none, .int .i64 g] w fun r w' => r = .returned (.tuple #[.int .i64 0, .bool false]) ∧ w' = w := by
 go_enter Tryz.func108, Tryz.ntmps108
 go_wp2_with fail
 refine (find_nil g _).mono ?_
 rintro r w1 ⟨rfl, rfl⟩
 go_wp2_with fail
 go_ret2
 exact ⟨rfl, rfl⟩
theorem state_any (B : Nat) (F : Nat → Prop) (l : List Mb) (g : Int) (w : World) (h : PC w B F l) :
 Calls Tryz.prog 108 #[.pointer (some ⟨B, 0, none⟩), .int .i64 g] w fun r w' => r = .returned (.tuple #[.int .i64 (one0 (gt l g)).s, .bool (thr l g)]) ∧ w' = w := by
 unfold thr
 cases hg : gt l g with
 | none =>
   have FO := hide (find_out B F l g w h hg)
   clear h hg
   go_enter Tryz.func108, Tryz.ntmps108
   go_wp2_with fail
   refine FO.out.mono ?_
   rintro r w1 ⟨rfl, rfl⟩
   go_wp2_with fail
   go_ret2
   exact ⟨rfl, rfl⟩
 | some x =>
   obtain ⟨k, rfl, hk, hx⟩ := gt_some hg
   obtain ⟨oa, c, h⟩ := h
   obtain ⟨b, rfl, q0, q1, q2⟩ := h.got hx
   have FI := hide (find_in B F b c l k x w h hx)
   clear h hg hx
   go_enter Tryz.func108, Tryz.ntmps108
   go_wp2_with fail
   refine FI.out.mono ?_
   rintro r w1 ⟨rfl, rfl⟩
   go_wp2_with fail
   go_ret2
   exact ⟨rfl, rfl⟩
theorem at_nil (g : Int) (w : World) :
 Calls Tryz.prog 73 #[.pointer none, .int .i64 g] w fun r w' => r = .returned (.tuple #[.int .i64 0, .int .i64 0, .bool false]) ∧ w' = w := by
 go_enter Tryz.func73, Tryz.ntmps73
 go_wp2_with fail
 refine (find_nil g _).mono ?_
 rintro r w1 ⟨rfl, rfl⟩
 go_wp2_with fail
 go_ret3
 exact ⟨rfl, rfl⟩
theorem at_any (B : Nat) (F : Nat → Prop) (l : List Mb) (g : Int) (w : World) (h : PC w B F l) :
 Calls Tryz.prog 73 #[.pointer (some ⟨B, 0, none⟩), .int .i64 g] w fun r w' => r = .returned (.tuple #[.int .i64 (one0 (gt l g)).p, .int .i64 (one0 (gt l g)).q, .bool (thr l g)]) ∧ Below w.heap.size w w' := by
 unfold thr
 cases hg : gt l g with
 | none =>
   have FO := hide (find_out B F l g w h hg)
   clear h hg
   go_enter Tryz.func73, Tryz.ntmps73
   go_wp2_with fail
   refine FO.out.mono ?_
   rintro r w1 ⟨rfl, rfl⟩
   go_wp2_with fail
   go_ret3
   exact ⟨rfl, Below.refl _ _⟩
 | some x =>
   obtain ⟨k, rfl, hk, hx⟩ := gt_some hg
   obtain ⟨oa, c, h⟩ := h
   obtain ⟨b, rfl, q0, q1, q2⟩ := h.got hx
   have FI := hide (find_in B F b c l k x w h hx)
   clear h hg hx
   go_enter Tryz.func73, Tryz.ntmps73
   go_wp2_with fail
   refine FI.out.mono ?_
   rintro r w1 ⟨rfl, rfl⟩
   go_wp2_with fail
   go_quiet (fail)
   go_wp2_with fail
   go_ret3
   exact ⟨rfl, bdrew _ _⟩
theorem len_nil (w : World) :
 Calls Tryz.prog 40 #[.pointer none] w fun r w' => r = .returned (.int .i64 0) ∧ w' = w := by
 go_enter Tryz.func40, Tryz.ntmps40
 go_wp2_with fail
 refine (all_nil _).mono ?_
 rintro r w1 ⟨rfl, rfl⟩
 go_wp2_with fail
 go_ret
 exact ⟨rfl, rfl⟩
theorem len_any (B : Nat) (F : Nat → Prop) (l : List Mb) (w : World) (h : PC w B F l) :
 Calls Tryz.prog 40 #[.pointer (some ⟨B, 0, none⟩)] w fun r w' => r = .returned (.int .i64 (l.length : Int)) ∧ w' = w := by
 obtain ⟨oa, c, h⟩ := h
 have AL := hide (all_c B oa l.length c w (cell_of h.hp 0))
 clear h
 go_enter Tryz.func40, Tryz.ntmps40
 go_wp2_with fail
 refine AL.out.mono ?_
 rintro r w1 ⟨rfl, rfl⟩
 go_wp2_with fail
 go_ret
 exact ⟨rfl, rfl⟩
end Cr
end Go.Proofs.YtkkgbeaaekmhfaaGreat
namespace Go.Proofs.YtkkgbeaaekmhfaaGreat
open Go.ChangeShapes Go.WideShapes Go.ChangeAt Go.RowKit
namespace Cr
open Ba
def Po (T E : TypeId) (w w' : World) (B : Nat) (F : Nat → Prop) (l : List Mb) : Prop := ∃ F', Cq T E w' B F' l ∧ KF F w w' ∧ Nw F' F w
theorem Po.of {T E : TypeId} {w w' : World} {B : Nat} {F : Nat → Prop} {l : List Mb} (h : Cq T E w B F l) (b : Below w.heap.size w w') : Po T E w w' B F l := ⟨F, h.below b, KF.of b, Nw.refl _ _⟩
theorem Cw.both {T E : TypeId} {w : World} {B : Nat} {F : Nat → Prop} {c : Nat} {l : List Mb} {m k : Nat} {x : Mb} (h : Cw T E w B F (some ⟨m, 0, none⟩) c l) (hT : T ≠ E) (hx : l[k]? = some x) (y b : Int) : Cw T E ((w.setCell ⟨m, k * 3 + 2, none⟩ (.int .i64 b)).setCell ⟨m, k * 3 + 1, none⟩ (.int .i64 y)) B F (some ⟨m, 0, none⟩) c (l.set k ⟨x.p, y, b⟩) := by
 have h2 := (h.set2 hT hx b).set1 hT (k := k) (x := ⟨x.p, x.q, b⟩) (by rw [List.getElem?_set_self (List.getElem?_eq_some_iff.1 hx).1]) y
 rw [List.set_set] at h2
 exact h2
def tv (a b d : Int) : Value := .agg #[.int .i64 a, .int .i64 b, .int .i64 d]
theorem change_nil (g a b d : Int) (w : World) :
 Calls Tryz.prog 78 #[.pointer none, .int .i64 g, tv a b d] w fun r w' => r = .returned (.int .i64 6) ∧ Below w.heap.size w w' := by
 unfold tv
 go_enter Tryz.func78, Tryz.ntmps78
 go_wp2_with fail
 refine (find_nil g _).mono ?_
 rintro r w1 ⟨rfl, rfl⟩
 go_wp2_with fail
 go_ret
 exact ⟨rfl, below_alloc _ _⟩
set_option maxHeartbeats 1600000 in
theorem change_any (B : Nat) (F : Nat → Prop) (l : List Mb) (K : Nat) (g a b d : Int) (w : World) (h : PC w B F l) (hn : Bn K l) (hK : K ≤ 100000) (hd : 0 ≤ d ∧ d ≤ 1) :
 Calls Tryz.prog 78 #[.pointer (some ⟨B, 0, none⟩), .int .i64 g, tv a b d] w fun r w' => r = .returned (.int .i64 (chE l g a)) ∧ Po 96 102 w w' B F (chL l g a b d) := by
 unfold chE chL
 cases hg : gt l g with
 | none =>
   simp only
   have FO := hide (find_out B F l g _ (h.below (below_alloc w (.cells #[.int .i64 a, .int .i64 b, .int .i64 d] 131))) hg)
   have H := hide h
   clear h hg
   unfold tv
   go_enter Tryz.func78, Tryz.ntmps78
   go_wp2_with fail
   refine FO.out.mono ?_
   rintro r w1 ⟨rfl, rfl⟩
   go_wp2_with fail
   go_ret
   exact ⟨rfl, Po.of H.out (below_alloc _ _)⟩
 | some x =>
   simp only
   obtain ⟨k, rfl, hk, hx⟩ := gt_some hg
   rw [Int.toNat_natCast]
   obtain ⟨oa, c, h⟩ := h
   have hb1 := hn.at hx
   have H := hide h
   have H1 := hide (h.below (below_alloc w (.cells #[.int .i64 a, .int .i64 b, .int .i64 d] 131)))
   obtain ⟨m, rfl, q0, q1, q2⟩ := H1.out.got hx
   have FI := hide (find_in B F m c l k x _ H1.out hx)
   have Q := hide (heap_new w (.cells #[.int .i64 a, .int .i64 b, .int .i64 d] 131))
   have t0 : (w.alloc (.cells #[.int .i64 a, .int .i64 b, .int .i64 d] 131)).cell? ⟨w.heap.size, 0, none⟩ = some (.int .i64 a) := cell_of Q.out 0
   have t1 : (w.alloc (.cells #[.int .i64 a, .int .i64 b, .int .i64 d] 131)).cell? ⟨w.heap.size, 1, none⟩ = some (.int .i64 b) := cell_of Q.out 1
   have t2 : (w.alloc (.cells #[.int .i64 a, .int .i64 b, .int .i64 d] 131)).cell? ⟨w.heap.size, 2, none⟩ = some (.int .i64 d) := cell_of Q.out 2
   have BA := hide (below_alloc w (.cells #[.int .i64 a, .int .i64 b, .int .i64 d] 131))
   obtain ⟨_, cur, hm⟩ := own_blk h.ow m rfl
   have hm1 := heap_lt hm
   have hmr := heap_below hm BA.out
   have z1 := frozen_of hmr (k * 3 + 1)
   have z2 := frozen_of hmr (k * 3 + 2)
   have hFm := hide (h.fr m rfl)
   have HX := hide hx
   have hne : m ≠ w.heap.size := by omega
   clear h hg hx hm hmr hn
   by_cases hs : x.s = a
   ·rw [if_pos hs, if_pos hs]
    have e1 : (x.s != a) = false := by simp [hs]
    have HS := hide hs
    clear hs
    unfold tv
    go_enter Tryz.func78, Tryz.ntmps78
    go_wp2_with fail
    generalize w.alloc (.cells #[.int .i64 a, .int .i64 b, .int .i64 d] 131) = W at FI Q t0 t1 t2 BA q0 q1 q2 z1 z2 H1 ⊢
    refine FI.out.mono ?_
    rintro r w1 ⟨rfl, rfl⟩
    go_wp2_with fail
    go_quiet (fail)
    go_wp2_with fail
    go_region
    all_goals
     go_wp2_with fail
     go_ret
     exact ⟨rfl, F, ⟨some ⟨m, 0, none⟩, c, ((H1.out.below (bdrew _ _)).both (by decide) HX.out _ _).below (bdrew1 _)⟩, ((((KF.of (btr BA.out (bdrew _ _))).set hFm.out _ _).set hFm.out _ _).then (bdrew1 _)), Nw.refl _ _⟩
   ·rw [if_neg hs, if_neg hs]
    have e1 : (x.s != a) = true := by simp [hs]
    clear hs
    unfold tv
    go_enter Tryz.func78, Tryz.ntmps78
    go_wp2_with fail
    generalize w.alloc (.cells #[.int .i64 a, .int .i64 b, .int .i64 d] 131) = W at FI Q t0 t1 t2 BA q0 q1 q2 z1 z2 H1 ⊢
    refine FI.out.mono ?_
    rintro r w1 ⟨rfl, rfl⟩
    go_wp2_with fail
    go_quiet (fail)
    go_wp2_with fail
    go_ret
    exact ⟨rfl, Po.of ⟨_, _, H.out⟩ (btr BA.out (bdrew _ _))⟩
theorem go_nil (g : Int) (w : World) :
 Calls Tryz.prog 76 #[.pointer none, .int .i64 g] w fun r w' => r = .returned (.int .i64 6) ∧ Below w.heap.size w w' := by
 go_enter Tryz.func76, Tryz.ntmps76
 go_wp2_with fail
 refine (change_nil g 0 0 1 _).mono ?_
 rintro r w1 ⟨rfl, b1⟩
 have B1 := hide b1
 clear b1
 go_wp2_with fail
 go_ret
 exact ⟨rfl, B1.out⟩
theorem park_nil (g : Int) (w : World) :
 Calls Tryz.prog 107 #[.pointer none, .int .i64 g] w fun r w' => r = .returned (.int .i64 6) ∧ Below w.heap.size w w' := by
 go_enter Tryz.func107, Tryz.ntmps107
 go_wp2_with fail
 refine (change_nil g 0 1 0 _).mono ?_
 rintro r w1 ⟨rfl, b1⟩
 have B1 := hide b1
 clear b1
 go_wp2_with fail
 go_ret
 exact ⟨rfl, B1.out⟩
theorem wake_nil (g : Int) (w : World) :
 Calls Tryz.prog 110 #[.pointer none, .int .i64 g] w fun r w' => r = .returned (.int .i64 6) ∧ Below w.heap.size w w' := by
 go_enter Tryz.func110, Tryz.ntmps110
 go_wp2_with fail
 refine (change_nil g 1 0 1 _).mono ?_
 rintro r w1 ⟨rfl, b1⟩
 have B1 := hide b1
 clear b1
 go_wp2_with fail
 go_ret
 exact ⟨rfl, B1.out⟩
theorem exit_nil (g : Int) (w : World) :
 Calls Tryz.prog 63 #[.pointer none, .int .i64 g] w fun r w' => r = .returned (.int .i64 6) ∧ Below w.heap.size w w' := by
 go_enter Tryz.func63, Tryz.ntmps63
 go_wp2_with fail
 refine (change_nil g 0 2 0 _).mono ?_
 rintro r w1 ⟨rfl, b1⟩
 have B1 := hide b1
 clear b1
 go_wp2_with fail
 go_ret
 exact ⟨rfl, B1.out⟩
theorem go_any (B : Nat) (F : Nat → Prop) (l : List Mb) (K : Nat) (g : Int) (w : World) (h : PC w B F l) (hn : Bn K l) (hK : K ≤ 100000) :
 Calls Tryz.prog 76 #[.pointer (some ⟨B, 0, none⟩), .int .i64 g] w fun r w' => r = .returned (.int .i64 (chE l g 0)) ∧ Po 96 102 w w' B F (chL l g 0 0 1) := by
 have CH := hide (change_any B F l K g 0 0 1 w h hn hK (by decide))
 clear h hn
 unfold tv at CH
 generalize chE l g 0 = e at CH ⊢
 generalize chL l g 0 0 1 = l' at CH ⊢
 go_enter Tryz.func76, Tryz.ntmps76
 go_wp2_with fail
 refine CH.out.mono ?_
 rintro r w1 ⟨rfl, p1⟩
 have P1 := hide p1
 clear p1
 go_wp2_with fail
 go_ret
 exact ⟨rfl, P1.out⟩
theorem park_any (B : Nat) (F : Nat → Prop) (l : List Mb) (K : Nat) (g : Int) (w : World) (h : PC w B F l) (hn : Bn K l) (hK : K ≤ 100000) :
 Calls Tryz.prog 107 #[.pointer (some ⟨B, 0, none⟩), .int .i64 g] w fun r w' => r = .returned (.int .i64 (chE l g 0)) ∧ Po 96 102 w w' B F (chL l g 0 1 0) := by
 have CH := hide (change_any B F l K g 0 1 0 w h hn hK (by decide))
 clear h hn
 unfold tv at CH
 generalize chE l g 0 = e at CH ⊢
 generalize chL l g 0 1 0 = l' at CH ⊢
 go_enter Tryz.func107, Tryz.ntmps107
 go_wp2_with fail
 refine CH.out.mono ?_
 rintro r w1 ⟨rfl, p1⟩
 have P1 := hide p1
 clear p1
 go_wp2_with fail
 go_ret
 exact ⟨rfl, P1.out⟩
theorem wake_any (B : Nat) (F : Nat → Prop) (l : List Mb) (K : Nat) (g : Int) (w : World) (h : PC w B F l) (hn : Bn K l) (hK : K ≤ 100000) :
 Calls Tryz.prog 110 #[.pointer (some ⟨B, 0, none⟩), .int .i64 g] w fun r w' => r = .returned (.int .i64 (chE l g 1)) ∧ Po 96 102 w w' B F (chL l g 1 0 1) := by
 have CH := hide (change_any B F l K g 1 0 1 w h hn hK (by decide))
 clear h hn
 unfold tv at CH
 generalize chE l g 1 = e at CH ⊢
 generalize chL l g 1 0 1 = l' at CH ⊢
 go_enter Tryz.func110, Tryz.ntmps110
 go_wp2_with fail
 refine CH.out.mono ?_
 rintro r w1 ⟨rfl, p1⟩
 have P1 := hide p1
 clear p1
 go_wp2_with fail
 go_ret
 exact ⟨rfl, P1.out⟩
theorem exit_any (B : Nat) (F : Nat → Prop) (l : List Mb) (K : Nat) (g : Int) (w : World) (h : PC w B F l) (hn : Bn K l) (hK : K ≤ 100000) :
 Calls Tryz.prog 63 #[.pointer (some ⟨B, 0, none⟩), .int .i64 g] w fun r w' => r = .returned (.int .i64 (chE l g 0)) ∧ Po 96 102 w w' B F (chL l g 0 2 0) := by
 have CH := hide (change_any B F l K g 0 2 0 w h hn hK (by decide))
 clear h hn
 unfold tv at CH
 generalize chE l g 0 = e at CH ⊢
 generalize chL l g 0 2 0 = l' at CH ⊢
 go_enter Tryz.func63, Tryz.ntmps63
 go_wp2_with fail
 refine CH.out.mono ?_
 rintro r w1 ⟨rfl, p1⟩
 have P1 := hide p1
 clear p1
 go_wp2_with fail
 go_ret
 exact ⟨rfl, P1.out⟩
end Cr
end Go.Proofs.YtkkgbeaaekmhfaaGreat
namespace Go.Proofs.YtkkgbeaaekmhfaaGreat
open Go.ChangeShapes Go.WideShapes Go.ChangeAt Go.RowKit
namespace Cr
open Ba
theorem info_mb : (Tryz.prog.info? 102).map (fun i => (i.zero, i.size, i.bytes)) = some (some (tv 0 0 0), 3, 24) := by kernel_rfl
theorem spawn_nil (p : Int) (w : World) :
 Calls Tryz.prog 33 #[.pointer none, .int .i64 p] w fun r w' => r = .returned (.tuple #[.int .i64 0, .int .i64 (if p < 0 then 1 else 7)]) ∧ w' = w := by
 by_cases h1 : p < 0
 ·rw [if_pos h1]
  go_enter Tryz.func33, Tryz.ntmps33
  go_wp2_with fail
  go_ret2
  exact ⟨rfl, rfl⟩
 ·rw [if_neg h1]
  have d1 : decide (p < 0) = false := decide_eq_false h1
  go_enter Tryz.func33, Tryz.ntmps33
  go_wp2_with fail
  go_ret2
  exact ⟨rfl, rfl⟩
theorem Cw.grow {T E : TypeId} {w w1 w2 : World} {B : Nat} {F : Nat → Prop} {oa oa' : Option Addr} {c c' : Nat} {l : List Mb} {x : Mb} (h : Cw T E w1 B F oa c l) (b1 : Below w.heap.size w w1) (hF : Bd F w) (hT : T ≠ E)
 (ho : w2.ownsRow 0 E 3 (.slice oa' (l ++ [x]).length c') (l ++ [x]).length (mc (l ++ [x]))) (hg : w1.grownBy w2 (Value.slice oa l.length c).ownBlock)
 (hat : (Value.slice oa' (l ++ [x]).length c').ownBlock = (Value.slice oa l.length c).ownBlock ∨ (Value.slice oa' (l ++ [x]).length c').ownBlock = some w1.heap.size) (hl : l.length < 512) :
 Po T E w (w2.setCell ⟨B, 0, none⟩ (.slice oa' (l ++ [x]).length c')) B F (l ++ [x]) := by
 have hB : some B ≠ (Value.slice oa l.length c).ownBlock := own_ty h.ow h.hp hT
 have hB2 : w2.heap[B]? = some (.cells #[.slice oa l.length c] T (0, 0)) := (hg.block B h.lt hB).trans h.hp
 have kf : KF F w w2 := by
  refine ⟨hg.os.trans b1.os, hg.tape.trans b1.tape, hg.output.trans b1.output, Nat.le_trans b1.size hg.size, fun k hk hn => ?_⟩
  refine (hg.block k (Nat.lt_of_lt_of_le hk b1.size) ?_).trans (b1.block k hk)
  intro e
  exact hn (h.fr k e.symm)
 refine ⟨_, ⟨oa', c', Cw.put hB2 ho hT h.fb ((hF.mono b1.size).mono hg.size) (by simp; omega)⟩, kf.set h.fb _ _, ?_⟩
 intro k hk
 rcases hk with q | q
 ·exact .inl q
 ·rcases hat with e | e
  ·rw [e] at q
   exact .inl (h.fr k q)
  ·rw [e] at q
   cases q
   exact .inr b1.size
set_option maxRecDepth 100000 in
set_option maxHeartbeats 1600000 in
theorem spawn_any (B : Nat) (F : Nat → Prop) (l : List Mb) (p : Int) (w : World) (h : PC w B F l) :
 Calls Tryz.prog 33 #[.pointer (some ⟨B, 0, none⟩), .int .i64 p] w fun r w' => r = .returned (.tuple #[.int .i64 (spV l p), .int .i64 (spE l p)]) ∧ Po 96 102 w w' B F (spL l p) := by
 unfold spV spE spL
 by_cases h1 : p < 0
 ·simp only [if_pos h1]
  have H := hide h
  clear h
  go_enter Tryz.func33, Tryz.ntmps33
  go_wp2_with fail
  go_ret2
  exact ⟨rfl, Po.of H.out (Below.refl _ _)⟩
 simp only [if_neg h1]
 have d1 : decide (p < 0) = false := decide_eq_false h1
 have hle := h.le
 obtain ⟨oa, c, h⟩ := h
 have hB := h.lt
 have y0 : w.cell? ⟨B, 0, none⟩ = some (.slice oa l.length c) := cell_of h.hp 0
 by_cases h2 : 512 ≤ l.length
 ·simp only [if_pos h2]
  have hl : l.length = 512 := by omega
  have H := hide h
  rw [hl] at y0
  clear h hl h2 hle
  go_enter Tryz.func33, Tryz.ntmps33
  go_wp2_with fail
  go_ret2
  exact ⟨rfl, Po.of ⟨_, _, H.out⟩ (Below.refl _ _)⟩
 simp only [if_neg h2]
 have e1 : (((l.length : Nat) : Int) == 512) = false := by rw [beq_eq_false_iff_ne]; omega
 have hl : l.length < 512 := by omega
 have BD := hide h.bd
 have b1 := below_alloc w (.cells #[.int .i64 p, .int .i64 0, .int .i64 0] 102)
 have B1 := hide b1
 have H1 := hide (h.below b1)
 have f0 : w.frozen? ⟨B, 0, none⟩ = false := frozen_of h.hp 0
 cases hi : Tryz.prog.info? 102 with
 | none => have := info_mb; rw [hi] at this; cases this
 | some i0 =>
 have hx := info_mb
 rw [hi] at hx
 simp at hx
 have INF := hide (And.intro hi hx)
 clear hx hi h2 hle h b1
 go_enter Tryz.func33, Tryz.ntmps33
 go_wp2_with (at_builtin; refine wpList_append_own_at _ rfl _ _ 94 rfl 0 102 i0 (tv 0 0 0) 3 24 Tryz.underlying94 INF.out.1 INF.out.2.1 INF.out.2.2.1 INF.out.2.2.2 rfl (by decide) _ _ _ rfl H1.out.ow ⟨w.heap.size, 0, none⟩ 1 1 (mc [⟨p, 0, 0⟩]) rfl rfl ?c1 ?c2 ?c3 ?c4 (Nat.zero_le _) ?_)
 case c1 => first | exact src3 w ⟨p, 0, 0⟩ _ | exact fun j u hj => hj
 case c2 => exact mc_one _
 case c3 => unfold maxLen; omega
 case c4 => omega
 intro v' w2 ho hg _ hat
 rw [← mc_app] at ho
 have ho2 : w2.ownsRow 0 102 3 v' (l ++ [Mb.mk p 0 0]).length (mc (l ++ [Mb.mk p 0 0])) := by rw [List.length_append]; exact ho
 obtain ⟨oa', c', rfl, _, _⟩ := owns_mat ho2
 have hB1 : some B ≠ (Value.slice oa l.length c).ownBlock := own_ty H1.out.ow H1.out.hp (by decide)
 have hB2 : w2.heap[B]? = some (.cells #[.slice oa l.length c] 96 (0, 0)) := (hg.block B H1.out.lt hB1).trans H1.out.hp
 have y2 : w2.cell? ⟨B, 0, none⟩ = some (.slice oa l.length c) := cell_of hB2 0
 have f2 : w2.frozen? ⟨B, 0, none⟩ = false := frozen_of hB2 0
 have PO := hide (H1.out.grow B1.out BD.out (by decide) ho2 hg (by rw [World.size_alloc]; exact hat) hl)
 clear ho ho2 hg hat hB1 hB2
 generalize (l ++ [Mb.mk p 0 0]).length = n2 at PO ⊢
 go_wp2_with fail
 go_ret2
 exact ⟨rfl, PO.out⟩
end Cr
end Go.Proofs.YtkkgbeaaekmhfaaGreat
namespace Go.Proofs.YtkkgbeaaekmhfaaGreat
open Go.ChangeShapes Go.WideShapes Go.ChangeAt Go.RowKit
namespace Cr
open Ba
def ic (l : List Int) : List Value := l.map (Value.int .i64)
theorem ic_app (l m : List Int) : ic (l ++ m) = ic l ++ ic m := by simp [ic]
theorem info_i : (Tryz.prog.info? 3).map (fun i => (i.zero, i.size, i.bytes)) = some (some (.int .i64 0), 1, 8) := by kernel_rfl
theorem own_at {w : World} {base : Nat} {v : Value} {l : List Int} (h : w.ownsRow base 3 1 v l.length (ic l)) : ∃ oa c, v = .slice oa l.length c ∧ At w oa l ∧ l.length ≤ c := by
 rcases h.2 with ⟨rfl, h0⟩ | ⟨g, cap, cur, rfl, _, hg, hc, _, hcs, htk⟩
 ·refine ⟨none, 0, by rw [h0], ?_, by omega⟩
  obtain rfl := List.eq_nil_of_length_eq_zero h0
  exact At.nil _ _
 ·refine ⟨_, cap, rfl, ?_, hc⟩
  intro k hk
  refine ⟨g, 0, rfl, ?_⟩
  have q : (ic l)[k]? = some (.int .i64 (nth l k)) := by simp [ic, nth, hk]
  rw [← htk, List.getElem?_take_of_lt (by omega)] at q
  rw [Nat.zero_add, cell_of hg]
  simpa using q
theorem able_nil (w : World) :
 Calls Tryz.prog 58 #[.pointer none] w fun r w' => r = .returned (.slice none 0 0) ∧ w' = w := by
 go_enter Tryz.func58, Tryz.ntmps58
 go_wp2_with fail
 refine (all_nil _).mono ?_
 rintro r w1 ⟨rfl, rfl⟩
 go_wp2_with fail
 go_loop [3, 9] (fun l i => l = .slice none 0 0 ∧ i = .int .i64 0) (fun _ i => 0)
 case atStart => exact ⟨rfl, rfl⟩
 case round =>
  obtain ⟨rfl, rfl⟩ := hrel
  go_wp2_with fail
  go_ret
  exact ⟨rfl, rfl⟩
set_option maxRecDepth 100000 in
set_option maxHeartbeats 1600000 in
theorem able_any (B : Nat) (F : Nat → Prop) (l : List Mb) (w : World) (h : Cq 96 102 w B F l) :
 Calls Tryz.prog 58 #[.pointer (some ⟨B, 0, none⟩)] w fun r w' => ∃ ob d, r = .returned (.slice ob (abl l).length d) ∧ At w' ob (abl l) ∧ Below w.heap.size w w' := by
 cases hi : Tryz.prog.info? 3 with
 | none => have := info_i; rw [hi] at this; cases this
 | some i0 =>
 have hx2 := info_i
 rw [hi] at hx2
 simp at hx2
 have INF := hide (And.intro hi hx2)
 clear hx2 hi
 have hle := h.le
 obtain ⟨oa, c, h⟩ := h
 have hB := h.lt
 have y0 : w.cell? ⟨B, 0, none⟩ = some (.slice oa l.length c) := cell_of h.hp 0
 have HA := hide h.at.1
 have AL := hide y0
 clear h
 go_enter Tryz.func58, Tryz.ntmps58
 go_wp2_with fail
 refine (all_c B oa l.length c _ AL.out).mono ?_
 rintro r w1 ⟨rfl, hw⟩
 subst w1
 go_wp2_with fail
 go_loopw [3, 9] (fun rv i wr => ∃ (v : Value) (k : Nat), k ≤ l.length ∧ i = .int .i64 k ∧ rv = v ∧ wr.ownsRow w.heap.size 3 1 v (abl (l.take k)).length (ic (abl (l.take k))) ∧ Below w.heap.size w wr) (fun _ i _ => l.length - (intOf i).toNat)
 case atStart => exact ⟨_, 0, Nat.zero_le _, rfl, rfl, World.ownsRow_nil _ _ _ _, Below.refl _ _⟩
 case round =>
  obtain ⟨v, k, hk, rfl, rfl, ho, hb⟩ := hrel
  by_cases hlt : k < l.length
  ·have hlt' : (k : Int) < (l.length : Int) := by omega
   obtain ⟨x, hx⟩ : ∃ x, l[k]? = some x := ⟨_, List.getElem?_eq_getElem hlt⟩
   obtain ⟨b, rfl, q0, q1, q2⟩ := HA.out.below hb k x hx
   have DT := hide (abl_take hx)
   have hdl : (abl (l.take k)).length ≤ k := by
    have h1 := abl_len (l.take k)
    have h2 := List.length_take_le k l
    omega
   clear hx
   obtain ⟨X, hX⟩ : ∃ X, X = abl (l.take k) := ⟨_, rfl⟩
   rw [← hX] at DT hdl ho
   clear hX
   have BX := below_alloc wr (.cells #[.int .i64 x.p, .int .i64 x.q, .int .i64 x.s] 102)
   by_cases hs : x.s = 0
   ·have EX : Hid (abl (l.take (k + 1)) = X ++ [(k : Int)]) := by
     show _ = _
     rw [DT.out, if_pos hs]
    rw [hs] at q2 BX
    have OW1 := own_below ho BX
    have HB1 := btr hb BX
    have BY := below_alloc (wr.alloc (.cells #[.int .i64 x.p, .int .i64 x.q, .int .i64 0] 102)) (.cells #[.int .i64 (k : Int)] 3)
    have OW := hide (own_below OW1 BY)
    have HB := hide (btr HB1 BY)
    have SR := cell_one_new (wr.alloc (.cells #[.int .i64 x.p, .int .i64 x.q, .int .i64 0] 102)) (.int .i64 (k : Int)) 3
    rw [World.size_alloc] at SR
    have SRC := hide SR
    clear OW1 HB1 BY SR ho hb BX DT hs
    go_wp2_with (at_builtin; refine wpList_append_own _ rfl _ _ 23 rfl w.heap.size 3 i0 (.int .i64 0) 1 8 Tryz.underlying23 INF.out.1 INF.out.2.1 INF.out.2.2.1 INF.out.2.2.2 rfl (by decide) _ _ _ rfl OW.out ⟨wr.heap.size + 1, 0, none⟩ 1 1 [.int .i64 (k : Int)] rfl rfl ?c1 ?c2 ?c3 ?c4 ?c5 ?_)
    case c1 => first | exact SRC.out | exact fun j u hj => hj
    case c2 => intro u hu; simp at hu; subst hu; rfl
    case c3 => unfold maxLen; omega
    case c4 => omega
    case c5 => first | exact HB.out.size | (have := HB.out.size; rw [World.size_alloc, World.size_alloc] at this; exact this)
    intro v' w3 ho hg3 _
    have B3 : Hid (Below w.heap.size w w3) := HB.out.grown hg3 HB.out.size (fun x hx => (OW.out.lt x hx).1)
    have O3 : Hid (w3.ownsRow w.heap.size 3 1 v' (abl (l.take (k + 1))).length (ic (abl (l.take (k + 1))))) := by
     show World.ownsRow _ _ _ _ _ _ _
     rw [EX.out, ic_app, List.length_append]
     exact ho
    clear ho hg3
    go_wp2_with fail
    go_roundw
    case rel =>
     first
      | exact ⟨v', k + 1, by omega, by go_num, rfl, O3.out, B3.out⟩
      | ((repeat apply Exists.intro); exact ⟨⟨v', k + 1, by omega, by go_num, rfl, O3.out, B3.out⟩, rfl⟩)
    case measure => simp [intOf]; omega
   ·have hs' : (x.s == 0) = false := by simpa using hs
    have EX : Hid (abl (l.take (k + 1)) = X) := by
     show _ = _
     rw [DT.out, if_neg hs, List.append_nil]
    have O3 : Hid ((wr.alloc (.cells #[.int .i64 x.p, .int .i64 x.q, .int .i64 x.s] 102)).ownsRow w.heap.size 3 1 u3 (abl (l.take (k + 1))).length (ic (abl (l.take (k + 1))))) := by
     show World.ownsRow _ _ _ _ _ _ _
     rw [EX.out]
     exact own_below ho BX
    have B3 := hide (btr hb BX)
    clear ho hb BX DT hs
    go_wp2_with fail
    go_roundw
    case rel =>
     first
      | exact ⟨_, k + 1, by omega, by go_num, rfl, O3.out, B3.out⟩
      | exact ⟨k + 1, by omega, by go_num, O3.out, B3.out⟩
    case measure => simp [intOf]; omega
  ·have hlt' : ¬ ((k : Int) < (l.length : Int)) := by omega
   rw [List.take_of_length_le (by omega)] at ho
   obtain ⟨oa', c', hv', hA', _⟩ := own_at ho
   subst hv'
   have HA' := hide hA'
   have HB := hide hb
   clear ho hb hA'
   go_wp2_with fail
   go_ret
   first
    | exact ⟨oa', c', rfl, HA'.out, HB.out⟩
    | exact ⟨oa', ⟨c', rfl⟩, HA'.out, HB.out⟩
theorem over_nil (w : World) :
 Calls Tryz.prog 41 #[.pointer none] w fun r w' => r = .returned (.int .i64 1) ∧ Below w.heap.size w w' := by
 have A0 := hide (heap_new w (.cells #[.int .i64 0, .int .i64 0, .int .i64 0] 114))
 have B0 := hide (below_alloc w (.cells #[.int .i64 0, .int .i64 0, .int .i64 0] 114))
 have c0 : (w.alloc (.cells #[.int .i64 0, .int .i64 0, .int .i64 0] 114)).cell? ⟨w.heap.size, 0, none⟩ = some (.int .i64 0) := cell_of A0.out 0
 have c1 : (w.alloc (.cells #[.int .i64 0, .int .i64 0, .int .i64 0] 114)).cell? ⟨w.heap.size, 1, none⟩ = some (.int .i64 0) := cell_of A0.out 1
 go_enter Tryz.func41, Tryz.ntmps41
 go_wp2_with fail
 refine (all_nil _).mono ?_
 rintro r w1 ⟨rfl, rfl⟩
 go_wp2_with fail
 go_loop [9] (fun i => i = .int .i64 0) (fun i => 0)
 case atStart => rfl
 case round =>
  subst hrel
  go_wp2_with fail
  go_ret
  exact ⟨rfl, B0.out⟩
structure Ct (wr : World) (A : Nat) (l : List Mb) (k : Nat) (n0 n1 n2 : Int) : Prop where
 hp : wr.heap[A]? = some (.cells #[.int .i64 n0, .int .i64 n1, .int .i64 n2] 114 (0, 0))
 b0 : 0 ≤ n0 ∧ n0 ≤ k
 b1 : 0 ≤ n1 ∧ n1 ≤ k
 b2 : 0 ≤ n2 ∧ n2 ≤ k
 h0 : decide (0 < n0) = hasS (l.take k) 0
 h1 : decide (0 < n1) = hasS (l.take k) 1
theorem Ct.below {w w' : World} {A : Nat} {l : List Mb} {k : Nat} {n0 n1 n2 : Int} (h : Ct w A l k n0 n1 n2) (hb : Below w.heap.size w w') : Ct w' A l k n0 n1 n2 := ⟨heap_below h.hp hb, h.b0, h.b1, h.b2, h.h0, h.h1⟩
theorem Ct.add0 {w : World} {A : Nat} {l : List Mb} {k : Nat} {n0 n1 n2 : Int} {x : Mb} (h : Ct w A l k n0 n1 n2) (hx : l[k]? = some x) (hs : x.s = 0) : Ct (w.setCell ⟨A, 0, none⟩ (.int .i64 (n0 + 1))) A l (k + 1) (n0 + 1) n1 n2 := by
 have q0 := h.b0
 have q1 := h.b1
 have q2 := h.b2
 refine ⟨(Ba.heap_setCell_same h.hp _).trans rfl, by omega, by omega, by omega, ?_, ?_⟩
 ·rw [hasS_take hx, hs, decide_eq_true (by omega)]; simp
 ·rw [hasS_take hx, hs, h.h1]; simp
theorem Ct.add1 {w : World} {A : Nat} {l : List Mb} {k : Nat} {n0 n1 n2 : Int} {x : Mb} (h : Ct w A l k n0 n1 n2) (hx : l[k]? = some x) (hs : x.s = 1) : Ct (w.setCell ⟨A, 1, none⟩ (.int .i64 (n1 + 1))) A l (k + 1) n0 (n1 + 1) n2 := by
 have q0 := h.b0
 have q1 := h.b1
 have q2 := h.b2
 refine ⟨(Ba.heap_setCell_same h.hp _).trans rfl, by omega, by omega, by omega, ?_, ?_⟩
 ·rw [hasS_take hx, hs, h.h0]; simp
 ·rw [hasS_take hx, hs, decide_eq_true (by omega)]; simp
theorem Ct.add2 {w : World} {A : Nat} {l : List Mb} {k : Nat} {n0 n1 n2 : Int} {x : Mb} (h : Ct w A l k n0 n1 n2) (hx : l[k]? = some x) (hs : x.s = 2) : Ct (w.setCell ⟨A, 2, none⟩ (.int .i64 (n2 + 1))) A l (k + 1) n0 n1 (n2 + 1) := by
 have q0 := h.b0
 have q1 := h.b1
 have q2 := h.b2
 refine ⟨(Ba.heap_setCell_same h.hp _).trans rfl, by omega, by omega, by omega, ?_, ?_⟩
 ·rw [hasS_take hx, hs, h.h0]; simp
 ·rw [hasS_take hx, hs, h.h1]; simp
set_option maxRecDepth 100000 in
set_option maxHeartbeats 1600000 in
theorem over_any (B : Nat) (F : Nat → Prop) (l : List Mb) (K : Nat) (w : World) (h : PC w B F l) (hn : Bn K l) :
 Calls Tryz.prog 41 #[.pointer (some ⟨B, 0, none⟩)] w fun r w' => r = .returned (.int .i64 (ovr l)) ∧ Below w.heap.size w w' := by
 have hle := h.le
 have hB := h.lt
 have BA := hide (below_alloc w (.cells #[.int .i64 0, .int .i64 0, .int .i64 0] 114))
 have A0 := hide (heap_new w (.cells #[.int .i64 0, .int .i64 0, .int .i64 0] 114))
 obtain ⟨oa, c, h⟩ := h
 have AL := hide (all_c B oa l.length c _ (cell_of (h.below BA.out).hp 0))
 have HA := hide h.at.1
 have HN := hide hn
 clear h hn
 go_enter Tryz.func41, Tryz.ntmps41
 go_wp2_with fail
 have C0 : Hid (Ct (w.alloc (.cells #[.int .i64 0, .int .i64 0, .int .i64 0] 114)) w.heap.size l 0 0 0 0) := ⟨A0.out, by omega, by omega, by omega, rfl, rfl⟩
 clear A0
 generalize w.alloc (.cells #[.int .i64 0, .int .i64 0, .int .i64 0] 114) = W at BA AL C0 ⊢
 refine AL.out.mono ?_
 rintro r w1 ⟨rfl, hw⟩
 subst w1
 go_wp2_with fail
 go_loopw [9] (fun i wr => ∃ (k : Nat) (n0 n1 n2 : Int), k ≤ l.length ∧ i = .int .i64 k ∧ Ct wr w.heap.size l k n0 n1 n2 ∧ Below w.heap.size w wr) (fun i _ => l.length - (intOf i).toNat)
 case atStart => exact ⟨0, 0, 0, 0, Nat.zero_le _, rfl, C0.out, BA.out⟩
 case round =>
  clear C0 BA AL
  obtain ⟨k, n0, n1, n2, hk, rfl, c2, b2⟩ := hrel
  have C2 := hide c2
  have B2 := hide b2
  clear c2 b2
  have hAw := heap_lt C2.out.hp
  have q00 := C2.out.b0
  have q01 := C2.out.b1
  have q02 := C2.out.b2
  have c0 : wr.cell? ⟨w.heap.size, 0, none⟩ = some (.int .i64 n0) := cell_of C2.out.hp 0
  have c1 : wr.cell? ⟨w.heap.size, 1, none⟩ = some (.int .i64 n1) := cell_of C2.out.hp 1
  have c2 : wr.cell? ⟨w.heap.size, 2, none⟩ = some (.int .i64 n2) := cell_of C2.out.hp 2
  have z0 := frozen_of C2.out.hp 0
  have z1 := frozen_of C2.out.hp 1
  have z2 := frozen_of C2.out.hp 2
  by_cases hlt : k < l.length
  ·have hlt' : (k : Int) < (l.length : Int) := by omega
   obtain ⟨x, hx⟩ : ∃ x, l[k]? = some x := ⟨_, List.getElem?_eq_getElem hlt⟩
   obtain ⟨b, rfl, q0, q1, q2⟩ := HA.out.below B2.out k x hx
   have hs := HN.out.at hx
   have HX := hide hx
   clear hx
   have hs : x.s = 0 ∨ x.s = 1 ∨ x.s = 2 := by omega
   rcases hs with hs | hs | hs
   ·have sl : x.s = 0 := hs
    rw [sl] at q2
    have C3 := hide ((C2.out.add0 HX.out sl).below (below_alloc _ (.cells #[.int .i64 x.p, .int .i64 x.q, .int .i64 0] 102)))
    have B3 : Hid (Below w.heap.size w _) := btr (B2.out.setCell (p := ⟨w.heap.size, 0, none⟩) (Nat.le_refl _) (.int .i64 (n0 + 1))) (below_alloc _ (.cells #[.int .i64 x.p, .int .i64 x.q, .int .i64 0] 102))
    clear sl
    go_wp2_with fail
    go_roundw
    case rel => exact ⟨k + 1, (n0 + 1), n1, n2, by omega, by go_num, C3.out, B3.out⟩
    case measure => simp [intOf]; omega
   ·have sl : x.s = 1 := hs
    rw [sl] at q2
    have C3 := hide ((C2.out.add1 HX.out sl).below (below_alloc _ (.cells #[.int .i64 x.p, .int .i64 x.q, .int .i64 1] 102)))
    have B3 : Hid (Below w.heap.size w _) := btr (B2.out.setCell (p := ⟨w.heap.size, 1, none⟩) (Nat.le_refl _) (.int .i64 (n1 + 1))) (below_alloc _ (.cells #[.int .i64 x.p, .int .i64 x.q, .int .i64 1] 102))
    clear sl
    go_wp2_with fail
    go_roundw
    case rel => exact ⟨k + 1, n0, (n1 + 1), n2, by omega, by go_num, C3.out, B3.out⟩
    case measure => simp [intOf]; omega
   ·have sl : x.s = 2 := hs
    rw [sl] at q2
    have C3 := hide ((C2.out.add2 HX.out sl).below (below_alloc _ (.cells #[.int .i64 x.p, .int .i64 x.q, .int .i64 2] 102)))
    have B3 : Hid (Below w.heap.size w _) := btr (B2.out.setCell (p := ⟨w.heap.size, 2, none⟩) (Nat.le_refl _) (.int .i64 (n2 + 1))) (below_alloc _ (.cells #[.int .i64 x.p, .int .i64 x.q, .int .i64 2] 102))
    clear sl
    go_wp2_with fail
    go_roundw
    case rel => exact ⟨k + 1, n0, n1, (n2 + 1), by omega, by go_num, C3.out, B3.out⟩
    case measure => simp [intOf]; omega
  ·have hlt' : ¬ ((k : Int) < (l.length : Int)) := by omega
   have E0 := hide C2.out.h0
   have E1 := hide C2.out.h1
   rw [List.take_of_length_le (by omega)] at E0 E1
   have EO : Hid (ovr l = if decide (0 < n0) = true then 0 else if decide (0 < n1) = true then 2 else 1) := by
    show _ = _
    unfold ovr
    rw [← E0.out, ← E1.out]
   by_cases h0 : 0 < n0
   ·go_wp2_with fail
    go_ret
    exact ⟨ret_int (by rw [EO.out, if_pos (decide_eq_true h0)]), B2.out⟩
   ·have d0 : decide (0 < n0) = false := decide_eq_false h0
    by_cases h1 : 0 < n1
    ·go_wp2_with fail
     go_ret
     exact ⟨ret_int (by rw [EO.out, d0, if_neg (by simp), if_pos (decide_eq_true h1)]), B2.out⟩
    ·have d1 : decide (0 < n1) = false := decide_eq_false h1
     go_wp2_with fail
     go_ret
     exact ⟨ret_int (by rw [EO.out, d0, d1, if_neg (by simp), if_neg (by simp)]), B2.out⟩
end Cr
end Go.Proofs.YtkkgbeaaekmhfaaGreat
namespace Go.Proofs.YtkkgbeaaekmhfaaGreat
open Go.ChangeShapes Go.WideShapes Go.ChangeAt Go.RowKit
namespace Ba
theorem owns_below {w w' : World} {base : Nat} {e : TypeId} {size : Nat} {v : Value} {n : Nat} {xs : List Value} (h : w.ownsRow base e size v n xs) (hb : Below w.heap.size w w') : w'.ownsRow base e size v n xs := by
 refine ⟨h.1, ?_⟩
 rcases h.2 with q | ⟨g, cap, cur, q1, q2, q3, q4⟩
 ·exact .inl q
 ·exact .inr ⟨g, cap, cur, q1, q2, heap_below q3 hb, q4⟩
theorem owns_at {w : World} {base : Nat} {e : TypeId} {v : Value} {l : List Int} (h : w.ownsRow base e 1 v l.length (l.map (Value.int .i64))) : ∃ oa c, v = .slice oa l.length c ∧ At w oa l := by
 rcases h.2 with ⟨rfl, h0⟩ | ⟨g, cap, cur, rfl, _, hg, _, _, hcs, htk⟩
 ·refine ⟨none, 0, by rw [h0], fun k hk => by omega⟩
 ·refine ⟨_, cap, rfl, fun k hk => ⟨g, 0, rfl, ?_⟩⟩
  rw [Nat.zero_add, cell_of hg k]
  have : (cur.toList.take (l.length * 1))[k]? = (l.map (Value.int .i64))[k]? := by rw [htk]
  rw [List.getElem?_take] at this
  simp [hk] at this
  rw [nth_lt l k hk]
  rw [← this]
theorem info_int : (Tryz.prog.info? 3).map (fun i => (i.zero, i.size, i.bytes)) = some (some (.int .i64 0), 1, 8) := by kernel_rfl
end Ba
end Go.Proofs.YtkkgbeaaekmhfaaGreat
namespace Go.Proofs.YtkkgbeaaekmhfaaGreat
open Go.ChangeShapes Go.WideShapes Go.ChangeAt Go.RowKit
namespace De
open Ba Re
structure Cs where
 send : Bool
 ch : Int
 val : Int
structure OpD where
 kind : Int
 a : Int
 b : Int
 cases : List Cs
 def_ : Bool
def CAt (w : World) (oa : Option Addr) (l : List Cs) : Prop :=
 ∀ k, ∀ x, l[k]? = some x → ∃ b off, oa = some ⟨b, off, none⟩ ∧ w.cell? ⟨b, off + k * 3, none⟩ = some (.bool x.send) ∧ w.cell? ⟨b, off + k * 3 + 1, none⟩ = some (.int .i64 x.ch) ∧ w.cell? ⟨b, off + k * 3 + 2, none⟩ = some (.int .i64 x.val)
theorem CAt.below {w w' : World} {oa : Option Addr} {l : List Cs} (h : CAt w oa l) (hb : Below w.heap.size w w') : CAt w' oa l := by
 intro k x hk
 obtain ⟨b, off, he, h1, h2, h3⟩ := h k x hk
 exact ⟨b, off, he, (hb.cell (World.block_lt_of_cell? w _ h1)).trans h1, (hb.cell (World.block_lt_of_cell? w _ h2)).trans h2, (hb.cell (World.block_lt_of_cell? w _ h3)).trans h3⟩
theorem CAt.nil (w : World) (oa : Option Addr) : CAt w oa [] := fun k x hk => by simp at hk
def okP (p : Int) : Bool := decide (1 ≤ p) && decide (p ≤ 8)
theorem isCount_any (p : Int) (w : World) :
 Calls Tryz.prog 91 #[.int .i64 p] w fun r w' => r = .returned (.bool (okP p)) ∧ w' = w := by
 by_cases h1 : 1 ≤ p
 ·have e : okP p = decide (p ≤ 8) := by simp [okP, h1]
  rw [e]
  clear e
  go_enter Tryz.func91, Tryz.ntmps91
  go_wp2
  go_ret
  exact ⟨rfl, rfl⟩
 ·have e : okP p = false := by simp [okP, h1]
  rw [e]
  clear e
  go_enter Tryz.func91, Tryz.ntmps91
  go_wp2
  go_ret
  exact ⟨rfl, rfl⟩
def upB (n m : Int) : Bool := decide (0 ≤ n) && decide (n ≤ m)
theorem upTo_any (n m : Int) (w : World) :
 Calls Tryz.prog 93 #[.int .i64 n, .int .i64 m] w fun r w' => r = .returned (.bool (upB n m)) ∧ w' = w := by
 by_cases h1 : 0 ≤ n
 ·have e : upB n m = decide (n ≤ m) := by simp [upB, h1]
  rw [e]
  clear e
  go_enter Tryz.func93, Tryz.ntmps93
  go_wp2
  go_ret
  exact ⟨rfl, rfl⟩
 ·have e : upB n m = false := by simp [upB, h1]
  rw [e]
  clear e
  go_enter Tryz.func93, Tryz.ntmps93
  go_wp2
  go_ret
  exact ⟨rfl, rfl⟩
def mA (k p : Int) : Int := if k = 1 then p - 1 else if k = 2 ∨ k = 3 ∨ k = 4 ∨ k = 5 ∨ k = 7 ∨ k = 8 then 7 else 0
def mB (k : Int) : Int := if k = 2 then 4 else if k = 3 then 99 else 0
theorem reach_1 (p : Int) (h1 : 1 ≤ p) (h2 : p ≤ 8) (w : World) :
 Calls Tryz.prog 92 #[.int .i64 1, .int .i64 p] w fun r w' => r = .returned (.tuple #[.int .i64 (mA 1 p), .int .i64 (mB 1)]) ∧ w' = w := by
 have h1' := h1
 have h2' := h2
 go_enter Tryz.func92, Tryz.ntmps92
 go_wp2
 go_ret2
 exact ⟨rfl, rfl⟩
theorem reach_2 (p : Int) (h1 : 1 ≤ p) (h2 : p ≤ 8) (w : World) :
 Calls Tryz.prog 92 #[.int .i64 2, .int .i64 p] w fun r w' => r = .returned (.tuple #[.int .i64 (mA 2 p), .int .i64 (mB 2)]) ∧ w' = w := by
 have h1' := h1
 have h2' := h2
 go_enter Tryz.func92, Tryz.ntmps92
 go_wp2
 go_ret2
 exact ⟨rfl, rfl⟩
theorem reach_3 (p : Int) (h1 : 1 ≤ p) (h2 : p ≤ 8) (w : World) :
 Calls Tryz.prog 92 #[.int .i64 3, .int .i64 p] w fun r w' => r = .returned (.tuple #[.int .i64 (mA 3 p), .int .i64 (mB 3)]) ∧ w' = w := by
 have h1' := h1
 have h2' := h2
 go_enter Tryz.func92, Tryz.ntmps92
 go_wp2
 go_ret2
 exact ⟨rfl, rfl⟩
theorem reach_4 (p : Int) (h1 : 1 ≤ p) (h2 : p ≤ 8) (w : World) :
 Calls Tryz.prog 92 #[.int .i64 4, .int .i64 p] w fun r w' => r = .returned (.tuple #[.int .i64 (mA 4 p), .int .i64 (mB 4)]) ∧ w' = w := by
 have h1' := h1
 have h2' := h2
 go_enter Tryz.func92, Tryz.ntmps92
 go_wp2
 go_ret2
 exact ⟨rfl, rfl⟩
theorem reach_5 (p : Int) (h1 : 1 ≤ p) (h2 : p ≤ 8) (w : World) :
 Calls Tryz.prog 92 #[.int .i64 5, .int .i64 p] w fun r w' => r = .returned (.tuple #[.int .i64 (mA 5 p), .int .i64 (mB 5)]) ∧ w' = w := by
 have h1' := h1
 have h2' := h2
 go_enter Tryz.func92, Tryz.ntmps92
 go_wp2
 go_ret2
 exact ⟨rfl, rfl⟩
theorem reach_6 (p : Int) (h1 : 1 ≤ p) (h2 : p ≤ 8) (w : World) :
 Calls Tryz.prog 92 #[.int .i64 6, .int .i64 p] w fun r w' => r = .returned (.tuple #[.int .i64 (mA 6 p), .int .i64 (mB 6)]) ∧ w' = w := by
 have h1' := h1
 have h2' := h2
 go_enter Tryz.func92, Tryz.ntmps92
 go_wp2
 go_ret2
 exact ⟨rfl, rfl⟩
theorem reach_7 (p : Int) (h1 : 1 ≤ p) (h2 : p ≤ 8) (w : World) :
 Calls Tryz.prog 92 #[.int .i64 7, .int .i64 p] w fun r w' => r = .returned (.tuple #[.int .i64 (mA 7 p), .int .i64 (mB 7)]) ∧ w' = w := by
 have h1' := h1
 have h2' := h2
 go_enter Tryz.func92, Tryz.ntmps92
 go_wp2
 go_ret2
 exact ⟨rfl, rfl⟩
theorem reach_8 (p : Int) (h1 : 1 ≤ p) (h2 : p ≤ 8) (w : World) :
 Calls Tryz.prog 92 #[.int .i64 8, .int .i64 p] w fun r w' => r = .returned (.tuple #[.int .i64 (mA 8 p), .int .i64 (mB 8)]) ∧ w' = w := by
 have h1' := h1
 have h2' := h2
 go_enter Tryz.func92, Tryz.ntmps92
 go_wp2
 go_ret2
 exact ⟨rfl, rfl⟩
theorem reach_9 (p : Int) (h1 : 1 ≤ p) (h2 : p ≤ 8) (w : World) :
 Calls Tryz.prog 92 #[.int .i64 9, .int .i64 p] w fun r w' => r = .returned (.tuple #[.int .i64 (mA 9 p), .int .i64 (mB 9)]) ∧ w' = w := by
 have h1' := h1
 have h2' := h2
 go_enter Tryz.func92, Tryz.ntmps92
 go_wp2
 go_ret2
 exact ⟨rfl, rfl⟩
theorem kind_cases {k : Int} (h1 : 1 ≤ k) (h2 : k ≤ 9) : k = 1 ∨ k = 2 ∨ k = 3 ∨ k = 4 ∨ k = 5 ∨ k = 6 ∨ k = 7 ∨ k = 8 ∨ k = 9 := by omega
theorem reach_any (k p : Int) (hk1 : 1 ≤ k) (hk2 : k ≤ 9) (h1 : 1 ≤ p) (h2 : p ≤ 8) (w : World) :
 Calls Tryz.prog 92 #[.int .i64 k, .int .i64 p] w fun r w' => r = .returned (.tuple #[.int .i64 (mA k p), .int .i64 (mB k)]) ∧ w' = w := by
 rcases kind_cases hk1 hk2 with rfl | rfl | rfl | rfl | rfl | rfl | rfl | rfl | rfl
 ·exact reach_1 p h1 h2 w
 ·exact reach_2 p h1 h2 w
 ·exact reach_3 p h1 h2 w
 ·exact reach_4 p h1 h2 w
 ·exact reach_5 p h1 h2 w
 ·exact reach_6 p h1 h2 w
 ·exact reach_7 p h1 h2 w
 ·exact reach_8 p h1 h2 w
 ·exact reach_9 p h1 h2 w
def okC (x : Cs) : Bool := upB x.ch 7 && upB x.val (bif x.send then 99 else 0)
theorem isCase_any (x : Cs) (w : World) :
 Calls Tryz.prog 94 #[.agg #[.bool x.send, .int .i64 x.ch, .int .i64 x.val]] w fun r w' => r = .returned (.bool (okC x)) ∧ Below w.heap.size w w' := by
 obtain ⟨s, c, v⟩ := x
 cases s <;> cases h : upB c 7
 all_goals
  have HC := hide h
  clear h
  go_enter Tryz.func94, Tryz.ntmps94
  go_wp2_with fail
  refine (upTo_any _ _ _).mono ?_
  rw [HC.out]
  rintro r w1 ⟨rfl, rfl⟩
  go_wp2_with (go_at_call 93; refine (upTo_any _ _ _).mono ?_; rintro r w1 ⟨rfl, rfl⟩)
  go_ret
  exact ⟨by simp [okC, HC.out], below_alloc _ _⟩
def opA (o : OpD) (oa : Option Addr) (c : Nat) : Array Value := #[.int .i64 o.kind, .int .i64 o.a, .int .i64 o.b, .slice oa o.cases.length c, .bool o.def_]
def chk (o : OpD) (p : Int) : Int :=
 if (okP p && (decide (1 ≤ o.kind) && decide (o.kind ≤ 9))) = false then 1
 else if 4 < o.cases.length then 2
 else if (upB o.a (mA o.kind p) && upB o.b (mB o.kind)) = false then 4
 else if o.kind ≠ 6 ∧ (o.def_ || decide (0 < o.cases.length)) = true then 4
 else if o.cases.all okC then 0 else 4
set_option maxHeartbeats 800000 in
theorem check_arg (o : OpD) (oa : Option Addr) (c : Nat) (p : Int) (w : World) (h : (okP p && (decide (1 ≤ o.kind) && decide (o.kind ≤ 9))) = false) :
 Calls Tryz.prog 72 #[.agg #[.int .i64 o.kind, .int .i64 o.a, .int .i64 o.b, .slice oa o.cases.length c, .bool o.def_], .int .i64 p] w fun r w' => r = .returned (.int .i64 1) ∧ Below w.heap.size w w' := by
 obtain ⟨k, a, b, cs, d⟩ := o
 cases hp : okP p
 ·have HP := hide hp
  clear h hp
  go_enter Tryz.func72, Tryz.ntmps72
  go_wp2_with fail
  refine (isCount_any _ _).mono ?_
  rw [HP.out]
  rintro r w1 ⟨rfl, rfl⟩
  go_wp2_with fail
  go_ret
  exact ⟨rfl, below_alloc _ _⟩
 ·have HP := hide hp
  have hk : k < 1 ∨ 9 < k := by
   rw [hp] at h
   simp at h
   by_cases q : 1 ≤ k
   ·have := h q; omega
   ·omega
  clear h hp
  by_cases h1 : k < 1
  ·have d1 : decide (k < 1) = true := by simpa using h1
   clear hk
   go_enter Tryz.func72, Tryz.ntmps72
   go_wp2_with fail
   refine (isCount_any _ _).mono ?_
   rw [HP.out]
   rintro r w1 ⟨rfl, rfl⟩
   go_wp2_with fail
   go_ret
   exact ⟨rfl, below_alloc _ _⟩
  ·have d1 : decide (k < 1) = false := by simpa using h1
   have d2 : decide (9 < k) = true := by simp; omega
   clear hk
   go_enter Tryz.func72, Tryz.ntmps72
   go_wp2_with fail
   refine (isCount_any _ _).mono ?_
   rw [HP.out]
   rintro r w1 ⟨rfl, rfl⟩
   go_wp2_with fail
   go_ret
   exact ⟨rfl, below_alloc _ _⟩
end De
end Go.Proofs.YtkkgbeaaekmhfaaGreat
namespace Go.Proofs.YtkkgbeaaekmhfaaGreat
open Go.ChangeShapes Go.WideShapes Go.ChangeAt Go.RowKit
namespace De
open Ba Re
theorem all_no {l : List Cs} {j : Nat} {x : Cs} (hx : l[j]? = some x) (h : okC x = false) : l.all okC = false := by
 rw [List.all_eq_false]
 exact ⟨x, List.mem_of_getElem? hx, by simp [h]⟩
theorem all_yes {l : List Cs} (h : ∀ (q : Nat) (x : Cs), l[q]? = some x → okC x = true) : l.all okC = true := by
 rw [List.all_eq_true]
 intro x hx
 obtain ⟨q, hq⟩ := List.getElem?_of_mem hx
 exact h q x hq
theorem okP_iff (p : Int) : okP p = true ↔ 1 ≤ p ∧ p ≤ 8 := by simp [okP]
set_option maxHeartbeats 800000 in
theorem check_long (o : OpD) (oa : Option Addr) (c : Nat) (p : Int) (w : World) (hp : okP p = true) (h1 : 1 ≤ o.kind) (h2 : o.kind ≤ 9) (hl : 4 < o.cases.length) (hm : o.cases.length ≤ maxLen) :
 Calls Tryz.prog 72 #[.agg #[.int .i64 o.kind, .int .i64 o.a, .int .i64 o.b, .slice oa o.cases.length c, .bool o.def_], .int .i64 p] w fun r w' => r = .returned (.int .i64 2) ∧ Below w.heap.size w w' := by
 obtain ⟨k, a, b, cs, d⟩ := o
 unfold maxLen at hm
 simp only at h1 h2 hl hm ⊢
 have HP := hide hp
 have d1 : decide (k < 1) = false := by simp; omega
 have d2 : decide (9 < k) = false := by simp; omega
 have d3 : decide ((4 : Int) < (cs.length : Int)) = true := by simp; omega
 clear hp
 go_enter Tryz.func72, Tryz.ntmps72
 go_wp2_with fail
 refine (isCount_any _ _).mono ?_
 rw [HP.out]
 rintro r w1 ⟨rfl, rfl⟩
 go_wp2_with fail
 go_ret
 exact ⟨rfl, below_alloc _ _⟩
set_option maxHeartbeats 1600000 in
theorem check_main (o : OpD) (oa : Option Addr) (c : Nat) (p : Int) (w : World) (hp : okP p = true) (h1 : 1 ≤ o.kind) (h2 : o.kind ≤ 9) (hl : o.cases.length ≤ 4) (hA : CAt w oa o.cases) (x1 x2 x3 x4 : Bool) (hx1 : upB o.a (mA o.kind p) = x1) (hx2 : upB o.b (mB o.kind) = x2) (hx3 : (o.kind == 6) = x3) (hx4 : (o.def_ || decide (0 < o.cases.length)) = x4) :
 Calls Tryz.prog 72 #[.agg #[.int .i64 o.kind, .int .i64 o.a, .int .i64 o.b, .slice oa o.cases.length c, .bool o.def_], .int .i64 p] w fun r w' => r = .returned (.int .i64 (bif x1 && x2 && (x3 || !x4) && o.cases.all okC then 0 else 4)) ∧ Below w.heap.size w w' := by
 obtain ⟨k, a, b, cs, d⟩ := o
 simp only at h1 h2 hl hA hx1 hx2 hx3 hx4 ⊢
 have HP := hide hp
 have HP2 := hide ((okP_iff p).1 hp)
 have HA := hide hA
 have X1 := hide hx1
 have X2 := hide hx2
 have d1 : decide (k < 1) = false := by simp; omega
 have d2 : decide (9 < k) = false := by simp; omega
 have d3 : decide ((4 : Int) < (cs.length : Int)) = false := by simp; omega
 have d4 : (k != 6) = !x3 := by rw [← hx3]; rfl
 clear hp hA hx1 hx2
 cases x1
 ·clear hx3 hx4 d4
  go_enter Tryz.func72, Tryz.ntmps72
  go_wp2_with fail
  refine (isCount_any _ _).mono ?_
  rw [HP.out]
  rintro r w1 ⟨rfl, rfl⟩
  go_wp2_with fail
  refine (reach_any k p h1 h2 HP2.out.1 HP2.out.2 _).mono ?_
  rintro r w1 ⟨rfl, rfl⟩
  go_wp2_with fail
  refine (upTo_any _ _ _).mono ?_
  rw [X1.out]
  rintro r w1 ⟨rfl, rfl⟩
  go_wp2_with fail
  go_ret
  exact ⟨rfl, below_alloc _ _⟩
 cases x2
 ·clear hx3 hx4 d4
  go_enter Tryz.func72, Tryz.ntmps72
  go_wp2_with fail
  refine (isCount_any _ _).mono ?_
  rw [HP.out]
  rintro r w1 ⟨rfl, rfl⟩
  go_wp2_with fail
  refine (reach_any k p h1 h2 HP2.out.1 HP2.out.2 _).mono ?_
  rintro r w1 ⟨rfl, rfl⟩
  go_wp2_with fail
  refine (upTo_any _ _ _).mono ?_
  rw [X1.out]
  rintro r w1 ⟨rfl, rfl⟩
  go_wp2_with fail
  refine (upTo_any _ _ _).mono ?_
  rw [X2.out]
  rintro r w1 ⟨rfl, rfl⟩
  go_wp2_with fail
  go_ret
  exact ⟨rfl, below_alloc _ _⟩
 go_enter Tryz.func72, Tryz.ntmps72
 go_wp2_with fail
 refine (isCount_any _ _).mono ?_
 rw [HP.out]
 rintro r w1 ⟨rfl, rfl⟩
 go_wp2_with fail
 refine (reach_any k p h1 h2 HP2.out.1 HP2.out.2 _).mono ?_
 rintro r w1 ⟨rfl, rfl⟩
 go_wp2_with fail
 refine (upTo_any _ _ _).mono ?_
 rw [X1.out]
 rintro r w1 ⟨rfl, rfl⟩
 go_wp2_with fail
 refine (upTo_any _ _ _).mono ?_
 rw [X2.out]
 rintro r w1 ⟨rfl, rfl⟩
 cases x3
 ·cases x4
  ·have hd : d = false := by
    cases d
    ·rfl
    ·simp at hx4
   have hc0 : cs = [] := by
    rw [hd] at hx4
    simpa using hx4
   subst hd hc0
   clear hx4 hx3
   go_wp2_with fail
   refine wp_loop_rounds 1 ?_
   rw [rounds_succ]
   go_wp2
   go_ret
   exact ⟨rfl, below_alloc _ _⟩
  ·clear hx3
   cases d
   ·obtain ⟨x, t, rfl⟩ : ∃ x t, cs = x :: t := by
     cases cs with
     | nil => simp at hx4
     | cons x t => exact ⟨x, t, rfl⟩
    clear hx4
    go_wp2_with fail
    go_ret
    exact ⟨rfl, below_alloc _ _⟩
   ·clear hx4
    go_wp2_with fail
    go_ret
    exact ⟨rfl, below_alloc _ _⟩
 ·clear hx4 hx3
  have B0 := hide (below_alloc w (.cells #[.int .i64 k, .int .i64 a, .int .i64 b, .slice oa cs.length c, .bool d] 48))
  go_wp2_with fail
  generalize w.alloc (.cells #[.int .i64 k, .int .i64 a, .int .i64 b, .slice oa cs.length c, .bool d] 48) = W at B0 ⊢
  go_loopw [61] (fun i wr => ∃ j : Nat, j ≤ cs.length ∧ i = .int .i64 (j : Int) ∧ (∀ q x, q < j → cs[q]? = some x → okC x = true) ∧ Below w.heap.size w wr) (fun i _ => cs.length - (intOf i).toNat)
  case atStart => exact ⟨0, Nat.zero_le _, rfl, fun q x hq => absurd hq (Nat.not_lt_zero _), B0.out⟩
  case round =>
   clear B0
   obtain ⟨j, hj, rfl, hall, hb⟩ := hrel
   have HK := hide hall
   have HB := hide hb
   clear hall hb
   by_cases hlt : j < cs.length
   ·have hlt' : decide ((j : Int) < (cs.length : Int)) = true := by simp; omega
    obtain ⟨x, hx⟩ : ∃ x, cs[j]? = some x := ⟨cs[j], by simp [hlt]⟩
    obtain ⟨b', off, rfl, q1, q2, q3⟩ := (HA.out.below HB.out) j x hx
    have HX := hide hx
    clear hx
    cases hok : okC x
    ·have HO := hide hok
     clear hok
     go_wp2_with fail
     refine (isCase_any x _).mono ?_
     rw [HO.out]
     rintro r w2 ⟨rfl, b2⟩
     have B2 := hide (btr (btr HB.out (below_alloc _ _)) b2)
     clear b2
     go_wp2_with fail
     go_ret
     exact ⟨by rw [all_no HX.out HO.out]; simp, B2.out⟩
    ·have HO := hide hok
     clear hok
     go_wp2_with fail
     refine (isCase_any x _).mono ?_
     rw [HO.out]
     rintro r w2 ⟨rfl, b2⟩
     have B2 := hide (btr (btr HB.out (below_alloc _ _)) b2)
     clear b2
     go_wp2_with fail
     go_roundw
     case rel => exact ⟨j + 1, by omega, by go_num, fun q y hq hy => by
      by_cases e : q = j
      ·subst e
       have := HX.out
       rw [hy] at this
       simp at this
       subst this
       exact HO.out
      ·exact HK.out q y (by omega) hy, B2.out⟩
     case measure => simp [intOf]; omega
   ·have hlt' : decide ((j : Int) < (cs.length : Int)) = false := by simp; omega
    go_wp2_with fail
    go_ret
    exact ⟨by rw [all_yes (fun q x hq => HK.out q x (by have := (List.getElem?_eq_some_iff.1 hq).1; omega) hq)]; rfl, HB.out⟩
theorem check_any (o : OpD) (oa : Option Addr) (c : Nat) (p : Int) (w : World) (hA : CAt w oa o.cases) (hm : o.cases.length ≤ maxLen) :
 Calls Tryz.prog 72 #[.agg #[.int .i64 o.kind, .int .i64 o.a, .int .i64 o.b, .slice oa o.cases.length c, .bool o.def_], .int .i64 p] w fun r w' => r = .returned (.int .i64 (chk o p)) ∧ Below w.heap.size w w' := by
 unfold chk
 by_cases h1 : (okP p && (decide (1 ≤ o.kind) && decide (o.kind ≤ 9))) = false
 ·rw [if_pos h1]
  exact check_arg o oa c p w h1
 ·rw [if_neg h1]
  have h1' : okP p = true ∧ 1 ≤ o.kind ∧ o.kind ≤ 9 := by simpa using h1
  obtain ⟨hp, hk1, hk2⟩ := h1'
  by_cases h2 : 4 < o.cases.length
  ·rw [if_pos h2]
   exact check_long o oa c p w hp hk1 hk2 h2 hm
  ·rw [if_neg h2]
   refine (check_main o oa c p w hp hk1 hk2 (by omega) hA _ _ _ _ rfl rfl rfl rfl).mono ?_
   rintro r w' ⟨rfl, hb⟩
   refine ⟨?_, hb⟩
   cases x1 : upB o.a (mA o.kind p) && upB o.b (mB o.kind)
   ·simp
   ·rw [if_neg (by simp)]
    by_cases h6 : o.kind = 6
    ·rw [if_neg (fun q => q.1 h6)]
     have : (o.kind == 6) = true := by simpa using h6
     rw [this]
     cases o.cases.all okC <;> simp
    ·have : (o.kind == 6) = false := by simpa using h6
     rw [this]
     cases h4 : (o.def_ || decide (0 < o.cases.length))
     ·rw [if_neg (fun q => by simp at q)]
      cases o.cases.all okC <;> simp
     ·rw [if_pos ⟨h6, rfl⟩]
      simp
end De
end Go.Proofs.YtkkgbeaaekmhfaaGreat
namespace Go.Proofs.YtkkgbeaaekmhfaaGreat
open Go.ChangeShapes Go.WideShapes Go.ChangeAt Go.RowKit
namespace De
open Ba Re
def nf (k : Int) : Nat := if k = 2 ∨ k = 3 then 2 else if k = 1 ∨ k = 4 ∨ k = 5 ∨ k = 7 ∨ k = 8 then 1 else 0
def bt (b : Bool) : Int := bif b then 1 else 0
def cn (x : Cs) : List Int := [bt x.send, x.ch, x.val]
def nums (o : OpD) : List Int := o.kind :: [o.a, o.b].take (nf o.kind) ++ (bif o.kind == 6 then bt o.def_ :: (o.cases.length : Int) :: o.cases.flatMap cn else [])
theorem heap_lt {w : World} {b : Nat} {o : Obj} (h : w.heap[b]? = some o) : b < w.heap.size := by
 rcases Nat.lt_or_ge b w.heap.size with q | q
 ·exact q
 ·rw [Array.getElem?_eq_none q] at h; cases h
theorem own_ne {w : World} {base : Nat} {v : Value} {n g : Nat} {xs : List Value} {c : Array Value} {t : TypeId} {fr : Nat × Nat} (h : w.ownsRow base 3 1 v n xs) (hg : w.heap[g]? = some (.cells c t fr)) (ht : t ≠ 3) : some g ≠ v.ownBlock := by
 intro e
 rcases h.2 with ⟨rfl, _⟩ | ⟨b, cap, cur, rfl, _, hb, _⟩
 ·simp [Value.ownBlock] at e
 ·simp [Value.ownBlock] at e
  subst e
  rw [hg] at hb
  simp at hb
  exact ht hb.2.1
theorem flat_take (l : List Cs) (k : Nat) (x : Cs) (h : l[k]? = some x) : (l.take (k + 1)).flatMap cn = (l.take k).flatMap cn ++ [bt x.send, x.ch, x.val] := by
 rw [List.take_add_one, h, List.flatMap_append]
 simp [cn]
theorem flat_len (l : List Cs) (k : Nat) : ((l.take k).flatMap cn).length ≤ 3 * k := by
 induction k generalizing l with
 | zero => simp
 | succ k ih =>
   cases l with
   | nil => simp
   | cons x t =>
     have := ih t
     simp [cn] at this ⊢
     omega
theorem nf_le (k : Int) : nf k ≤ 2 := by
 unfold nf
 repeat' split
 all_goals omega
theorem src_new (w : World) (xs : List Int) : ∀ j u, (xs.map (Value.int .i64))[j]? = some u → (w.alloc (.cells (row xs) 3)).cell? (Addr.add ⟨w.heap.size, 0, none⟩ j) = some u := by
 intro j u hj
 rw [Addr.add_lit, Nat.zero_add, cell_of (heap_new _ _)]
 simpa [row] using hj
structure NK (w wr : World) (B G : Nat) (k a b : Int) (s : Value) (d : Bool) (v : Value) (xs : List Int) : Prop where
 op : wr.heap[B]? = some (.cells #[.int .i64 k, .int .i64 a, .int .i64 b, s, .bool d] 48 (0, 0))
 pt : wr.heap[G]? = some (.cells #[.pointer (some ⟨B, 1, none⟩), .pointer (some ⟨B, 2, none⟩)] 119 (0, 0))
 own : wr.ownsRow w.heap.size 3 1 v xs.length (xs.map (Value.int .i64))
 bel : Below w.heap.size w wr
theorem NK.below {w wr wr' : World} {B G : Nat} {k a b : Int} {s v : Value} {d : Bool} {xs : List Int} (h : NK w wr B G k a b s d v xs) (hb : Below wr.heap.size wr wr') : NK w wr' B G k a b s d v xs :=
 ⟨heap_below h.op hb, heap_below h.pt hb, owns_below h.own hb, btr h.bel hb⟩
theorem NK.grown {w wr wr' : World} {B G : Nat} {k a b : Int} {s v v' : Value} {d : Bool} {xs xs' : List Int} (h : NK w wr B G k a b s d v xs) (hg : wr.grownBy wr' v.ownBlock) (ho : wr'.ownsRow w.heap.size 3 1 v' xs'.length (xs'.map (Value.int .i64))) : NK w wr' B G k a b s d v' xs' :=
 ⟨(hg.block B (heap_lt h.op) (own_ne h.own h.op (by decide))).trans h.op, (hg.block G (heap_lt h.pt) (own_ne h.own h.pt (by decide))).trans h.pt, ho, h.bel.grown hg h.bel.size (fun x hx => (h.own.lt x hx).1)⟩
end De
end Go.Proofs.YtkkgbeaaekmhfaaGreat
namespace Go.Proofs.YtkkgbeaaekmhfaaGreat
open Go.ChangeShapes Go.WideShapes Go.ChangeAt Go.RowKit
namespace De
open Ba Re
def pls (l : List Int) : List Nat := l.flatMap fun n => spl n.toNat
theorem pls_take (l : List Int) (k : Nat) (h : k < l.length) : pls (l.take (k + 1)) = pls (l.take k) ++ spl (nth l k).toNat := by
 rw [pls, List.take_add_one, List.getElem?_eq_getElem h, nth_lt l k h, List.flatMap_append]
 show _ ++ (spl _ ++ []) = _
 rw [List.append_nil]
 rfl
theorem pls_len (l : List Int) : (pls l).length ≤ 7 * l.length := by
 induction l with
 | nil => simp [pls]
 | cons n l ih =>
   have := (spl_len n.toNat).2
   simp [pls] at ih ⊢
   omega
theorem nums_len (o : OpD) (hl : o.cases.length ≤ 4) : (nums o).length ≤ 100 := by
 have h1 := flat_len o.cases o.cases.length
 rw [List.take_length] at h1
 unfold nums
 rw [List.length_append, List.length_cons, List.length_take]
 cases o.kind == 6
 ·simp only [cond_false, List.length_nil, List.length_cons]
  omega
 ·simp only [cond_true, List.length_nil, List.length_cons]
  omega
theorem upB_iff (n m : Int) : upB n m = true ↔ 0 ≤ n ∧ n ≤ m := by simp [upB]
theorem mA_le (k p : Int) (hp : p ≤ 8) : mA k p ≤ 7 := by
 unfold mA
 repeat' split
 all_goals omega
theorem mB_le (k : Int) : mB k ≤ 99 := by
 unfold mB
 repeat' split
 all_goals omega
theorem chk_zero {o : OpD} {p : Int} (h : chk o p = 0) : (1 ≤ p ∧ p ≤ 8) ∧ (1 ≤ o.kind ∧ o.kind ≤ 9) ∧ o.cases.length ≤ 4 ∧ (0 ≤ o.a ∧ o.a ≤ mA o.kind p) ∧ (0 ≤ o.b ∧ o.b ≤ mB o.kind) ∧ (o.kind = 6 ∨ (o.def_ = false ∧ o.cases = [])) ∧ (∀ x ∈ o.cases, okC x = true) := by
 unfold chk at h
 by_cases h1 : (okP p && (decide (1 ≤ o.kind) && decide (o.kind ≤ 9))) = false
 ·rw [if_pos h1] at h; omega
 ·rw [if_neg h1] at h
  by_cases h2 : 4 < o.cases.length
  ·rw [if_pos h2] at h; omega
  ·rw [if_neg h2] at h
   by_cases h3 : (upB o.a (mA o.kind p) && upB o.b (mB o.kind)) = false
   ·rw [if_pos h3] at h; omega
   ·rw [if_neg h3] at h
    by_cases h4 : o.kind ≠ 6 ∧ (o.def_ || decide (0 < o.cases.length)) = true
    ·rw [if_pos h4] at h; omega
    ·rw [if_neg h4] at h
     cases h5 : o.cases.all okC
     ·rw [h5] at h; simp at h
     ·have q1 : okP p = true ∧ 1 ≤ o.kind ∧ o.kind ≤ 9 := by simpa using h1
      have q3 : upB o.a (mA o.kind p) = true ∧ upB o.b (mB o.kind) = true := by simpa using h3
      refine ⟨(okP_iff p).1 q1.1, q1.2, by omega, (upB_iff _ _).1 q3.1, (upB_iff _ _).1 q3.2, ?_, List.all_eq_true.1 h5⟩
      by_cases e : o.kind = 6
      ·exact .inl e
      ·right
       have : ¬ ((o.def_ || decide (0 < o.cases.length)) = true) := fun q => h4 ⟨e, q⟩
       simpa using this
theorem okC_bd {x : Cs} (h : okC x = true) : (0 ≤ x.ch ∧ x.ch ≤ 7) ∧ 0 ≤ x.val ∧ x.val ≤ 99 := by
 unfold okC at h
 rw [Bool.and_eq_true, upB_iff, upB_iff] at h
 refine ⟨h.1, h.2.1, ?_⟩
 cases hs : x.send
 ·rw [hs] at h; have := h.2.2; simp at this; omega
 ·rw [hs] at h; exact h.2.2
theorem bt_bd (b : Bool) : 0 ≤ bt b ∧ bt b ≤ 1 := by cases b <;> decide
theorem nums_ok {o : OpD} {p : Int} (h : chk o p = 0) : ∀ n ∈ nums o, okR n = true := by
 obtain ⟨hp, hk, hl, ha, hb, _, hc⟩ := chk_zero h
 have h1 := mA_le o.kind p hp.2
 have h2 := mB_le o.kind
 intro n hn
 rw [okR_iff]
 unfold nums at hn
 rw [List.mem_append, List.mem_cons] at hn
 rcases hn with (rfl | hn) | hn
 ·omega
 ·have := List.mem_of_mem_take hn
  simp at this
  rcases this with rfl | rfl <;> omega
 ·cases h6 : o.kind == 6
  ·rw [h6] at hn; simp at hn
  ·rw [h6] at hn
   simp only [cond_true, List.mem_cons, List.mem_flatMap] at hn
   rcases hn with rfl | rfl | ⟨x, hx, hn⟩
   ·have := bt_bd o.def_; omega
   ·omega
   ·have q1 := okC_bd (hc x hx)
    have q2 := bt_bd x.send
    simp [cn] at hn
    rcases hn with rfl | rfl | rfl <;> omega
end De
end Go.Proofs.YtkkgbeaaekmhfaaGreat
