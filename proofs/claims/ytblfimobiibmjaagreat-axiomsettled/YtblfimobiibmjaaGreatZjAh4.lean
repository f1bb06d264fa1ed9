import Derived.Test.YtblfimobiibmjaaGreatZjAh3
import Derived.Deep.DeepCutAuto
import Derived.Deep.RegionLaw
import Derived.Maps.AppendAt
import Derived.OwnWalk
import Derived.Lib.AppendZeros
import Derived.Lib.Slices
namespace Go.Proofs.YtblfimobiibmjaaGreat
open Go.ChangeShapes Go.WideShapes Go.ChangeAt Go.RowKit
namespace Gu
open En Ba
theorem rev_take {l : List Ev} {k : Nat} {x : Ev} (h : l[k]? = some x) : (l.take (k + 1)).reverse = x :: (l.take k).reverse := by
 rw [List.take_add_one, h]; simp
set_option maxRecDepth 100000 in
set_option maxHeartbeats 6400000 in
theorem rserved_any (oa : Option Addr) (l : List Ev) (c i : Nat) (e : Ev) (w : World) (hA : EsAt w oa l) (hi : l[i]? = some e) (hl : l.length ≤ 100000) :
 Calls Tryz.prog 75 #[.slice oa l.length c, .int .i64 i] w fun r w' => r = .returned (.bool (served (l.take i).reverse e)) ∧ Below w.heap.size w w' := by
 have hil : i < l.length := (List.getElem?_eq_some_iff.1 hi).1
 obtain ⟨b1, o1, rfl, -⟩ := hA i e hi
 obtain ⟨p0, p1, p2, p3, p4, p5, p6, p7⟩ := hA.read hi
 obtain ⟨N, hN⟩ : ∃ N, l.length = N := ⟨_, rfl⟩
 rw [hN] at hl hil ⊢
 have HN := hide hN
 clear hN hi
 have h1 : (i : Int) < (N : Int) := by omega
 obtain ⟨res, hres⟩ : ∃ res, served (l.take i).reverse e = res := ⟨_, rfl⟩
 rw [hres]
 have HR := hide hres
 clear hres
 have B0 := hide (below_alloc w (.cells #[.int .i64 e.k, .int .i64 e.g, .int .i64 e.c, .int .i64 e.a, .int .i64 e.v, .int .i64 e.m, .bool e.s, .bool e.o] 50))
 have H0 := hide (heap_new w (.cells #[.int .i64 e.k, .int .i64 e.g, .int .i64 e.c, .int .i64 e.a, .int .i64 e.v, .int .i64 e.m, .bool e.s, .bool e.o] 50))
 have HA := hide (hA.below (below_alloc w (.cells #[.int .i64 e.k, .int .i64 e.g, .int .i64 e.c, .int .i64 e.a, .int .i64 e.v, .int .i64 e.m, .bool e.s, .bool e.o] 50)))
 clear hA
 by_cases hi0 : i = 0
 ·have WK : Hid (wakeF [] e = res) := by show _ = _; rw [← HR.out, hi0]; rfl
  have dk : decide ((0 : Int) < (i : Int)) = false := by simp [hi0]
  have dk' : ¬ ((0 : Int) < (i : Int)) := by omega
  have hsub : (i : Int) - 1 = -1 := by omega
  clear HR hi0 HA H0 B0
  by_cases h7 : e.k = 7
  case neg =>
   have d7 : (e.k != 7) = true := by simp [h7]
   have C : Hid (res = true) := by show _ = _; rw [← WK.out]; unfold wakeF; simp [h7]
   go_enter Tryz.func75, Tryz.ntmps75
   go_wp2_with fail
   go_ret
   exact ⟨ret_bool C.out.symm, below_alloc _ _⟩
  have d7 : (e.k != 7) = false := by simp [h7]
  have C : Hid (res = false) := by show _ = _; rw [← WK.out]; unfold wakeF back; cases e.o <;> cases e.s <;> simp [h7]
  clear WK
  cases ho : e.o
  case true =>
   rw [ho] at p7
   go_enter Tryz.func75, Tryz.ntmps75
   go_wp2_with fail
   go_ret
   exact ⟨ret_bool C.out.symm, below_alloc _ _⟩
  rw [ho] at p7
  cases hs6 : e.s
  case true =>
   rw [hs6] at p6
   go_enter Tryz.func75, Tryz.ntmps75
   go_wp2_with fail
   go_ret
   exact ⟨ret_bool C.out.symm, below_alloc _ _⟩
  rw [hs6] at p6
  go_enter Tryz.func75, Tryz.ntmps75
  go_wp2_with fail
  go_loopw [7] (fun t wr => ∃ z : Int, t = .int .i64 z ∧ z < 0 ∧ Below w.heap.size w wr) (fun _ _ => 0)
  case atStart => exact ⟨_, rfl, by decide, below_alloc _ _⟩
  case round =>
   obtain ⟨z, rfl, hz, hb⟩ := hrel
   have HB := hide hb
   clear hb
   have hz0 : ¬ ((0 : Int) ≤ z) := by omega
   have hz2 : decide ((0 : Int) ≤ z) = false := by simp; omega
   go_wp2_with fail
   go_ret
   exact ⟨ret_bool C.out.symm, HB.out⟩
 ·obtain ⟨j, hj⟩ : ∃ j, i = j + 1 := ⟨i - 1, by omega⟩
  obtain ⟨s, hs⟩ : ∃ s, l[j]? = some s := ⟨_, List.getElem?_eq_getElem (by have := HN.out; omega)⟩
  have RV : Hid ((l.take i).reverse = s :: (l.take j).reverse) := by show _ = _; rw [hj]; exact rev_take hs
  have hsub : (i : Int) - 1 = (j : Int) := by omega
  have hj1 : (j : Int) < (N : Int) := by omega
  have hj2 : (0 : Int) < (i : Int) := by omega
  have SV := hide (fun u => rserves_any s u)
  have RD := hide (HA.out.read hs)
  have HS := hide hs
  unfold evv evc at SV
  have hjN : j < N := by omega
  clear hj hs
  go_enter Tryz.func75, Tryz.ntmps75
  obtain ⟨r0, r1, r2, r3, r4, r5, r6, r7⟩ := RD.out
  go_wp2_with fail
  clear RD r0 r1 r2 r3 r4 r5 r6 r7 p0 p1 p2 p3 p4 p5 p6 p7
  generalize w.alloc (.cells #[.int .i64 e.k, .int .i64 e.g, .int .i64 e.c, .int .i64 e.a, .int .i64 e.v, .int .i64 e.m, .bool e.s, .bool e.o] 50) = W at H0 B0 HA ⊢
  generalize w.heap.size = E at H0 ⊢
  refine (SV.out _).mono ?_
  rintro r w1 ⟨rfl, b2⟩
  have B1 := hide (btr B0.out b2)
  have HE1 := hide (heap_below H0.out b2)
  have HA1 := hide (HA.out.below b2)
  clear b2 SV H0 HA B0
  have q0 : w1.cell? ⟨E, 0, none⟩ = some (.int .i64 e.k) := cell_of HE1.out 0
  have q1 : w1.cell? ⟨E, 1, none⟩ = some (.int .i64 e.g) := cell_of HE1.out 1
  have q2 : w1.cell? ⟨E, 2, none⟩ = some (.int .i64 e.c) := cell_of HE1.out 2
  have q4 : w1.cell? ⟨E, 4, none⟩ = some (.int .i64 e.v) := cell_of HE1.out 4
  have q3 : w1.cell? ⟨E, 3, none⟩ = some (.int .i64 e.a) := cell_of HE1.out 3
  have q5 : w1.cell? ⟨E, 5, none⟩ = some (.int .i64 e.m) := cell_of HE1.out 5
  have q6 : w1.cell? ⟨E, 6, none⟩ = some (.bool e.s) := cell_of HE1.out 6
  have q7 : w1.cell? ⟨E, 7, none⟩ = some (.bool e.o) := cell_of HE1.out 7
  have hE : E < w1.heap.size := Ba.heap_lt HE1.out
  have hE' : E ≠ w1.heap.size := by omega
  cases hsv : serves s
  ·have WK : Hid (wakeF (l.take i).reverse e = res) := by show _ = _; rw [← HR.out, RV.out]; simp [served, hsv]
   clear HR RV HS hsv
   by_cases h7 : e.k = 7
   case neg =>
    have d7 : (e.k != 7) = true := by simp [h7]
    have C : Hid (res = true) := by show _ = _; rw [← WK.out]; unfold wakeF; first | rfl | (simp; done) | (simp [h7]; done)
    go_wp2_with fail
    go_ret
    exact ⟨ret_bool C.out.symm, B1.out⟩
   have d7 : (e.k != 7) = false := by simp [h7]
   cases ho : e.o
   case true =>
    rw [ho] at q7
    have C : Hid (res = false) := by show _ = _; rw [← WK.out]; unfold wakeF; first | rfl | (simp; done) | (simp [h7]; done) | (simp [ho]; done) | (simp [h7, ho]; done)
    go_wp2_with fail
    go_ret
    exact ⟨ret_bool C.out.symm, B1.out⟩
   rw [ho] at q7
   cases hs6 : e.s
   case true =>
    rw [hs6] at q6
    have C : Hid (res = false) := by show _ = _; rw [← WK.out]; unfold wakeF; first | rfl | (simp; done) | (simp [h7]; done) | (simp [ho]; done) | (simp [hs6]; done) | (simp [h7, ho]; done) | (simp [h7, hs6]; done) | (simp [ho, hs6]; done) | (simp [h7, ho, hs6]; done)
    go_wp2_with fail
    go_ret
    exact ⟨ret_bool C.out.symm, B1.out⟩
   rw [hs6] at q6
   have BK : Hid (back e (l.take i).reverse = res) := by show _ = _; rw [← WK.out]; unfold wakeF; simp [h7, ho, hs6]
   clear WK
   go_wp2_with fail
   clear q0 q1 q2 q3 q4 q5 q6 q7 hE hE'
   go_loopw [7] (fun t wr => ∃ (k : Nat) (z : Int), k ≤ i ∧ t = .int .i64 z ∧ z = (k : Int) - 1 ∧ back e (l.take k).reverse = res ∧ Below w1.heap.size w1 wr) (fun t _ => ((intOf t) + 1).toNat)
   case atStart => exact ⟨i, _, Nat.le_refl _, rfl, by omega, BK.out, Below.refl _ _⟩
   case round =>
    obtain ⟨k, z, hk, rfl, hz, hbk, hb⟩ := hrel
    have HB := hide hb
    have HE := hide (heap_below HE1.out hb)
    have HK := hide hbk
    clear hb hbk BK
    have q2 : wr.cell? ⟨E, 2, none⟩ = some (.int .i64 e.c) := cell_of HE.out 2
    have q5 : wr.cell? ⟨E, 5, none⟩ = some (.int .i64 e.m) := cell_of HE.out 5
    have hE : E < wr.heap.size := Ba.heap_lt HE.out
    have hE' : E ≠ wr.heap.size := by omega
    cases k with
    | zero =>
      have hz0 : ¬ ((0 : Int) ≤ z) := by simp at hz; omega
      have hz2 : decide ((0 : Int) ≤ z) = false := by simp; omega
      clear hz
      have C : Hid (res = false) := by show _ = _; rw [← HK.out]; rfl
      go_wp2_with fail
      go_ret
      exact ⟨ret_bool C.out.symm, btr B1.out HB.out⟩
    | succ k' =>
      have hz1 : z = (k' : Int) := by omega
      subst hz1
      clear hz
      obtain ⟨x, hx⟩ : ∃ x, l[k']? = some x := ⟨_, List.getElem?_eq_getElem (by have := HN.out; omega)⟩
      obtain ⟨p0, p1, p2, p3, p4, p5, p6, p7⟩ := (HA1.out.below HB.out).read hx
      have hge : (0 : Int) ≤ (k' : Int) := by omega
      have hkN : (k' : Int) < (N : Int) := by omega
      have K1 : Hid (back e (x :: (l.take k').reverse) = res) := by show _ = _; rw [← rev_take hx]; exact HK.out
      unfold back at K1
      clear hx HK
      obtain ⟨xk, xg, xc, xa, xv, xm, xs, xo⟩ := x
      simp only at p0 p1 p2 p3 p4 p5 p6 p7 K1
      by_cases h5 : xk = 5
      ·subst h5
       by_cases hg : xg = e.m
       ·have dg : (xg == e.m) = true := by simp [hg]
        by_cases hc : xc = e.c
        ·have dc : (xc == e.c) = true := by simp [hc]
         have C : Hid (res = true) := by show _ = _; rw [← K1.out]; first | rfl | (simp; done) | (simp [hg]; done) | (simp [hc]; done) | (simp [hg, hc]; done)
         go_wp2_with fail
         go_ret
         exact ⟨ret_bool C.out.symm, btr B1.out (btr HB.out (below_alloc _ _))⟩
        ·have dc : (xc == e.c) = false := by simp [hc]
         have C : Hid (res = false) := by show _ = _; rw [← K1.out]; first | rfl | (simp; done) | (simp [hg]; done) | (simp [hc]; done) | (simp [hg, hc]; done)
         go_wp2_with fail
         go_ret
         exact ⟨ret_bool C.out.symm, btr B1.out (btr HB.out (below_alloc _ _))⟩
       ·have dg : (xg == e.m) = false := by simp [hg]
        have C : Hid (res = false) := by show _ = _; rw [← K1.out]; first | rfl | (simp; done) | (simp [hg]; done)
        go_wp2_with fail
        go_ret
        exact ⟨ret_bool C.out.symm, btr B1.out (btr HB.out (below_alloc _ _))⟩
      have d5 : (xk == 5) = false := by simp [h5]
      by_cases hx7 : xk = 7
      case neg =>
       have dx7 : (xk != 7) = true := by simp [hx7]
       have C : Hid (res = false) := by show _ = _; rw [← K1.out]; first | rfl | (simp; done) | (simp [h5]; done) | (simp [hx7]; done) | (simp [h5, hx7]; done)
       go_wp2_with fail
       go_ret
       exact ⟨ret_bool C.out.symm, btr B1.out (btr HB.out (below_alloc _ _))⟩
      subst hx7
      by_cases hk0 : k' = 0
      ·have dk : decide ((0 : Int) < (k' : Int)) = false := by simp [hk0]
       have dk' : ¬ ((0 : Int) < (k' : Int)) := by omega
       have K2 : Hid (back e (l.take k').reverse = res) := by show _ = _; rw [← K1.out, hk0]; simp
       clear K1 hk0
       go_wp2_with fail
       go_roundw
       case rel => exact ⟨k', _, by omega, rfl, by omega, K2.out, btr HB.out (below_alloc _ _)⟩
       case measure => first | (simp [intOf]; done) | (simp [intOf]; omega)
      ·obtain ⟨m, hm⟩ : ∃ m, k' = m + 1 := ⟨k' - 1, by omega⟩
       obtain ⟨y, hy⟩ : ∃ y, l[m]? = some y := ⟨_, List.getElem?_eq_getElem (by have := HN.out; omega)⟩
       obtain ⟨y0, y1, y2, y3, y4, y5, y6, y7⟩ := (HA1.out.below HB.out).read hy
       have hmb : b1 < wr.heap.size := World.block_lt_of_cell? wr _ y0
       have hmb' : b1 ≠ wr.heap.size := by omega
       have SY := hide (fun u => rserves_any y u)
       have K2 : Hid ((if serves y = true then false else back e (l.take k').reverse) = res) := by
        show _ = _
        rw [← K1.out]
        rw [hm, rev_take hy]
        cases hq : serves y <;> simp [hq]
       unfold evv evc at SY
       have hms : (k' : Int) - 1 = (m : Int) := by omega
       have hmN : (m : Int) < (N : Int) := by omega
       have hk1 : (0 : Int) < (k' : Int) := by omega
       clear hm hy K1
       go_wp2_with fail
       refine (SY.out _).mono ?_
       rintro r w2 ⟨rfl, b2⟩
       have B2 := hide (btr HB.out (btr (below_alloc _ _) b2))
       clear b2
       cases hsy : serves y
       ·have K3 : Hid (back e (l.take k').reverse = res) := by show _ = _; rw [← K2.out, hsy]; rfl
        go_wp2_with fail
        go_roundw
        case rel => exact ⟨k', _, by omega, rfl, by omega, K3.out, B2.out⟩
        case measure => first | (simp [intOf]; done) | (simp [intOf]; omega)
       ·have C : Hid (res = false) := by show _ = _; rw [← K2.out, hsy]; rfl
        go_wp2_with fail
        go_ret
        exact ⟨ret_bool C.out.symm, btr B1.out B2.out⟩
  ·have SF : Hid (servF s e = res) := by show _ = _; rw [← HR.out, RV.out]; simp [served, hsv]
   clear HR RV hsv
   obtain ⟨y0, y1, y2, y3, y4, y5, y6, y7⟩ := HA1.out.read HS.out
   clear HS
   unfold servF at SF
   obtain ⟨sk, sg, sc, sa, sv, sm, ss, so⟩ := s
   simp only at y0 y1 y2 y3 y4 y5 y6 y7 SF
   have KB := hide (btr B1.out (below_alloc w1 (.cells #[.int .i64 sk, .int .i64 sg, .int .i64 sc, .int .i64 sa, .int .i64 sv, .int .i64 sm, .bool ss, .bool so] 50)))
   by_cases c7 : e.k = 7
   case neg =>
    have dc7 : (e.k == 7) = false := by simp [c7]
    have C : Hid (res = false) := by show _ = _; rw [← SF.out]; first | rfl | (simp; done) | (simp [c7]; done)
    go_wp2_with fail
    go_ret
    exact ⟨ret_bool C.out.symm, KB.out⟩
   have dc7 : (e.k == 7) = true := by simp [c7]
   by_cases cg : e.g = sm
   case neg =>
    have dcg : (e.g == sm) = false := by simp [cg]
    have C : Hid (res = false) := by show _ = _; rw [← SF.out]; first | rfl | (simp; done) | (simp [cg]; done)
    go_wp2_with fail
    go_ret
    exact ⟨ret_bool C.out.symm, KB.out⟩
   have dcg : (e.g == sm) = true := by simp [cg]
   by_cases cm : e.m = sg
   case neg =>
    have dcm : (e.m == sg) = false := by simp [cm]
    have C : Hid (res = false) := by show _ = _; rw [← SF.out]; first | rfl | (simp; done) | (simp [cm]; done)
    go_wp2_with fail
    go_ret
    exact ⟨ret_bool C.out.symm, KB.out⟩
   have dcm : (e.m == sg) = true := by simp [cm]
   by_cases cc : e.c = sc
   case neg =>
    have dcc : (e.c == sc) = false := by simp [cc]
    have C : Hid (res = false) := by show _ = _; rw [← SF.out]; first | rfl | (simp; done) | (simp [cc]; done)
    go_wp2_with fail
    go_ret
    exact ⟨ret_bool C.out.symm, KB.out⟩
   have dcc : (e.c == sc) = true := by simp [cc]
   cases hes : e.s <;> cases ss
   ·rw [hes] at q6
    have C : Hid (res = false) := by show _ = _; rw [← SF.out]; first | rfl | (simp; done) | (simp [hes]; done)
    go_wp2_with fail
    go_ret
    exact ⟨ret_bool C.out.symm, KB.out⟩
   ·rw [hes] at q6
    cases ho : e.o
    ·rw [ho] at q7
     have C : Hid (res = false) := by show _ = _; rw [← SF.out]; first | rfl | (simp; done) | (simp [ho]; done)
     go_wp2_with fail
     go_ret
     exact ⟨ret_bool C.out.symm, KB.out⟩
    ·rw [ho] at q7
     by_cases cv : e.v = sv
     ·have dv : (e.v == sv) = true := by simp [cv]
      have C : Hid (res = true) := by show _ = _; rw [← SF.out]; first | rfl | (simp; done) | (simp [hes]; done) | (simp [ho]; done) | (simp [c7]; done) | (simp [cg]; done) | (simp [cm]; done) | (simp [cc]; done) | (simp [cv]; done) | (simp [hes, ho]; done) | (simp [hes, c7]; done) | (simp [hes, cg]; done) | (simp [hes, cm]; done) | (simp [hes, cc]; done) | (simp [hes, cv]; done) | (simp [ho, c7]; done) | (simp [ho, cg]; done) | (simp [ho, cm]; done) | (simp [ho, cc]; done) | (simp [ho, cv]; done) | (simp [c7, cg]; done) | (simp [c7, cm]; done) | (simp [c7, cc]; done) | (simp [c7, cv]; done) | (simp [cg, cm]; done) | (simp [cg, cc]; done) | (simp [cg, cv]; done) | (simp [cm, cc]; done) | (simp [cm, cv]; done) | (simp [cc, cv]; done) | (simp [hes, ho, c7]; done) | (simp [hes, ho, cg]; done) | (simp [hes, ho, cm]; done) | (simp [hes, ho, cc]; done) | (simp [hes, ho, cv]; done) | (simp [hes, c7, cg]; done) | (simp [hes, c7, cm]; done) | (simp [hes, c7, cc]; done) | (simp [hes, c7, cv]; done) | (simp [hes, cg, cm]; done) | (simp [hes, cg, cc]; done) | (simp [hes, cg, cv]; done) | (simp [hes, cm, cc]; done) | (simp [hes, cm, cv]; done) | (simp [hes, cc, cv]; done) | (simp [ho, c7, cg]; done) | (simp [ho, c7, cm]; done) | (simp [ho, c7, cc]; done) | (simp [ho, c7, cv]; done) | (simp [ho, cg, cm]; done) | (simp [ho, cg, cc]; done) | (simp [ho, cg, cv]; done) | (simp [ho, cm, cc]; done) | (simp [ho, cm, cv]; done) | (simp [ho, cc, cv]; done) | (simp [c7, cg, cm]; done) | (simp [c7, cg, cc]; done) | (simp [c7, cg, cv]; done) | (simp [c7, cm, cc]; done) | (simp [c7, cm, cv]; done) | (simp [c7, cc, cv]; done) | (simp [cg, cm, cc]; done) | (simp [cg, cm, cv]; done) | (simp [cg, cc, cv]; done) | (simp [cm, cc, cv]; done) | (simp [hes, ho, c7, cg]; done) | (simp [hes, ho, c7, cm]; done) | (simp [hes, ho, c7, cc]; done) | (simp [hes, ho, c7, cv]; done) | (simp [hes, ho, cg, cm]; done) | (simp [hes, ho, cg, cc]; done) | (simp [hes, ho, cg, cv]; done) | (simp [hes, ho, cm, cc]; done) | (simp [hes, ho, cm, cv]; done) | (simp [hes, ho, cc, cv]; done) | (simp [hes, c7, cg, cm]; done) | (simp [hes, c7, cg, cc]; done) | (simp [hes, c7, cg, cv]; done) | (simp [hes, c7, cm, cc]; done) | (simp [hes, c7, cm, cv]; done) | (simp [hes, c7, cc, cv]; done) | (simp [hes, cg, cm, cc]; done) | (simp [hes, cg, cm, cv]; done) | (simp [hes, cg, cc, cv]; done) | (simp [hes, cm, cc, cv]; done) | (simp [ho, c7, cg, cm]; done) | (simp [ho, c7, cg, cc]; done) | (simp [ho, c7, cg, cv]; done) | (simp [ho, c7, cm, cc]; done) | (simp [ho, c7, cm, cv]; done) | (simp [ho, c7, cc, cv]; done) | (simp [ho, cg, cm, cc]; done) | (simp [ho, cg, cm, cv]; done) | (simp [ho, cg, cc, cv]; done) | (simp [ho, cm, cc, cv]; done) | (simp [c7, cg, cm, cc]; done) | (simp [c7, cg, cm, cv]; done) | (simp [c7, cg, cc, cv]; done) | (simp [c7, cm, cc, cv]; done) | (simp [cg, cm, cc, cv]; done) | (simp [hes, ho, c7, cg, cm]; done) | (simp [hes, ho, c7, cg, cc]; done) | (simp [hes, ho, c7, cg, cv]; done) | (simp [hes, ho, c7, cm, cc]; done) | (simp [hes, ho, c7, cm, cv]; done) | (simp [hes, ho, c7, cc, cv]; done) | (simp [hes, ho, cg, cm, cc]; done) | (simp [hes, ho, cg, cm, cv]; done) | (simp [hes, ho, cg, cc, cv]; done) | (simp [hes, ho, cm, cc, cv]; done) | (simp [hes, c7, cg, cm, cc]; done) | (simp [hes, c7, cg, cm, cv]; done) | (simp [hes, c7, cg, cc, cv]; done) | (simp [hes, c7, cm, cc, cv]; done) | (simp [hes, cg, cm, cc, cv]; done) | (simp [ho, c7, cg, cm, cc]; done) | (simp [ho, c7, cg, cm, cv]; done) | (simp [ho, c7, cg, cc, cv]; done) | (simp [ho, c7, cm, cc, cv]; done) | (simp [ho, cg, cm, cc, cv]; done) | (simp [c7, cg, cm, cc, cv]; done) | (simp [hes, ho, c7, cg, cm, cc]; done) | (simp [hes, ho, c7, cg, cm, cv]; done) | (simp [hes, ho, c7, cg, cc, cv]; done) | (simp [hes, ho, c7, cm, cc, cv]; done) | (simp [hes, ho, cg, cm, cc, cv]; done) | (simp [hes, c7, cg, cm, cc, cv]; done) | (simp [ho, c7, cg, cm, cc, cv]; done) | (simp [hes, ho, c7, cg, cm, cc, cv]; done)
      go_wp2_with fail
      go_ret
      exact ⟨ret_bool C.out.symm, KB.out⟩
     ·have dv : (e.v == sv) = false := by simp [cv]
      have C : Hid (res = false) := by show _ = _; rw [← SF.out]; first | rfl | (simp; done) | (simp [cv]; done)
      go_wp2_with fail
      go_ret
      exact ⟨ret_bool C.out.symm, KB.out⟩
   ·rw [hes] at q6
    cases ho : e.o
    ·rw [ho] at q7
     have C : Hid (res = false) := by show _ = _; rw [← SF.out]; first | rfl | (simp; done) | (simp [ho]; done)
     go_wp2_with fail
     go_ret
     exact ⟨ret_bool C.out.symm, KB.out⟩
    ·rw [ho] at q7
     have C : Hid (res = true) := by show _ = _; rw [← SF.out]; first | rfl | (simp; done) | (simp [hes]; done) | (simp [ho]; done) | (simp [c7]; done) | (simp [cg]; done) | (simp [cm]; done) | (simp [cc]; done) | (simp [hes, ho]; done) | (simp [hes, c7]; done) | (simp [hes, cg]; done) | (simp [hes, cm]; done) | (simp [hes, cc]; done) | (simp [ho, c7]; done) | (simp [ho, cg]; done) | (simp [ho, cm]; done) | (simp [ho, cc]; done) | (simp [c7, cg]; done) | (simp [c7, cm]; done) | (simp [c7, cc]; done) | (simp [cg, cm]; done) | (simp [cg, cc]; done) | (simp [cm, cc]; done) | (simp [hes, ho, c7]; done) | (simp [hes, ho, cg]; done) | (simp [hes, ho, cm]; done) | (simp [hes, ho, cc]; done) | (simp [hes, c7, cg]; done) | (simp [hes, c7, cm]; done) | (simp [hes, c7, cc]; done) | (simp [hes, cg, cm]; done) | (simp [hes, cg, cc]; done) | (simp [hes, cm, cc]; done) | (simp [ho, c7, cg]; done) | (simp [ho, c7, cm]; done) | (simp [ho, c7, cc]; done) | (simp [ho, cg, cm]; done) | (simp [ho, cg, cc]; done) | (simp [ho, cm, cc]; done) | (simp [c7, cg, cm]; done) | (simp [c7, cg, cc]; done) | (simp [c7, cm, cc]; done) | (simp [cg, cm, cc]; done) | (simp [hes, ho, c7, cg]; done) | (simp [hes, ho, c7, cm]; done) | (simp [hes, ho, c7, cc]; done) | (simp [hes, ho, cg, cm]; done) | (simp [hes, ho, cg, cc]; done) | (simp [hes, ho, cm, cc]; done) | (simp [hes, c7, cg, cm]; done) | (simp [hes, c7, cg, cc]; done) | (simp [hes, c7, cm, cc]; done) | (simp [hes, cg, cm, cc]; done) | (simp [ho, c7, cg, cm]; done) | (simp [ho, c7, cg, cc]; done) | (simp [ho, c7, cm, cc]; done) | (simp [ho, cg, cm, cc]; done) | (simp [c7, cg, cm, cc]; done) | (simp [hes, ho, c7, cg, cm]; done) | (simp [hes, ho, c7, cg, cc]; done) | (simp [hes, ho, c7, cm, cc]; done) | (simp [hes, ho, cg, cm, cc]; done) | (simp [hes, c7, cg, cm, cc]; done) | (simp [ho, c7, cg, cm, cc]; done) | (simp [hes, ho, c7, cg, cm, cc]; done)
     go_wp2_with fail
     go_ret
     exact ⟨ret_bool C.out.symm, KB.out⟩
   ·rw [hes] at q6
    have C : Hid (res = false) := by show _ = _; rw [← SF.out]; first | rfl | (simp; done) | (simp [hes]; done)
    go_wp2_with fail
    go_ret
    exact ⟨ret_bool C.out.symm, KB.out⟩
end Gu
end Go.Proofs.YtblfimobiibmjaaGreat
namespace Go.Proofs.YtblfimobiibmjaaGreat
open Go.ChangeShapes Go.WideShapes Go.ChangeAt Go.RowKit
namespace Gu
open En Ba
def ic (l : List Int) : List Value := l.map (Value.int .i64)
theorem ic_app (l m : List Int) : ic (l ++ m) = ic l ++ ic m := by simp [ic]
theorem ic_one (l : List Int) : ∀ u ∈ ic l, u.oneCell' = true := by
 intro u hu
 obtain ⟨b, -, rfl⟩ := List.mem_map.1 hu
 rfl
theorem ic_len (l : List Int) : (ic l).length = l.length := by simp [ic]
theorem info_int : (Tryz.prog.info? 3).map (fun i => (i.zero, i.size, i.bytes)) = some (some (.int .i64 0), 1, 8) := by kernel_rfl
theorem size_ins : (Tryz.prog.info? 187).map (·.size) = some 4 := by kernel_rfl
theorem loadVar_ins {w : World} {b : Nat} {c : Array Value} {t : TypeId} (h : w.heap[b]? = some (.cells c t (0, 0))) (hc : c.size = 4) : (loadVar 187 ⟨b, 0, none⟩).run Tryz.prog w = .ok (.agg c) w :=
 run_loadVar_row w b t _ _ _ _ h Tryz.underlying187 rfl (by rw [size_ins, hc])
theorem own_sl {w : World} {base : Nat} {e : TypeId} {size n : Nat} {v : Value} {xs : List Value} (h : w.ownsRow base e size v n xs) : ∃ oa c, v = .slice oa n c := by
 rcases h.2 with ⟨rfl, rfl⟩ | ⟨g, cap, cr, rfl, -⟩
 ·exact ⟨none, 0, rfl⟩
 ·exact ⟨_, _, rfl⟩
theorem own_kb {w w' : World} {P base size : Nat} {e : TypeId} {v : Value} {n : Nat} {xs : List Value} (h : w.ownsRow base e size v n xs) (k : KB P w w') (hn : v.ownBlock ≠ some P) : w'.ownsRow base e size v n xs := by
 refine ⟨h.1, ?_⟩
 rcases h.2 with q | ⟨g, cap, cur, q1, q2, q3, q4⟩
 ·exact .inl q
 ·refine .inr ⟨g, cap, cur, q1, q2, k.heap q3 ?_, q4⟩
  subst q1; intro e; subst e; exact hn rfl
theorem below_set {w u : World} {n b i : Nat} {v : Value} (h : Below n w u) (hb : n ≤ b) : Below n w (u.setCell ⟨b, i, none⟩ v) := by
 refine ⟨h.os, h.tape, h.output, ?_, fun k hk => ?_⟩
 ·have : (u.setCell ⟨b, i, none⟩ v).heap.size = u.heap.size := by simp [World.setCell]
  rw [this]; exact h.size
 ·rw [← h.block k hk]
  exact Below.heap_setCell _ _ _ _ (by show k ≠ b; omega)
theorem step_append_run {ops : Array Oper} (w : World) {o : Oper} {a : Act} {K : Act → World → Prop} {Q : Exit → Act → World → Prop} {E : Prop} (hgd : o.guard = none) (s x : Operand) (t tn : TypeId)
 (ho : o.op = .call { callee := .builtin .append, args := #[s, x], argTypes := #[t, tn] }) (vs vx : Value) (hs : a.eval s = vs) (hx : a.eval x = vx)
 (v' : Value) (w' : World) (hr : (Builtin.append_ #[t, tn] o.type #[vs, vx]).run Tryz.prog w = .ok v' w') (h : K (a.put o.dst v') w') :
 if Region.wanted o (yielded ops a.tmps) = true then Oper.wp Tryz.prog o a w K Q else E := by
 have hw : Region.wanted o (yielded ops a.tmps) = true := by simp [Region.wanted, hgd]
 rw [if_pos hw]
 exact Lib.wp_append_run w s x t tn ho vs vx hs hx v' w' hr h
section
variable {ops : Array Oper} {rest : List Oper} {o : Oper} {a : Act} {w : World} {Q : Exit → Act → World → Prop}
theorem wpL_app (hgd : o.guard = none) (s x : Operand) (t tn : TypeId)
 (ho : o.op = .call { callee := .builtin .append, args := #[s, x], argTypes := #[t, tn] }) (vs vx : Value) (hs : a.eval s = vs) (hx : a.eval x = vx)
 (v' : Value) (w' : World) (hr : (Builtin.append_ #[t, tn] o.type #[vs, vx]).run Tryz.prog w = .ok v' w') (h : wpList Tryz.prog ops Q rest (a.put o.dst v') w') : wpList Tryz.prog ops Q (o :: rest) a w :=
 wpList_plain hgd fun _ hK => Lib.wp_append_run w s x t tn ho vs vx hs hx v' w' hr (hK _ _ h)
end
structure IB (w : World) (N : Nat) (v : Value) (sz : Int) (L : List Int) (cl rt : Bool) : Prop where
 hr : w.heap[N]? = some (.cells #[.int .i64 0, .slice none 0 0, .bool false, .bool false] 187 (0, 0))
 hs : w.heap[N + 1]? = some (.cells #[.int .i64 sz, v, .bool cl, .bool rt] 187 (0, 0))
 ow : w.ownsRow N 3 1 v L.length (ic L)
section
variable {w w' : World} {N : Nat} {v : Value} {sz : Int} {L : List Int} {cl rt : Bool}
theorem own_ib {P : Nat} {c : Array Value} {n : Nat} {xs : List Value} (h : w.ownsRow N 3 1 v n xs) (p : w.heap[P]? = some (.cells c 187 (0, 0))) : v.ownBlock ≠ some P := by
 rcases h.2 with ⟨rfl, -⟩ | ⟨g, cap, cur, rfl, -, q3, -⟩
 ·intro e; cases e
 ·intro e; cases e; rw [q3] at p; cases p
theorem IB.below (h : IB w N v sz L cl rt) (b : Below w.heap.size w w') : IB w' N v sz L cl rt := ⟨heap_below h.hr b, heap_below h.hs b, own_below h.ow b⟩
theorem IB.set (h : IB w N v sz L cl rt) (i : Nat) (x : Value) {sz' : Int} {cl' rt' : Bool} (e : #[Value.int .i64 sz, v, .bool cl, .bool rt].setIfInBounds i x = #[.int .i64 sz', v, .bool cl', .bool rt']) : IB (w.setCell ⟨N + 1, i, none⟩ x) N v sz' L cl' rt' := by
 have K := (KB.refl (N + 1) w).setCell i x
 exact ⟨K.heap h.hr (by omega), by rw [← e]; exact Ba.heap_setCell_same h.hs _, own_kb h.ow K (own_ib h.ow h.hs)⟩
theorem IB.row (h : IB w N v sz L cl rt) {row : Option Nat} (hg : w.grownBy w' row) (hrow : ∀ k, row = some k → k ≠ N ∧ k ≠ N + 1) {v' : Value} {L' : List Int} (ho : w'.ownsRow N 3 1 v' L'.length (ic L')) : IB (w'.setCell ⟨N + 1, 1, none⟩ v') N v' sz L' cl rt := by
 have a1 : w'.heap[N]? = _ := (hg.block _ (heap_lt h.hr) (fun e => (hrow _ e.symm).1 rfl)).trans h.hr
 have a2 : w'.heap[N + 1]? = _ := (hg.block _ (heap_lt h.hs) (fun e => (hrow _ e.symm).2 rfl)).trans h.hs
 have K := (KB.refl (N + 1) w').setCell 1 v'
 exact ⟨K.heap a1 (by omega), Ba.heap_setCell_same a2 _, own_kb ho K (own_ib ho a2)⟩
theorem IB.app (h : IB w N v sz L cl rt) (hl : L.length ≤ 4000) (x : Int) :
 ∃ oa c w', (Builtin.append_ #[67, 67] 67 #[v, .slice (some ⟨w.heap.size, 0, none⟩) 1 1]).run Tryz.prog (w.alloc (.cells #[.int .i64 x] 3)) = .ok (.slice oa (L.length + 1) c) w' ∧ IB (w'.setCell ⟨N + 1, 1, none⟩ (.slice oa (L.length + 1) c)) N (.slice oa (L.length + 1) c) sz (L ++ [x]) cl rt ∧ w'.cell? ⟨N + 1, 1, none⟩ = some v ∧ w'.frozen? ⟨N + 1, 1, none⟩ = false ∧ Below N w w' ∧ (∀ (b : Nat) (d : Array Value) (t : TypeId), w.heap[b]? = some (.cells d t (0, 0)) → t ≠ 3 → w'.heap[b]? = some (.cells d t (0, 0))) := by
 obtain ⟨i0, hi, hz0, hz1, hz2⟩ := info_parts info_int
 have h1 := h.below (below_alloc w (.cells #[.int .i64 x] 3))
 have hN : N ≤ w.heap.size := Nat.le_of_lt (heap_lt h.hr)
 obtain ⟨v', w', hr, ho, hg1, -, -⟩ := run_append_own_at (P := Tryz.prog) (w.alloc (.cells #[.int .i64 x] 3)) N 67 67 3 i0 (.int .i64 0) 1 8 Tryz.underlying67 hi hz0 hz1 hz2 rfl (by decide) v L.length (ic L) h1.ow ⟨w.heap.size, 0, none⟩ 1 1 [.int .i64 x] rfl (cell_one_new w _ _) (ic_one [x]) (by unfold maxLen; omega) (by omega) (by rw [World.size_alloc]; omega)
 obtain ⟨oa, c, rfl⟩ := own_sl ho
 have a2 : w'.heap[N + 1]? = some (.cells #[.int .i64 sz, v, .bool cl, .bool rt] 187 (0, 0)) := (hg1.block _ (heap_lt h1.hs) (fun e => own_ib h1.ow h1.hs e.symm)).trans h1.hs
 refine ⟨oa, c, w', hr, h1.row hg1 (fun k hk => ⟨fun e => own_ib h1.ow h1.hr (by rw [hk, e]), fun e => own_ib h1.ow h1.hs (by rw [hk, e])⟩) (L' := L ++ [x]) (by rw [ic_app, List.length_append]; exact ho), cell_of a2 1, frozen_of a2 1, ?_, fun b d t hb ht => ?_⟩
 rotate_left
 ·have hb1 := heap_below hb (below_alloc w (.cells #[.int .i64 x] 3))
  exact (hg1.block b (heap_lt hb1) (Ba.own_ty h1.ow hb1 ht)).trans hb1
 exact ((below_alloc w (.cells #[.int .i64 x] 3)).mono hN).grown hg1 (by rw [World.size_alloc]; omega) (fun y hy => (h1.ow.lt y hy).1)
theorem IB.tail {y : Int} {r : List Int} {g cap : Nat} (h : IB w N (.slice (some ⟨g, 0, none⟩) (r.length + 1) cap) sz (y :: r) cl rt) (hl : r.length ≤ 4000) (o m c : Nat) (hm : m = r.length) (ho : r ≠ [] → o = 1) :
 ∃ oa c' w', (Builtin.append_ #[67, 67] 67 #[.slice none 0 0, .slice (some ⟨g, o, none⟩) m c]).run Tryz.prog w = .ok (.slice oa r.length c') w' ∧ IB (w'.setCell ⟨N + 1, 1, none⟩ (.slice oa r.length c')) N (.slice oa r.length c') sz r cl rt ∧ w'.cell? ⟨N + 1, 1, none⟩ = some (.slice (some ⟨g, 0, none⟩) (r.length + 1) cap) ∧ w'.frozen? ⟨N + 1, 1, none⟩ = false ∧ Below N w w' ∧ (∀ (b : Nat) (o : Obj), w.heap[b]? = some o → w'.heap[b]? = some o) := by
 subst hm
 obtain ⟨i0, hi, hz0, hz1, hz2⟩ := info_parts info_int
 have hN : N ≤ w.heap.size := Nat.le_of_lt (heap_lt h.hr)
 have hsrc : ∀ j u, (ic r)[j]? = some u → w.cell? ((⟨g, o, none⟩ : Addr).add j) = some u := by
  intro j u hj
  have hne : r ≠ [] := by rintro rfl; simp [ic] at hj
  have ho1 := ho hne
  subst ho1
  rcases h.ow.2 with ⟨e, -⟩ | ⟨g', cap', cur, e, -, hg, h1, -, -, h3⟩
  ·cases e
  ·cases e
   rw [Addr.add_lit, cell_of hg]
   have e1 : (ic (y :: r))[1 + j]? = some u := by rw [Nat.add_comm]; exact hj
   have hjl : j < r.length := by have := (List.getElem?_eq_some_iff.1 hj).1; rwa [ic_len] at this
   rw [← h3, List.getElem?_take, if_pos (by simp; omega)] at e1
   simpa using e1
 obtain ⟨v', w', hr, ho, hg1, -, -⟩ := run_append_own_at (P := Tryz.prog) w N 67 67 3 i0 (.int .i64 0) 1 8 Tryz.underlying67 hi hz0 hz1 hz2 rfl (by decide) (.slice none 0 0) 0 [] (World.ownsRow_nil _ _ _ _) ⟨g, o, none⟩ r.length c (ic r) (by rw [ic_len, Nat.mul_one]) hsrc (ic_one r) (by unfold maxLen; omega) (by omega) hN
 rw [Nat.zero_add, List.nil_append] at ho
 obtain ⟨oa, c', rfl⟩ := own_sl ho
 have a2 : w'.heap[N + 1]? = _ := (hg1.block _ (heap_lt h.hs) (fun e => by cases e)).trans h.hs
 refine ⟨oa, c', w', hr, h.row hg1 (fun k hk => by cases hk) ho, cell_of a2 1, frozen_of a2 1, (Below.refl N w).grown hg1 hN (fun y hy => by cases hy), fun b o hb => ?_⟩
 exact (hg1.block _ (heap_lt hb) (fun e => by cases e)).trans hb
end
theorem inn_succ {l : List Ev} {k : Nat} {x : Ev} (h : l[k]? = some x) (c : Int) : inn l (k + 1) c = ins (inn l k c) c x l[k + 1]? := by simp [inn, h]
theorem put_len (L : List Int) (e : Ev) (nx : Option Ev) : (put L e nx).length ≤ L.length + 1 := by
 unfold put
 split
 ·simp
 ·split
  ·split
   ·simp
   ·simp
  ·simp
theorem mov_len (s : In) (e : Ev) (nx : Option Ev) : (mov s e nx).L.length ≤ s.L.length + 1 := by
 have h := put_len s.L e nx
 unfold mov
 split
 ·split
  ·rename_i h2; rw [h2] at h; simp at h ⊢; omega
  ·simp
 ·exact h
theorem inn_len (l : List Ev) (c : Int) : ∀ k, (inn l k c).L.length ≤ k
 | 0 => Nat.le_refl _
 | k + 1 => by
   have ih := inn_len l c k
   unfold inn
   split
   ·unfold ins
    split
    ·omega
    ·split
     ·have := mov_len (inn l k c) ‹Ev› l[k + 1]?; omega
     ·simp only; omega
   ·omega
set_option maxRecDepth 100000 in
set_option maxHeartbeats 12800000 in
theorem rin_any (oa : Option Addr) (l : List Ev) (cc : Nat) (c : Int) (n : Nat) (w : World) (hA : EsAt w oa l) (hn : n ≤ l.length) (hl : l.length ≤ 2000) :
 Calls Tryz.prog 133 #[.slice oa l.length cc, .int .i64 c, .int .i64 (n : Int)] w fun r w' => (∃ oa' c', r = .returned (.agg #[.int .i64 (inn l n c).size, .slice oa' (inn l n c).L.length c', .bool (inn l n c).closed, .bool (inn l n c).right])) ∧ Below w.heap.size w w' := by
 have HA := hide hA
 clear hA
 obtain ⟨M, hM⟩ : ∃ M, l.length = M := ⟨_, rfl⟩
 have HM := hide hM
 rw [hM] at hn hl ⊢
 clear hM
 have START : Hid (IB ((w.alloc (.cells #[.int .i64 0, .slice none 0 0, .bool false, .bool false] 187)).alloc (.cells #[.int .i64 0, .slice none 0 0, .bool false, .bool true] 187)) w.heap.size (.slice none 0 0) 0 [] false true) := by
  have h1 := heap_new w (.cells #[.int .i64 0, .slice none 0 0, .bool false, .bool false] 187)
  have h2 := heap_new (w.alloc (.cells #[.int .i64 0, .slice none 0 0, .bool false, .bool false] 187)) (.cells #[.int .i64 0, .slice none 0 0, .bool false, .bool true] 187)
  rw [World.size_alloc] at h2
  exact ⟨heap_below h1 (below_alloc _ _), h2, World.ownsRow_nil _ _ _ _⟩
 have B0 := hide (btr (below_alloc w (.cells #[.int .i64 0, .slice none 0 0, .bool false, .bool false] 187)) (below_alloc _ (.cells #[.int .i64 0, .slice none 0 0, .bool false, .bool true] 187)))
 go_enter Tryz.func133, Tryz.ntmps133
 go_wp2_with fail
 go_loopw [8] (fun i wr => ∃ (k : Nat) (v : Value), k ≤ n ∧ i = .int .i64 (k : Int) ∧ IB wr w.heap.size v (inn l k c).size (inn l k c).L (inn l k c).closed (inn l k c).right ∧ Below w.heap.size w wr) (fun i _ => n - (intOf i).toNat)
 case atStart => exact ⟨0, _, Nat.zero_le _, rfl, START.out, B0.out⟩
 case round =>
  obtain ⟨k, v, hk, rfl, ib, bl⟩ := hrel
  clear START B0
  by_cases hlt : k < n
  ·have hlt' : (k : Int) < (n : Int) := by omega
   have hkM : (k : Int) < (M : Int) := by omega
   obtain ⟨x, hx⟩ : ∃ x, l[k]? = some x := ⟨_, List.getElem?_eq_getElem (by rw [HM.out]; omega)⟩
   obtain ⟨b1, o1, rfl, -⟩ := HA.out k x hx
   obtain ⟨p0, p1, p2, p3, p4, p5, p6, p7⟩ := (HA.out.below bl).read hx
   have NXT := hide (inn_succ hx c)
   have LEN := inn_len l c k
   have ES := hide ((HA.out.below bl).below (below_alloc wr (.cells #[.int .i64 x.k, .int .i64 x.g, .int .i64 x.c, .int .i64 x.a, .int .i64 x.v, .int .i64 x.m, .bool x.s, .bool x.o] 50)))
   have IB1 := hide (ib.below (below_alloc wr (.cells #[.int .i64 x.k, .int .i64 x.g, .int .i64 x.c, .int .i64 x.a, .int .i64 x.v, .int .i64 x.m, .bool x.s, .bool x.o] 50)))
   have BL1 := hide (btr bl (below_alloc wr (.cells #[.int .i64 x.k, .int .i64 x.g, .int .i64 x.c, .int .i64 x.a, .int .i64 x.v, .int .i64 x.m, .bool x.s, .bool x.o] 50)))
   have EV1 := hide (heap_new wr (.cells #[.int .i64 x.k, .int .i64 x.g, .int .i64 x.c, .int .i64 x.a, .int .i64 x.v, .int .i64 x.m, .bool x.s, .bool x.o] 50))
   have HSZ : w.heap.size + 1 < wr.heap.size := heap_lt ib.hs
   clear ib bl hx
   obtain ⟨s, hs⟩ : ∃ s, inn l k c = s := ⟨_, rfl⟩
   rw [hs] at NXT LEN IB1
   clear hs
   go_upto_region 6 with fail
   obtain ⟨E, hE⟩ : ∃ E, wr.heap.size = E := ⟨_, rfl⟩
   rw [hE] at EV1 HSZ ⊢
   clear hE p0 p1 p2 p3 p4 p5 p6 p7
   generalize wr.alloc (.cells #[.int .i64 x.k, .int .i64 x.g, .int .i64 x.c, .int .i64 x.a, .int .i64 x.v, .int .i64 x.m, .bool x.s, .bool x.o] 50) = W1 at *
   have v0 : W1.cell? ⟨E, 0, none⟩ = some (.int .i64 x.k) := cell_of EV1.out 0
   have v2 : W1.cell? ⟨E, 2, none⟩ = some (.int .i64 x.c) := cell_of EV1.out 2
   have v4 : W1.cell? ⟨E, 4, none⟩ = some (.int .i64 x.v) := cell_of EV1.out 4
   have v5 : W1.cell? ⟨E, 5, none⟩ = some (.int .i64 x.m) := cell_of EV1.out 5
   have v7 : W1.cell? ⟨E, 7, none⟩ = some (.bool x.o) := cell_of EV1.out 7
   have s0 : W1.cell? ⟨w.heap.size + 1, 0, none⟩ = some (.int .i64 s.size) := cell_of IB1.out.hs 0
   have s1 : W1.cell? ⟨w.heap.size + 1, 1, none⟩ = some v := cell_of IB1.out.hs 1
   have s2 : W1.cell? ⟨w.heap.size + 1, 2, none⟩ = some (.bool s.closed) := cell_of IB1.out.hs 2
   have s3 : W1.cell? ⟨w.heap.size + 1, 3, none⟩ = some (.bool s.right) := cell_of IB1.out.hs 3
   have f0 := frozen_of IB1.out.hs 0
   have f2 := frozen_of IB1.out.hs 2
   have f3 := frozen_of IB1.out.hs 3
   by_cases hc : x.c = c
   case neg =>
    have dc : (x.c != c) = true := by simpa using hc
    have FIN : Hid (inn l (k + 1) c = s) := by show _ = _; rw [NXT.out]; unfold ins; rw [if_pos hc]
    go_wp2_with fail
    go_roundw
    case rel => exact ⟨k + 1, v, by omega, by go_num, by rw [FIN.out]; exact IB1.out, BL1.out⟩
    case measure => simp [intOf]; omega
   have dc : (x.c != c) = false := by simpa using hc
   by_cases hm : moves x = true
   case neg =>
    have hmf : moves x = false := by simpa using hm
    have FIN : Hid (inn l (k + 1) c = ⟨if x.k = 2 then x.v else s.size, s.L, if x.k = 5 then true else s.closed, s.right⟩) := by show _ = _; rw [NXT.out]; unfold ins; rw [if_neg (by simp [hc]), hmf]; rfl
    unfold moves at hmf
    simp only [Bool.or_eq_false_iff, decide_eq_false_iff_not, Bool.and_eq_false_iff] at hmf
    obtain ⟨h3, h4⟩ := hmf
    have d3 : (x.k != 3) = true := by simp [h3]
    by_cases k2 : x.k = 2
    ·have d2 : (x.k == 2) = true := by simp [k2]
     have d5 : (x.k == 5) = false := by simp; omega
     have d4 : (x.k != 4) = true := by simp; omega
     have IB2 := hide (IB1.out.set 0 (.int .i64 x.v) (sz' := x.v) (cl' := s.closed) (rt' := s.right) rfl)
     have BL2 := hide (below_set (i := 0) (v := .int .i64 x.v) BL1.out (show w.heap.size ≤ w.heap.size + 1 by omega))
     have F2 : Hid (inn l (k + 1) c = ⟨x.v, s.L, s.closed, s.right⟩) := by show _ = _; rw [FIN.out, if_pos k2, if_neg (by omega)]
     clear FIN k2 h3 h4
     go_wp2_with fail
     go_roundw
     case rel => exact ⟨k + 1, v, by omega, by go_num, by rw [F2.out]; exact IB2.out, BL2.out⟩
     case measure => simp [intOf]; omega
    have d2 : (x.k == 2) = false := by simp [k2]
    by_cases k5 : x.k = 5
    ·have d5 : (x.k == 5) = true := by simp [k5]
     have d4 : (x.k != 4) = true := by simp; omega
     have IB2 := hide (IB1.out.set 2 (.bool true) (sz' := s.size) (cl' := true) (rt' := s.right) rfl)
     have BL2 := hide (below_set (i := 2) (v := .bool true) BL1.out (show w.heap.size ≤ w.heap.size + 1 by omega))
     have F2 : Hid (inn l (k + 1) c = ⟨s.size, s.L, true, s.right⟩) := by show _ = _; rw [FIN.out, if_neg k2, if_pos k5]
     clear FIN k5 h3 h4
     go_wp2_with fail
     go_roundw
     case rel => exact ⟨k + 1, v, by omega, by go_num, by rw [F2.out]; exact IB2.out, BL2.out⟩
     case measure => simp [intOf]; omega
    have d5 : (x.k == 5) = false := by simp [k5]
    have F2 : Hid (inn l (k + 1) c = s) := by show _ = _; rw [FIN.out, if_neg k2, if_neg k5]
    by_cases k4 : x.k = 4
    ·have d4 : (x.k != 4) = false := by simp [k4]
     have ho : x.o = false := by
      rcases h4 with q | q
      ·exact absurd k4 q
      ·exact q
     rw [ho] at v7
     clear FIN k4 h3 h4
     go_wp2_with fail
     go_roundw
     case rel => exact ⟨k + 1, v, by omega, by go_num, by rw [F2.out]; exact IB1.out, BL1.out⟩
     case measure => simp [intOf]; omega
    ·have d4 : (x.k != 4) = true := by simp [k4]
     clear FIN k4 h3 h4
     go_wp2_with fail
     go_roundw
     case rel => exact ⟨k + 1, v, by omega, by go_num, by rw [F2.out]; exact IB1.out, BL1.out⟩
     case measure => simp [intOf]; omega
   have FIN : Hid (inn l (k + 1) c = mov s x l[k + 1]?) := by show _ = _; rw [NXT.out]; unfold ins; rw [if_neg (by simp [hc]), if_pos hm]
   clear NXT
   have hmk := moves_k hm
   have d2 : (x.k == 2) = false := by rcases hmk with h | ⟨h, -⟩ <;> simp [h]
   have d5 : (x.k == 5) = false := by rcases hmk with h | ⟨h, -⟩ <;> simp [h]
   obtain ⟨va, vc, rfl⟩ := own_sl IB1.out.ow
   have mm1 : (M : Int) - 1 = ((M - 1 : Nat) : Int) := by omega
   obtain ⟨la, hla⟩ : ∃ la, ((k : Int) == ((M - 1 : Nat) : Int)) = la := ⟨_, rfl⟩
   have hla2 : (k == M - 1) = la := by rw [← hla, Bool.eq_iff_iff]; simp only [beq_iff_eq]; omega
   have NX : Hid (l[k + 1]?.isNone = la) := by
    show _ = _
    rw [← hla2]
    by_cases h : k + 1 < M
    ·rw [List.getElem?_eq_getElem (by rw [HM.out]; exact h), show (k == M - 1) = false from by simp; omega]; rfl
    ·rw [List.getElem?_eq_none (by rw [HM.out]; omega), show (k == M - 1) = true from by simp; omega]; rfl
   obtain ⟨nx, hnx⟩ : ∃ nx, l[k + 1]? = nx := ⟨_, rfl⟩
   have HNX := hide hnx
   rw [hnx] at FIN NX
   clear hnx
   have region11 : True := trivial
   have K3 : (x.k = 3 ∧ (x.k != 3) = false ∧ (x.k == 3) = true ∧ (x.k == 4) = false) ∨ (x.k = 4 ∧ x.o = true ∧ (x.k != 3) = true ∧ (x.k != 4) = false ∧ (x.k == 3) = false ∧ (x.k == 4) = true) := by
    rcases hmk with h | ⟨h, h2⟩
    ·exact .inl (by simp [h])
    ·exact .inr (by simp [h, h2])
   clear hmk hm
   go_upto_region 11 with fail
   go_cut [48] (fun s48 wc => s48 = .bool false ∧ wc = W1)
   case first =>
    rcases K3 with ⟨-, d3, -, -⟩ | ⟨-, ho, d3, d4, -, -⟩
    ·go_wp2_with fail
     go_meet
     case rel => exact ⟨rfl, rfl⟩
    ·rw [ho] at v7
     go_wp2_with fail
     go_meet
     case rel => exact ⟨rfl, rfl⟩
   case rest =>
    obtain ⟨rfl, e1⟩ := hcut
    obtain rfl := e1.symm
    clear e1 v7 v2 s2 f0 f2
    go_upto_region 13 with fail
    go_cut [56] (fun s56 wc => s56 = .bool (x.k == 3) ∧ wc = W1)
    case first =>
     go_wp2_with fail
     go_meet
     case rel => exact ⟨rfl, rfl⟩
    case rest =>
    obtain ⟨rfl, e1⟩ := hcut
    obtain rfl := e1.symm
    clear e1
    go_upto_if 56 with fail
    go_cut [] (fun wc => ∃ v', IB wc w.heap.size v' s.size (put s.L x nx) s.closed s.right ∧ wc.heap[E]? = some (.cells #[.int .i64 x.k, .int .i64 x.g, .int .i64 x.c, .int .i64 x.a, .int .i64 x.v, .int .i64 x.m, .bool x.s, .bool x.o] 50) ∧ Below w.heap.size w wc)
    case first =>
     rcases K3 with ⟨k3, d3, d3', d4⟩ | ⟨k4, ho, d3, d4, d3', d4'⟩
     ·have PU : Hid (put s.L x nx = s.L ++ [x.v]) := by show _ = _; unfold put; rw [if_pos k3]
      obtain ⟨oa1, c1, w3, ap1, ib3, e3, z3, b3, ke3⟩ := IB1.out.app (by omega) x.v
      have AP1 := hide ap1
      have IB3 := hide ib3
      have BL3 := hide (below_set (i := 1) (v := .slice oa1 (s.L.length + 1) c1) (Below.trans BL1.out b3) (show w.heap.size ≤ w.heap.size + 1 by omega))
      have EV3 := hide (((KB.refl (w.heap.size + 1) w3).setCell 1 (.slice oa1 (s.L.length + 1) c1)).heap (ke3 E _ _ EV1.out (by decide)) (by omega))
      clear ap1 ib3 b3 ke3
      clear k3
      go_wp2_with (at_builtin; refine wpL_app rfl _ _ 67 67 rfl _ _ rfl rfl _ _ AP1.out ?_)
      go_meet
      case rel => exact ⟨_, by rw [PU.out]; exact IB3.out, EV3.out, BL3.out⟩
     ·have nk3 : ¬ x.k = 3 := by omega
      by_cases hm0 : 0 ≤ x.m
      ·have dm : decide (0 ≤ x.m) = true := decide_eq_true hm0
       cases la
       ·cases nx with
        | none => exact absurd NX.out (by simp)
        | some y =>
          have PU : Hid (put s.L x (some y) = s.L ++ [y.v]) := by show _ = _; unfold put; rw [if_neg nk3, if_pos hm0]
          obtain ⟨-, -, -, -, y4, -, -, -⟩ := ES.out.read HNX.out
          obtain ⟨k1, hk1⟩ : ∃ k1, k + 1 = k1 := ⟨_, rfl⟩
          have hkM1 : (k1 : Int) < (M : Int) := by have := (List.getElem?_eq_some_iff.1 HNX.out).1; have := HM.out; omega
          have hk0 : (0 : Int) ≤ (k1 : Int) := by omega
          have wk1 : IntKind.i64.wrap ((k : Int) + 1) = (k1 : Int) := by rw [IntKind.wrap_i64]; omega
          have y4' : W1.drew.cell? ⟨b1, o1 + k1 * 8 + 4, none⟩ = some (.int .i64 y.v) := by rw [← hk1]; exact y4
          clear hk1
          have s1' : W1.drew.cell? ⟨w.heap.size + 1, 1, none⟩ = some (.slice va s.L.length vc) := s1
          have s1'' : (W1.alloc (.cells #[.int .i64 y.v] 3)).drew.cell? ⟨w.heap.size + 1, 1, none⟩ = some (.slice va s.L.length vc) := (below_alloc W1 (.cells #[.int .i64 y.v] 3)).cell (World.block_lt_of_cell? W1 _ s1) |>.trans s1
          obtain ⟨oa1, c1, w3, ap1, ib3, e3, z3, b3, ke3⟩ := (IB1.out.below (bdrew1 _)).app (by omega) y.v
          have AP1 := hide ap1
          have IB3 := hide ib3
          have BL3 := hide (below_set (i := 1) (v := .slice oa1 (s.L.length + 1) c1) (Below.trans (BL1.out.trans ((bdrew1 W1).mono BL1.out.size)) b3) (show w.heap.size ≤ w.heap.size + 1 by omega))
          have EV3 := hide (((KB.refl (w.heap.size + 1) w3).setCell 1 (.slice oa1 (s.L.length + 1) c1)).heap (ke3 E _ _ (show W1.drew.heap[E]? = _ from EV1.out) (by decide)) (by omega))
          clear ap1 ib3 b3 ke3
          have AP1' : (Builtin.append_ #[67, 67] 67 #[.slice va s.L.length vc, .slice (some ⟨W1.heap.size, 0, none⟩) 1 1]).run Tryz.prog (W1.alloc (.cells #[.int .i64 y.v] 3)).drew = .ok (.slice oa1 (s.L.length + 1) c1) w3 := AP1.out
          clear hm0 nk3 k4 y4
          go_wp2_with fail
          go_region_law (refine step_append_run _ (by rfl) _ _ _ _ (by rfl) _ _ (by rfl) (by rfl) _ _ AP1' ?_)
          all_goals
           go_wp2_with fail
           go_meet
           case rel => exact ⟨_, by rw [PU.out]; exact IB3.out, EV3.out, BL3.out⟩
       ·have hnn : nx = none := by have := NX.out; simpa using this
        have PU : Hid (put s.L x nx = s.L) := by show _ = _; unfold put; rw [if_neg nk3, if_pos hm0, hnn]
        clear hm0 nk3 k4 hnn
        go_wp2_with fail
        go_meet
        case rel => exact ⟨_, by rw [PU.out]; exact IB1.out, EV1.out, BL1.out⟩
      ·have dm : decide (0 ≤ x.m) = false := decide_eq_false hm0
       have PU : Hid (put s.L x nx = s.L) := by show _ = _; unfold put; rw [if_neg nk3, if_neg hm0]
       clear hm0 nk3 k4
       go_wp2_with fail
       go_meet
       case rel => exact ⟨_, by rw [PU.out]; exact IB1.out, EV1.out, BL1.out⟩
    case rest =>
     obtain ⟨v', ib, ev, bl⟩ := hcut
     clear v0 v4 v5 s0 s1 s3 f3 IB1 EV1 BL1 ES
     have PL := put_len s.L x nx
     obtain ⟨pt, hpt⟩ : ∃ pt, put s.L x nx = pt := ⟨_, rfl⟩
     have HPT := hide hpt
     rw [hpt] at ib PL
     clear hpt
     have IB2 := hide (ib.set 3 (.bool true) (sz' := s.size) (cl' := s.closed) (rt' := true) rfl)
     have EV2 := hide (((KB.refl (w.heap.size + 1) wc).setCell 3 (.bool true)).heap ev (by omega))
     have BL2 := hide (below_set (i := 3) (v := .bool true) bl (show w.heap.size ≤ w.heap.size + 1 by omega))
     have s3 : wc.cell? ⟨w.heap.size + 1, 3, none⟩ = some (.bool s.right) := cell_of ib.hs 3
     have f3 := frozen_of ib.hs 3
     clear ib ev bl
     go_upto_region 18 with fail
     generalize wc.setCell ⟨w.heap.size + 1, 3, none⟩ (.bool true) = W2 at *
     clear s3 f3
     have v0 : W2.cell? ⟨E, 0, none⟩ = some (.int .i64 x.k) := cell_of EV2.out 0
     have v4 : W2.cell? ⟨E, 4, none⟩ = some (.int .i64 x.v) := cell_of EV2.out 4
     have v5 : W2.cell? ⟨E, 5, none⟩ = some (.int .i64 x.m) := cell_of EV2.out 5
     obtain ⟨pb, HPB⟩ : ∃ pb, Hid (decide (x.k = 4 ∨ 0 ≤ x.m) = pb) := ⟨_, rfl⟩
     go_cut [90] (fun s90 wd => s90 = .bool pb ∧ wd = W2)
     case first =>
      rcases K3 with ⟨k3, -, -, d4⟩ | ⟨k4, -, -, -, -, d4'⟩
      ·have e90 : decide (x.k = 4 ∨ 0 ≤ x.m) = decide (0 ≤ x.m) := by rw [decide_eq_decide]; omega
       go_wp2_with fail
       go_meet
       case rel => exact ⟨by rw [← HPB.out, e90], rfl⟩
      ·have e90 : decide (x.k = 4 ∨ 0 ≤ x.m) = true := decide_eq_true (.inl k4)
       go_wp2_with fail
       go_meet
       case rel => exact ⟨by rw [← HPB.out, e90], rfl⟩
     case rest =>
     obtain ⟨rfl, e1⟩ := hcut
     obtain rfl := e1.symm
     clear e1
     have s1 : W2.cell? ⟨w.heap.size + 1, 1, none⟩ = some v' := cell_of IB2.out.hs 1
     have s3 : W2.cell? ⟨w.heap.size + 1, 3, none⟩ = some (.bool true) := cell_of IB2.out.hs 3
     have f1 := frozen_of IB2.out.hs 1
     have f3 := frozen_of IB2.out.hs 3
     go_upto_if 90 with fail
     go_cut [] (fun wd => ∃ v'' L' rt', IB wd w.heap.size v'' s.size L' s.closed rt' ∧ L'.length ≤ 2001 ∧ mov s x nx = ⟨s.size, L', s.closed, rt' && decide ((L'.length : Int) ≤ s.size)⟩ ∧ Below w.heap.size w wd)
     case first =>
      cases pb
      rotate_left
      ·have hP : x.k = 4 ∨ 0 ≤ x.m := of_decide_eq_true HPB.out
       cases pt with
       | nil =>
         have MV : Hid (mov s x nx = ⟨s.size, [], s.closed, (decide (0 ≤ x.m) && nx.isNone) && decide ((0 : Int) ≤ s.size)⟩) := by show _ = _; unfold mov; rw [if_pos hP, HPT.out]
         rw [NX.out] at MV
         obtain ⟨pa, pc, rfl⟩ := own_sl IB2.out.ow
         rw [List.length_nil] at s1
         cases hm0 : decide (0 ≤ x.m)
         ·rw [hm0] at MV
          have IB3 := hide (IB2.out.set 3 (.bool false) (sz' := s.size) (cl' := s.closed) (rt' := false) rfl)
          have BL3 := hide (below_set (i := 3) (v := .bool false) BL2.out (show w.heap.size ≤ w.heap.size + 1 by omega))
          clear hP
          go_wp2_with fail
          go_meet
          case rel => exact ⟨_, [], false, IB3.out, by simp, by rw [MV.out]; rfl, BL3.out⟩
         ·rw [hm0] at MV
          have IB3 := hide (IB2.out.set 3 (.bool la) (sz' := s.size) (cl' := s.closed) (rt' := la) rfl)
          have BL3 := hide (below_set (i := 3) (v := .bool la) BL2.out (show w.heap.size ≤ w.heap.size + 1 by omega))
          clear hP
          go_wp2_with fail
          go_meet
          case rel => exact ⟨_, [], la, IB3.out, by simp, by rw [MV.out]; rfl, BL3.out⟩
       | cons y r =>
         have MV : Hid (mov s x nx = ⟨s.size, r, s.closed, decide (y = x.v) && decide ((r.length : Int) ≤ s.size)⟩) := by show _ = _; unfold mov; rw [if_pos hP, HPT.out]
         obtain ⟨g, pc, rfl, hpc, hg0⟩ : ∃ g pc, v' = .slice (some ⟨g, 0, none⟩) (r.length + 1) pc ∧ r.length + 1 ≤ pc ∧ W2.cell? ⟨g, 0, none⟩ = some (.int .i64 y) := by
          rcases IB2.out.ow.2 with ⟨-, h⟩ | ⟨g, cap, cur, rfl, -, hg, h1, -, -, h3⟩
          ·simp at h
          ·refine ⟨g, cap, rfl, h1, ?_⟩
           rw [cell_of hg]
           have e1 : (ic (y :: r))[0]? = some (.int .i64 y) := rfl
           rw [← h3, List.getElem?_take, if_pos (by simp)] at e1
           simpa using e1
         rw [List.length_cons] at PL
         obtain ⟨Rn, hRn⟩ : ∃ Rn, r.length + 1 = Rn := ⟨_, rfl⟩
         have dR : decide ((0 : Int) < (Rn : Int)) = true := by simp; omega
         have dR2 : decide (0 < Rn) = true := by simp; omega
         have dR3 : (0 : Int) < (Rn : Int) := by omega
         have dR4 : (1 : Int) ≤ (Rn : Int) := by omega
         have dR5 : 1 ≤ Rn := by omega
         have hRb : Rn ≤ 2001 := by omega
         obtain ⟨rq, hrq⟩ : ∃ rq, (y == x.v) = rq := ⟨_, rfl⟩
         have RB : Hid (decide (y = x.v) = rq) := by show _ = _; rw [← hrq, Bool.eq_iff_iff]; simp
         have IB3 := hide ((IB2.out.below (bdrew1 _)).set 3 (.bool rq) (sz' := s.size) (cl' := s.closed) (rt' := rq) rfl)
         have BL3 := hide (below_set (i := 3) (v := .bool rq) (Below.trans BL2.out ((bdrew1 W2).mono BL2.out.size)) (show w.heap.size ≤ w.heap.size + 1 by omega))
         have s1' : W2.drew.cell? ⟨w.heap.size + 1, 1, none⟩ = some (.slice (some ⟨g, 0, none⟩) (r.length + 1) pc) := s1
         have s3' : W2.drew.cell? ⟨w.heap.size + 1, 3, none⟩ = some (.bool true) := s3
         have f3' : W2.drew.frozen? ⟨w.heap.size + 1, 3, none⟩ = false := f3
         have v4' : W2.drew.cell? ⟨E, 4, none⟩ = some (.int .i64 x.v) := v4
         have hg0' : W2.drew.cell? ⟨g, 0, none⟩ = some (.int .i64 y) := hg0
         rw [hRn] at s1 s1' hpc
         have hpc2 : (Rn : Int) ≤ (pc : Int) := by omega
         have hpc3 : (1 : Int) ≤ (pc : Int) := by omega
         by_cases hp1 : pc = 1
         ·subst hp1
          have hr0 : r = [] := by
           cases r with
           | nil => rfl
           | cons _ _ => simp at hRn; omega
          subst hr0
          have hR1 : Rn = 1 := hRn.symm
          subst hR1
          obtain ⟨oa4, c4, w4, ap4, ib4, e4, z4, b4, -⟩ := IB3.out.tail (by simp) 0 0 0 rfl (fun h => absurd rfl h)
          have AP4 : Hid ((Builtin.append_ #[67, 67] 67 #[.slice none 0 0, .slice (some ⟨g, 0, none⟩) 0 0]).run Tryz.prog (W2.drew.setCell ⟨w.heap.size + 1, 3, none⟩ (.bool rq)) = .ok (.slice oa4 0 c4) w4) := ap4
          have IB4 : Hid (IB (w4.setCell ⟨w.heap.size + 1, 1, none⟩ (.slice oa4 0 c4)) w.heap.size (.slice oa4 0 c4) s.size [] s.closed rq) := ib4
          have e4' : w4.cell? ⟨w.heap.size + 1, 1, none⟩ = some (.slice (some ⟨g, 0, none⟩) 1 1) := e4
          have BL4 := hide (below_set (i := 1) (v := .slice oa4 0 c4) (Below.trans BL3.out b4) (show w.heap.size ≤ w.heap.size + 1 by omega))
          have t1 : (W2.drew.setCell ⟨w.heap.size + 1, 3, none⟩ (.bool rq)).cell? ⟨w.heap.size + 1, 1, none⟩ = some (.slice (some ⟨g, 0, none⟩) 1 1) := cell_of IB3.out.hs 1
          clear ap4 ib4 b4 hP hRn e4
          go_upto_region 20 with fail
          go_cut [] (fun we => we = W2.drew.setCell ⟨w.heap.size + 1, 3, none⟩ (.bool rq))
          case first =>
           go_region
           all_goals
            go_wp2_with fail
            go_meet
            case rel => rfl
          case rest =>
           subst hcut
           generalize W2.drew.setCell ⟨w.heap.size + 1, 3, none⟩ (.bool rq) = W3 at *
           go_wp2_with (at_builtin; refine wpL_app rfl _ _ 67 67 rfl _ _ rfl rfl _ _ AP4.out ?_)
           go_meet
           case rel => exact ⟨_, [], rq, IB4.out, by simp, by rw [MV.out, RB.out], BL4.out⟩
         ·have HO : Hid (r ≠ [] → 1 = 1) := fun _ => rfl
          obtain ⟨oa4, c4, w4, ap4, ib4, e4, z4, b4, -⟩ := IB3.out.tail (by omega) 1 (Rn - 1) (pc - 1) (by omega) HO.out
          have AP4 := hide ap4
          have IB4 := hide ib4
          rw [hRn] at e4
          have BL4 := hide (below_set (i := 1) (v := .slice oa4 r.length c4) (Below.trans BL3.out b4) (show w.heap.size ≤ w.heap.size + 1 by omega))
          have t1 : (W2.drew.setCell ⟨w.heap.size + 1, 3, none⟩ (.bool rq)).cell? ⟨w.heap.size + 1, 1, none⟩ = some (.slice (some ⟨g, 0, none⟩) Rn pc) := by rw [← hRn]; exact cell_of IB3.out.hs 1
          have hrl := hide hRn
          clear ap4 ib4 b4 hP hRn
          go_upto_region 20 with fail
          go_cut [] (fun we => we = W2.drew.setCell ⟨w.heap.size + 1, 3, none⟩ (.bool rq))
          case first =>
           go_region
           all_goals
            go_wp2_with fail
            go_meet
            case rel => rfl
          case rest =>
           subst hcut
           generalize W2.drew.setCell ⟨w.heap.size + 1, 3, none⟩ (.bool rq) = W3 at *
           go_wp2_with (at_builtin; refine wpL_app rfl _ _ 67 67 rfl _ _ rfl rfl _ _ AP4.out ?_)
           go_meet
           case rel => exact ⟨_, r, rq, IB4.out, by have := hrl.out; omega, by rw [MV.out, RB.out], BL4.out⟩
      ·have hP : ¬ (x.k = 4 ∨ 0 ≤ x.m) := of_decide_eq_false HPB.out
       have MV : Hid (mov s x nx = ⟨s.size, pt, s.closed, true && decide ((pt.length : Int) ≤ s.size)⟩) := by show _ = _; unfold mov; rw [if_neg hP, HPT.out]; rfl
       clear hP
       go_wp2_with fail
       go_meet
       case rel => exact ⟨_, pt, true, IB2.out, by omega, MV.out, BL2.out⟩
     case rest =>
      clear v0 v4 v5 s1 s3 f1 f3 IB2 EV2 BL2
      obtain ⟨v'', L', rt', ib, hL, mv, bl⟩ := hcut
      obtain ⟨qa, qc, rfl⟩ := own_sl ib.ow
      have FI : Hid (inn l (k + 1) c = ⟨s.size, L', s.closed, rt' && decide ((L'.length : Int) ≤ s.size)⟩) := FIN.out.trans mv
      have s0 := cell_of ib.hs 0
      have s1 := cell_of ib.hs 1
      have s3 := cell_of ib.hs 3
      have f3 := frozen_of ib.hs 3
      simp at s0 s1 s3
      have IB5 := hide ib
      have BL5 := hide bl
      clear ib bl mv FIN
      rename World => W5
      cases rt'
      ·have IB6 := hide (IB5.out.set 3 (.bool false) (sz' := s.size) (cl' := s.closed) (rt' := false) rfl)
       have BL6 := hide (below_set (i := 3) (v := .bool false) BL5.out (show w.heap.size ≤ w.heap.size + 1 by omega))
       go_wp2_with fail
       go_roundw
       case rel => exact ⟨k + 1, _, by omega, by go_num, by rw [FI.out]; exact IB6.out, BL6.out⟩
       case measure => simp [intOf]; omega
      ·have IB6 := hide (IB5.out.set 3 (.bool (decide ((L'.length : Int) ≤ s.size))) (sz' := s.size) (cl' := s.closed) (rt' := decide ((L'.length : Int) ≤ s.size)) rfl)
       have BL6 := hide (below_set (i := 3) (v := .bool (decide ((L'.length : Int) ≤ s.size))) BL5.out (show w.heap.size ≤ w.heap.size + 1 by omega))
       go_wp2_with fail
       go_roundw
       case rel => exact ⟨k + 1, _, by omega, by go_num, by rw [FI.out]; exact IB6.out, BL6.out⟩
       case measure => simp [intOf]; omega
  ·have hlt' : ¬ ((k : Int) < (n : Int)) := by omega
   obtain rfl : k = n := by omega
   obtain ⟨va, vc, rfl⟩ := own_sl ib.ow
   have RR := hide ib
   have BL := hide bl
   have g0 := cell_of ib.hs 0
   have g1 := cell_of ib.hs 1
   have g2 := cell_of ib.hs 2
   have g3 := cell_of ib.hs 3
   have r0 := cell_of ib.hr 0
   have r1 := cell_of ib.hr 1
   have r2 := cell_of ib.hr 2
   have r3 := cell_of ib.hr 3
   have f0 := frozen_of ib.hr 0
   have f1 := frozen_of ib.hr 1
   have f2 := frozen_of ib.hr 2
   have f3 := frozen_of ib.hr 3
   simp at g0 g1 g2 g3 r0 r1 r2 r3
   clear ib bl
   obtain ⟨s, hs⟩ : ∃ s, inn l k c = s := ⟨_, rfl⟩
   have HS := hide hs
   rw [hs] at RR g0 g1 g2 g3
   clear hs
   have E1 : Hid (((((wr.setCell ⟨w.heap.size, 0, none⟩ (.int .i64 s.size)).setCell ⟨w.heap.size, 1, none⟩ (.slice va s.L.length vc)).setCell ⟨w.heap.size, 2, none⟩ (.bool s.closed)).setCell ⟨w.heap.size, 3, none⟩ (.bool s.right)).heap[w.heap.size]? = some (.cells #[.int .i64 s.size, .slice va s.L.length vc, .bool s.closed, .bool s.right] 187 (0, 0))) := Ba.heap_setCell_same (Ba.heap_setCell_same (Ba.heap_setCell_same (Ba.heap_setCell_same RR.out.hr _) _) _) _
   have K1 := hide (((((KB.refl w.heap.size wr).setCell 0 (.int .i64 s.size)).setCell 1 (.slice va s.L.length vc)).setCell 2 (.bool s.closed)).setCell 3 (.bool s.right))
   go_wp2_with fail
   exact bodyPost_ret (En.results_row1 Tryz.results133 _ _ _ _ rfl (loadVar_ins E1.out rfl)) rfl ⟨⟨_, _, by rw [HS.out]⟩, KB.below BL.out K1.out (Nat.le_refl _)⟩
end Gu
end Go.Proofs.YtblfimobiibmjaaGreat
namespace Go.Proofs.YtblfimobiibmjaaGreat
open Go.ChangeShapes Go.WideShapes Go.ChangeAt Go.RowKit
namespace Gu
open En Ba
set_option maxRecDepth 100000 in
set_option maxHeartbeats 3200000 in
theorem rordered_any (oa : Option Addr) (l : List Ev) (c i : Nat) (e : Ev) (w : World) (hA : EsAt w oa l) (hi : l[i]? = some e) (hl : l.length ≤ 2000) :
 Calls Tryz.prog 76 #[.slice oa l.length c, .int .i64 i] w fun r w' => r = .returned (.bool (ordered (inn l i e.c) e l[i + 1]?)) ∧ Below w.heap.size w w' := by
 have hil : i < l.length := (List.getElem?_eq_some_iff.1 hi).1
 obtain ⟨b1, o1, rfl, -⟩ := hA i e hi
 obtain ⟨p0, p1, p2, p3, p4, p5, p6, p7⟩ := hA.read hi
 have IN := hide (rin_any (some ⟨b1, o1, none⟩) l c e.c (i + 1) (w.alloc (.cells #[.int .i64 e.k, .int .i64 e.g, .int .i64 e.c, .int .i64 e.a, .int .i64 e.v, .int .i64 e.m, .bool e.s, .bool e.o] 50)) (hA.below (below_alloc _ _)) (by omega) hl)
 have OR : Hid (ordered (inn l i e.c) e l[i + 1]? = if moves e = true then (inn l (i + 1) e.c).right else true) := by
  show _ = _
  rw [inn_succ hi]
  unfold ordered ins
  split
  ·simp [*]
  ·rfl
 rw [OR.out]
 have B0 := hide (below_alloc w (.cells #[.int .i64 e.k, .int .i64 e.g, .int .i64 e.c, .int .i64 e.a, .int .i64 e.v, .int .i64 e.m, .bool e.s, .bool e.o] 50))
 obtain ⟨M, hM⟩ : ∃ M, l.length = M := ⟨_, rfl⟩
 rw [hM] at hil hl IN ⊢
 have hiM : (i : Int) < (M : Int) := by omega
 clear hM OR hA hi
 cases hm : moves e
 ·rw [if_neg (by simp)]
  unfold moves at hm
  simp only [Bool.or_eq_false_iff, decide_eq_false_iff_not, Bool.and_eq_false_iff] at hm
  obtain ⟨h3, h4⟩ := hm
  have d3 : (e.k != 3) = true := by simp [h3]
  by_cases k4 : e.k = 4
  ·have d4 : (e.k != 4) = false := by simp [k4]
   have ho : e.o = false := by
    rcases h4 with q | q
    ·exact absurd k4 q
    ·exact q
   rw [ho] at p7
   clear k4 h3 h4
   have B0' := hide B0.out
   rw [ho] at B0'
   go_enter Tryz.func76, Tryz.ntmps76
   go_wp2_with fail
   go_ret
   exact ⟨rfl, B0'.out⟩
  ·have d4 : (e.k != 4) = true := by simp [k4]
   clear k4 h3 h4
   go_enter Tryz.func76, Tryz.ntmps76
   go_wp2_with fail
   go_ret
   exact ⟨rfl, B0.out⟩
 ·rw [if_pos rfl]
  have wi : IntKind.i64.wrap ((i : Int) + 1) = (((i + 1 : Nat)) : Int) := by rw [IntKind.wrap_i64]; omega
  obtain ⟨s, hs⟩ : ∃ s, inn l (i + 1) e.c = s := ⟨_, rfl⟩
  rw [hs] at IN ⊢
  clear hs
  have hfd : ∀ (a : Int) (v : Value) (x y : Bool) (u : World), (Instr.field 187 (.agg #[.int .i64 a, v, .bool x, .bool y]) 3).run Tryz.prog u = .ok (.bool y) u := fun _ _ _ _ _ => by kernel_rfl
  rcases moves_k hm with k3 | ⟨k4, ho⟩
  ·have d3 : (e.k != 3) = false := by simp [k3]
   clear hm k3
   go_enter Tryz.func76, Tryz.ntmps76
   go_wp2_with fail
   refine IN.out.mono ?_
   rintro r w1 ⟨⟨oa', c', rfl⟩, b1⟩
   have B1 := hide (btr B0.out b1)
   clear b1
   go_wp2_with fail
   go_ret
   exact ⟨rfl, B1.out⟩
  ·have d3 : (e.k != 3) = true := by simp [k4]
   have d4 : (e.k != 4) = false := by simp [k4]
   rw [ho] at p7 IN B0
   clear hm k4
   go_enter Tryz.func76, Tryz.ntmps76
   go_wp2_with fail
   refine IN.out.mono ?_
   rintro r w1 ⟨⟨oa', c', rfl⟩, b1⟩
   have B1 := hide (btr B0.out b1)
   clear b1
   go_wp2_with fail
   go_ret
   exact ⟨rfl, B1.out⟩
set_option maxRecDepth 100000 in
set_option maxHeartbeats 3200000 in
theorem rclosed_any (oa : Option Addr) (l : List Ev) (c i : Nat) (e : Ev) (w : World) (hA : EsAt w oa l) (hi : l[i]? = some e) (hl : l.length ≤ 2000) :
 Calls Tryz.prog 77 #[.slice oa l.length c, .int .i64 i] w fun r w' => r = .returned (.bool (closedF (inn l i e.c) e)) ∧ Below w.heap.size w w' := by
 have hil : i < l.length := (List.getElem?_eq_some_iff.1 hi).1
 obtain ⟨b1, o1, rfl, -⟩ := hA i e hi
 obtain ⟨p0, p1, p2, p3, p4, p5, p6, p7⟩ := hA.read hi
 have IN := hide (rin_any (some ⟨b1, o1, none⟩) l c e.c i (w.alloc (.cells #[.int .i64 e.k, .int .i64 e.g, .int .i64 e.c, .int .i64 e.a, .int .i64 e.v, .int .i64 e.m, .bool e.s, .bool e.o] 50)) (hA.below (below_alloc _ _)) (by omega) hl)
 have B0 := hide (below_alloc w (.cells #[.int .i64 e.k, .int .i64 e.g, .int .i64 e.c, .int .i64 e.a, .int .i64 e.v, .int .i64 e.m, .bool e.s, .bool e.o] 50))
 have EV0 := hide (heap_new w (.cells #[.int .i64 e.k, .int .i64 e.g, .int .i64 e.c, .int .i64 e.a, .int .i64 e.v, .int .i64 e.m, .bool e.s, .bool e.o] 50))
 have LN := inn_len l e.c i
 obtain ⟨M, hM⟩ : ∃ M, l.length = M := ⟨_, rfl⟩
 rw [hM] at hil hl IN ⊢
 have hiM : (i : Int) < (M : Int) := by omega
 clear hM hA hi
 obtain ⟨s, hs⟩ : ∃ s, inn l i e.c = s := ⟨_, rfl⟩
 rw [hs] at IN LN ⊢
 clear hs
 obtain ⟨q, hq⟩ : ∃ q, closedF s e = q := ⟨_, rfl⟩
 rw [hq]
 unfold closedF at hq
 by_cases k1 : e.k < 3
 ·rw [if_pos (.inl k1)] at hq
  subst hq
  have d1 : decide (e.k < 3) = true := decide_eq_true k1
  go_enter Tryz.func77, Tryz.ntmps77
  go_wp2_with fail
  go_ret
  exact ⟨rfl, B0.out⟩
 have d1 : decide (e.k < 3) = false := decide_eq_false k1
 by_cases k2 : 5 < e.k
 ·rw [if_pos (.inr k2)] at hq
  subst hq
  have d2 : decide (5 < e.k) = true := decide_eq_true k2
  go_enter Tryz.func77, Tryz.ntmps77
  go_wp2_with fail
  go_ret
  exact ⟨rfl, B0.out⟩
 have d2 : decide (5 < e.k) = false := decide_eq_false k2
 rw [if_neg (by omega)] at hq
 have CELLS : ∀ (oa' : Option Addr) (c' : Nat) (w1 : World), Below w.heap.size w w1 → w1.heap[w.heap.size]? = some (.cells #[.int .i64 e.k, .int .i64 e.g, .int .i64 e.c, .int .i64 e.a, .int .i64 e.v, .int .i64 e.m, .bool e.s, .bool e.o] 50) → True := fun _ _ _ _ _ => trivial
 clear CELLS
 by_cases k4 : e.k = 4
 ·have d4 : (e.k == 4) = true := by simp [k4]
  by_cases ho : e.o = false
  ·rw [if_pos ⟨k4, ho⟩] at hq
   rw [ho] at p7 IN B0 EV0
   clear k4 k1 k2
   go_enter Tryz.func77, Tryz.ntmps77
   go_wp2_with fail
   refine IN.out.mono ?_
   rintro r w1 ⟨⟨oa', c', rfl⟩, b1⟩
   have B1 := hide (btr (btr B0.out b1) (below_alloc w1 (.cells #[.int .i64 s.size, .slice oa' s.L.length c', .bool s.closed, .bool s.right] 187)))
   have EV1 := heap_below (heap_below EV0.out b1) (below_alloc w1 (.cells #[.int .i64 s.size, .slice oa' s.L.length c', .bool s.closed, .bool s.right] 187))
   have hw1 : w.heap.size < w1.heap.size := heap_lt (heap_below EV0.out b1)
   have v0 := cell_of EV1 0
   have v7 := cell_of EV1 7
   simp at v0 v7
   clear b1 EV1
   have hLe : s.L.isEmpty = ((s.L.length : Int) == 0) := by
    rw [Bool.eq_iff_iff]; simp [List.isEmpty_iff]
   rw [hLe] at hq
   obtain ⟨n, hn⟩ : ∃ n, s.L.length = n := ⟨_, rfl⟩
   rw [hn] at hq B1 LN v0 v7 ⊢
   have hb2 : ((n : Int) == 0) = (n == 0) := by rw [Bool.eq_iff_iff]; simp
   cases hc : s.closed
   ·rw [hc] at hq
    simp only [Bool.false_and] at hq
    subst hq
    rw [hc] at B1 v0 v7
    go_wp2_with fail
    go_ret
    exact ⟨rfl, B1.out⟩
   ·rw [hc] at hq
    simp only [Bool.true_and] at hq
    rw [hc] at B1 v0 v7
    rw [hb2] at hq
    clear hb2 hLe
    cases hz : (n == 0)
    ·have hz2 : ((n : Int) == 0) = false := by simp at hz ⊢; omega
     rw [hz] at hq
     subst hq
     go_wp2_with fail
     go_ret
     exact ⟨rfl, B1.out⟩
    ·have hz2 : ((n : Int) == 0) = true := by simp at hz ⊢; omega
     rw [hz] at hq
     subst hq
     go_wp2_with fail
     go_ret
     exact ⟨rfl, B1.out⟩
  ·have ho1 : e.o = true := by simpa using ho
   rw [if_neg (by simp [ho])] at hq
   rw [ho1] at p7 IN B0 EV0
   obtain ⟨lm, hlm⟩ : ∃ lm, decide (e.m < 0) = lm := ⟨_, rfl⟩
   have hq2 : q = if lm then true else !s.closed := by
    rw [← hq, ← hlm]
    by_cases h : e.m < 0
    ·simp [k4, h]
    ·simp [h]
   clear k4 k1 k2 hq
   go_enter Tryz.func77, Tryz.ntmps77
   go_wp2_with fail
   refine IN.out.mono ?_
   rintro r w1 ⟨⟨oa', c', rfl⟩, b1⟩
   have B1 := hide (btr (btr B0.out b1) (below_alloc w1 (.cells #[.int .i64 s.size, .slice oa' s.L.length c', .bool s.closed, .bool s.right] 187)))
   have EV1 := heap_below (heap_below EV0.out b1) (below_alloc w1 (.cells #[.int .i64 s.size, .slice oa' s.L.length c', .bool s.closed, .bool s.right] 187))
   have hw1 : w.heap.size < w1.heap.size := heap_lt (heap_below EV0.out b1)
   have v0 := cell_of EV1 0
   have v5 := cell_of EV1 5
   have v7 := cell_of EV1 7
   simp at v0 v5 v7
   clear b1 EV1
   cases lm
   ·rw [if_neg (by simp)] at hq2
    subst hq2
    go_wp2_with fail
    go_ret
    exact ⟨rfl, B1.out⟩
   ·rw [if_pos rfl] at hq2
    subst hq2
    go_wp2_with fail
    go_ret
    exact ⟨rfl, B1.out⟩
 ·have d4 : (e.k == 4) = false := by simp [k4]
  rw [if_neg (fun h => k4 h.1), if_neg (fun h => k4 h.1)] at hq
  clear k4 k1 k2
  go_enter Tryz.func77, Tryz.ntmps77
  go_wp2_with fail
  refine IN.out.mono ?_
  rintro r w1 ⟨⟨oa', c', rfl⟩, b1⟩
  have B1 := hide (btr (btr B0.out b1) (below_alloc w1 (.cells #[.int .i64 s.size, .slice oa' s.L.length c', .bool s.closed, .bool s.right] 187)))
  have EV1 := heap_below (heap_below EV0.out b1) (below_alloc w1 (.cells #[.int .i64 s.size, .slice oa' s.L.length c', .bool s.closed, .bool s.right] 187))
  have hw1 : w.heap.size < w1.heap.size := heap_lt (heap_below EV0.out b1)
  have v0 := cell_of EV1 0
  simp at v0
  subst hq
  clear b1 EV1
  go_wp2_with fail
  go_ret
  exact ⟨rfl, B1.out⟩
end Gu
end Go.Proofs.YtblfimobiibmjaaGreat
namespace Go.Proofs.YtblfimobiibmjaaGreat
open Go.ChangeShapes Go.WideShapes Go.ChangeAt Go.RowKit
namespace En
open Ba Re
theorem within_any (n lo hi : Int) (w : World) :
 Calls Tryz.prog 132 #[.int .i64 n, .int .i64 lo, .int .i64 hi] w fun r w' => r = .returned (.bool (decide (lo ≤ n ∧ n ≤ hi))) ∧ w' = w := by
 rw [show decide (lo ≤ n ∧ n ≤ hi) = (decide (lo ≤ n) && decide (n ≤ hi)) by simp]
 cases h1 : decide (lo ≤ n)
 ·go_enter Tryz.func132, Tryz.ntmps132
  go_wp2_with fail
  go_ret
  exact ⟨rfl, rfl⟩
 ·go_enter Tryz.func132, Tryz.ntmps132
  go_wp2_with fail
  go_ret
  exact ⟨ret_bool (by simp), rfl⟩
theorem chk1 (g c a v m : Int) (s o : Bool) : chk ⟨1, g, c, a, v, m, s, o⟩ = if s = false ∧ o = false ∧ (0 ≤ g ∧ g ≤ 511) ∧ c = -1 ∧ a = -1 ∧ (0 ≤ v ∧ v ≤ 7) ∧ (0 ≤ m ∧ m ≤ 511) then 0 else 4 := by
 unfold chk
 rw [if_neg (by show ¬ ((1 : Int) < 1 ∨ 13 < (1 : Int)); decide)]
 have h : ((ff ⟨1, g, c, a, v, m, s, o⟩ && okF ⟨1, g, c, a, v, m, s, o⟩) = true) ↔ (s = false ∧ o = false ∧ (0 ≤ g ∧ g ≤ 511) ∧ c = -1 ∧ a = -1 ∧ (0 ≤ v ∧ v ≤ 7) ∧ (0 ≤ m ∧ m ≤ 511)) := by
  cases s <;> cases o <;> simp [ff, okF, okA, spn, inS, fl, nth, List.range, List.range.loop] <;> (try split) <;> (try simp) <;> omega
 by_cases q : s = false ∧ o = false ∧ (0 ≤ g ∧ g ≤ 511) ∧ c = -1 ∧ a = -1 ∧ (0 ≤ v ∧ v ≤ 7) ∧ (0 ≤ m ∧ m ≤ 511)
 ·rw [if_pos q, if_pos (h.2 q)]
 ·rw [if_neg q, if_neg (fun z => q (h.1 z))]
theorem chk2 (g c a v m : Int) (s o : Bool) : chk ⟨2, g, c, a, v, m, s, o⟩ = if s = false ∧ o = false ∧ (0 ≤ g ∧ g ≤ 511) ∧ (0 ≤ c ∧ c ≤ 511) ∧ a = -1 ∧ (0 ≤ v ∧ v ≤ 4) ∧ m = -1 then 0 else 4 := by
 unfold chk
 rw [if_neg (by show ¬ ((2 : Int) < 1 ∨ 13 < (2 : Int)); decide)]
 have h : ((ff ⟨2, g, c, a, v, m, s, o⟩ && okF ⟨2, g, c, a, v, m, s, o⟩) = true) ↔ (s = false ∧ o = false ∧ (0 ≤ g ∧ g ≤ 511) ∧ (0 ≤ c ∧ c ≤ 511) ∧ a = -1 ∧ (0 ≤ v ∧ v ≤ 4) ∧ m = -1) := by
  cases s <;> cases o <;> simp [ff, okF, okA, spn, inS, fl, nth, List.range, List.range.loop] <;> (try split) <;> (try simp) <;> omega
 by_cases q : s = false ∧ o = false ∧ (0 ≤ g ∧ g ≤ 511) ∧ (0 ≤ c ∧ c ≤ 511) ∧ a = -1 ∧ (0 ≤ v ∧ v ≤ 4) ∧ m = -1
 ·rw [if_pos q, if_pos (h.2 q)]
 ·rw [if_neg q, if_neg (fun z => q (h.1 z))]
theorem chk3 (g c a v m : Int) (s o : Bool) : chk ⟨3, g, c, a, v, m, s, o⟩ = if s = true ∧ o = false ∧ (0 ≤ g ∧ g ≤ 511) ∧ (0 ≤ c ∧ c ≤ 511) ∧ (-1 ≤ a ∧ a ≤ 3) ∧ (0 ≤ v ∧ v ≤ 99) ∧ (-1 ≤ m ∧ m ≤ 511) then 0 else 4 := by
 unfold chk
 rw [if_neg (by show ¬ ((3 : Int) < 1 ∨ 13 < (3 : Int)); decide)]
 have h : ((ff ⟨3, g, c, a, v, m, s, o⟩ && okF ⟨3, g, c, a, v, m, s, o⟩) = true) ↔ (s = true ∧ o = false ∧ (0 ≤ g ∧ g ≤ 511) ∧ (0 ≤ c ∧ c ≤ 511) ∧ (-1 ≤ a ∧ a ≤ 3) ∧ (0 ≤ v ∧ v ≤ 99) ∧ (-1 ≤ m ∧ m ≤ 511)) := by
  cases s <;> cases o <;> simp [ff, okF, okA, spn, inS, fl, nth, vm, ml, mh, List.range, List.range.loop] <;> (try split) <;> (try simp) <;> omega
 by_cases q : s = true ∧ o = false ∧ (0 ≤ g ∧ g ≤ 511) ∧ (0 ≤ c ∧ c ≤ 511) ∧ (-1 ≤ a ∧ a ≤ 3) ∧ (0 ≤ v ∧ v ≤ 99) ∧ (-1 ≤ m ∧ m ≤ 511)
 ·rw [if_pos q, if_pos (h.2 q)]
 ·rw [if_neg q, if_neg (fun z => q (h.1 z))]
theorem chk4 (g c a v m : Int) (s o : Bool) : chk ⟨4, g, c, a, v, m, s, o⟩ = if s = false ∧ (0 ≤ g ∧ g ≤ 511) ∧ (0 ≤ c ∧ c ≤ 511) ∧ (-1 ≤ a ∧ a ≤ 3) ∧ (0 ≤ v ∧ v ≤ 99) ∧ (-1 ≤ m ∧ m ≤ 511) ∧ (o = true ∨ v = 0 ∧ m = -1) then 0 else 4 := by
 unfold chk
 rw [if_neg (by show ¬ ((4 : Int) < 1 ∨ 13 < (4 : Int)); decide)]
 have h : ((ff ⟨4, g, c, a, v, m, s, o⟩ && okF ⟨4, g, c, a, v, m, s, o⟩) = true) ↔ (s = false ∧ (0 ≤ g ∧ g ≤ 511) ∧ (0 ≤ c ∧ c ≤ 511) ∧ (-1 ≤ a ∧ a ≤ 3) ∧ (0 ≤ v ∧ v ≤ 99) ∧ (-1 ≤ m ∧ m ≤ 511) ∧ (o = true ∨ v = 0 ∧ m = -1)) := by
  cases s <;> cases o <;> simp [ff, okF, okA, spn, inS, fl, nth, vm, ml, mh, List.range, List.range.loop] <;> (try split) <;> (try simp) <;> omega
 by_cases q : s = false ∧ (0 ≤ g ∧ g ≤ 511) ∧ (0 ≤ c ∧ c ≤ 511) ∧ (-1 ≤ a ∧ a ≤ 3) ∧ (0 ≤ v ∧ v ≤ 99) ∧ (-1 ≤ m ∧ m ≤ 511) ∧ (o = true ∨ v = 0 ∧ m = -1)
 ·rw [if_pos q, if_pos (h.2 q)]
 ·rw [if_neg q, if_neg (fun z => q (h.1 z))]
theorem chk5 (g c a v m : Int) (s o : Bool) : chk ⟨5, g, c, a, v, m, s, o⟩ = if s = false ∧ o = false ∧ (0 ≤ g ∧ g ≤ 511) ∧ (0 ≤ c ∧ c ≤ 511) ∧ a = -1 ∧ v = -1 ∧ m = -1 then 0 else 4 := by
 unfold chk
 rw [if_neg (by show ¬ ((5 : Int) < 1 ∨ 13 < (5 : Int)); decide)]
 have h : ((ff ⟨5, g, c, a, v, m, s, o⟩ && okF ⟨5, g, c, a, v, m, s, o⟩) = true) ↔ (s = false ∧ o = false ∧ (0 ≤ g ∧ g ≤ 511) ∧ (0 ≤ c ∧ c ≤ 511) ∧ a = -1 ∧ v = -1 ∧ m = -1) := by
  cases s <;> cases o <;> simp [ff, okF, okA, spn, inS, fl, nth, List.range, List.range.loop] <;> (try split) <;> (try simp) <;> omega
 by_cases q : s = false ∧ o = false ∧ (0 ≤ g ∧ g ≤ 511) ∧ (0 ≤ c ∧ c ≤ 511) ∧ a = -1 ∧ v = -1 ∧ m = -1
 ·rw [if_pos q, if_pos (h.2 q)]
 ·rw [if_neg q, if_neg (fun z => q (h.1 z))]
theorem chk6 (g c a v m : Int) (s o : Bool) : chk ⟨6, g, c, a, v, m, s, o⟩ = if o = false ∧ (0 ≤ g ∧ g ≤ 511) ∧ (a = -1 ∧ (-1 ≤ c ∧ c ≤ 511) ∧ (s = true ∧ (0 ≤ v ∧ v ≤ 99) ∨ s = false ∧ v = 0) ∨ (0 ≤ a ∧ a ≤ 4) ∧ c = -1 ∧ s = false ∧ v = 0) ∧ m = -1 then 0 else 4 := by
 unfold chk
 rw [if_neg (by show ¬ ((6 : Int) < 1 ∨ 13 < (6 : Int)); decide)]
 have h : ((ff ⟨6, g, c, a, v, m, s, o⟩ && okF ⟨6, g, c, a, v, m, s, o⟩) = true) ↔ (o = false ∧ (0 ≤ g ∧ g ≤ 511) ∧ (a = -1 ∧ (-1 ≤ c ∧ c ≤ 511) ∧ (s = true ∧ (0 ≤ v ∧ v ≤ 99) ∨ s = false ∧ v = 0) ∨ (0 ≤ a ∧ a ≤ 4) ∧ c = -1 ∧ s = false ∧ v = 0) ∧ m = -1) := by
  cases s <;> cases o <;> simp [ff, okF, okA, spn, inS, fl, nth, vm, List.range, List.range.loop] <;> (try split) <;> (try simp) <;> omega
 by_cases q : o = false ∧ (0 ≤ g ∧ g ≤ 511) ∧ (a = -1 ∧ (-1 ≤ c ∧ c ≤ 511) ∧ (s = true ∧ (0 ≤ v ∧ v ≤ 99) ∨ s = false ∧ v = 0) ∨ (0 ≤ a ∧ a ≤ 4) ∧ c = -1 ∧ s = false ∧ v = 0) ∧ m = -1
 ·rw [if_pos q, if_pos (h.2 q)]
 ·rw [if_neg q, if_neg (fun z => q (h.1 z))]
theorem chk7 (g c a v m : Int) (s o : Bool) : chk ⟨7, g, c, a, v, m, s, o⟩ = if (0 ≤ g ∧ g ≤ 511) ∧ (0 ≤ c ∧ c ≤ 511) ∧ (-1 ≤ a ∧ a ≤ 3) ∧ (0 ≤ v ∧ v ≤ 99) ∧ (0 ≤ m ∧ m ≤ 511) ∧ (o = true ∨ s = false ∧ v = 0) then 0 else 4 := by
 unfold chk
 rw [if_neg (by show ¬ ((7 : Int) < 1 ∨ 13 < (7 : Int)); decide)]
 have h : ((ff ⟨7, g, c, a, v, m, s, o⟩ && okF ⟨7, g, c, a, v, m, s, o⟩) = true) ↔ ((0 ≤ g ∧ g ≤ 511) ∧ (0 ≤ c ∧ c ≤ 511) ∧ (-1 ≤ a ∧ a ≤ 3) ∧ (0 ≤ v ∧ v ≤ 99) ∧ (0 ≤ m ∧ m ≤ 511) ∧ (o = true ∨ s = false ∧ v = 0)) := by
  cases s <;> cases o <;> simp [ff, okF, okA, spn, inS, fl, nth, vm, ml, mh, List.range, List.range.loop] <;> (try split) <;> (try simp) <;> omega
 by_cases q : (0 ≤ g ∧ g ≤ 511) ∧ (0 ≤ c ∧ c ≤ 511) ∧ (-1 ≤ a ∧ a ≤ 3) ∧ (0 ≤ v ∧ v ≤ 99) ∧ (0 ≤ m ∧ m ≤ 511) ∧ (o = true ∨ s = false ∧ v = 0)
 ·rw [if_pos q, if_pos (h.2 q)]
 ·rw [if_neg q, if_neg (fun z => q (h.1 z))]
theorem chk8 (g c a v m : Int) (s o : Bool) : chk ⟨8, g, c, a, v, m, s, o⟩ = if s = false ∧ o = false ∧ (0 ≤ g ∧ g ≤ 511) ∧ c = -1 ∧ a = -1 ∧ v = -1 ∧ m = -1 then 0 else 4 := by
 unfold chk
 rw [if_neg (by show ¬ ((8 : Int) < 1 ∨ 13 < (8 : Int)); decide)]
 have h : ((ff ⟨8, g, c, a, v, m, s, o⟩ && okF ⟨8, g, c, a, v, m, s, o⟩) = true) ↔ (s = false ∧ o = false ∧ (0 ≤ g ∧ g ≤ 511) ∧ c = -1 ∧ a = -1 ∧ v = -1 ∧ m = -1) := by
  cases s <;> cases o <;> simp [ff, okF, okA, spn, inS, fl, nth, List.range, List.range.loop] <;> (try split) <;> (try simp) <;> omega
 by_cases q : s = false ∧ o = false ∧ (0 ≤ g ∧ g ≤ 511) ∧ c = -1 ∧ a = -1 ∧ v = -1 ∧ m = -1
 ·rw [if_pos q, if_pos (h.2 q)]
 ·rw [if_neg q, if_neg (fun z => q (h.1 z))]
theorem chk9 (g c a v m : Int) (s o : Bool) : chk ⟨9, g, c, a, v, m, s, o⟩ = if s = false ∧ o = false ∧ (0 ≤ g ∧ g ≤ 511) ∧ c = -1 ∧ a = -1 ∧ (0 ≤ v ∧ v ≤ 7) ∧ m = -1 then 0 else 4 := by
 unfold chk
 rw [if_neg (by show ¬ ((9 : Int) < 1 ∨ 13 < (9 : Int)); decide)]
 have h : ((ff ⟨9, g, c, a, v, m, s, o⟩ && okF ⟨9, g, c, a, v, m, s, o⟩) = true) ↔ (s = false ∧ o = false ∧ (0 ≤ g ∧ g ≤ 511) ∧ c = -1 ∧ a = -1 ∧ (0 ≤ v ∧ v ≤ 7) ∧ m = -1) := by
  cases s <;> cases o <;> simp [ff, okF, okA, spn, inS, fl, nth, List.range, List.range.loop] <;> (try split) <;> (try simp) <;> omega
 by_cases q : s = false ∧ o = false ∧ (0 ≤ g ∧ g ≤ 511) ∧ c = -1 ∧ a = -1 ∧ (0 ≤ v ∧ v ≤ 7) ∧ m = -1
 ·rw [if_pos q, if_pos (h.2 q)]
 ·rw [if_neg q, if_neg (fun z => q (h.1 z))]
theorem chk10 (g c a v m : Int) (s o : Bool) : chk ⟨10, g, c, a, v, m, s, o⟩ = if s = false ∧ o = false ∧ (0 ≤ g ∧ g ≤ 511) ∧ c = -1 ∧ a = -1 ∧ (0 ≤ v ∧ v ≤ 7) ∧ m = -1 then 0 else 4 := by
 unfold chk
 rw [if_neg (by show ¬ ((10 : Int) < 1 ∨ 13 < (10 : Int)); decide)]
 have h : ((ff ⟨10, g, c, a, v, m, s, o⟩ && okF ⟨10, g, c, a, v, m, s, o⟩) = true) ↔ (s = false ∧ o = false ∧ (0 ≤ g ∧ g ≤ 511) ∧ c = -1 ∧ a = -1 ∧ (0 ≤ v ∧ v ≤ 7) ∧ m = -1) := by
  cases s <;> cases o <;> simp [ff, okF, okA, spn, inS, fl, nth, List.range, List.range.loop] <;> (try split) <;> (try simp) <;> omega
 by_cases q : s = false ∧ o = false ∧ (0 ≤ g ∧ g ≤ 511) ∧ c = -1 ∧ a = -1 ∧ (0 ≤ v ∧ v ≤ 7) ∧ m = -1
 ·rw [if_pos q, if_pos (h.2 q)]
 ·rw [if_neg q, if_neg (fun z => q (h.1 z))]
theorem chk11 (g c a v m : Int) (s o : Bool) : chk ⟨11, g, c, a, v, m, s, o⟩ = if s = false ∧ o = false ∧ (0 ≤ g ∧ g ≤ 511) ∧ c = -1 ∧ a = -1 ∧ v = -1 ∧ m = -1 then 0 else 4 := by
 unfold chk
 rw [if_neg (by show ¬ ((11 : Int) < 1 ∨ 13 < (11 : Int)); decide)]
 have h : ((ff ⟨11, g, c, a, v, m, s, o⟩ && okF ⟨11, g, c, a, v, m, s, o⟩) = true) ↔ (s = false ∧ o = false ∧ (0 ≤ g ∧ g ≤ 511) ∧ c = -1 ∧ a = -1 ∧ v = -1 ∧ m = -1) := by
  cases s <;> cases o <;> simp [ff, okF, okA, spn, inS, fl, nth, List.range, List.range.loop] <;> (try split) <;> (try simp) <;> omega
 by_cases q : s = false ∧ o = false ∧ (0 ≤ g ∧ g ≤ 511) ∧ c = -1 ∧ a = -1 ∧ v = -1 ∧ m = -1
 ·rw [if_pos q, if_pos (h.2 q)]
 ·rw [if_neg q, if_neg (fun z => q (h.1 z))]
theorem chk12 (g c a v m : Int) (s o : Bool) : chk ⟨12, g, c, a, v, m, s, o⟩ = if s = false ∧ o = false ∧ (0 ≤ g ∧ g ≤ 511) ∧ c = -1 ∧ a = -1 ∧ v = -1 ∧ m = -1 then 0 else 4 := by
 unfold chk
 rw [if_neg (by show ¬ ((12 : Int) < 1 ∨ 13 < (12 : Int)); decide)]
 have h : ((ff ⟨12, g, c, a, v, m, s, o⟩ && okF ⟨12, g, c, a, v, m, s, o⟩) = true) ↔ (s = false ∧ o = false ∧ (0 ≤ g ∧ g ≤ 511) ∧ c = -1 ∧ a = -1 ∧ v = -1 ∧ m = -1) := by
  cases s <;> cases o <;> simp [ff, okF, okA, spn, inS, fl, nth, List.range, List.range.loop] <;> (try split) <;> (try simp) <;> omega
 by_cases q : s = false ∧ o = false ∧ (0 ≤ g ∧ g ≤ 511) ∧ c = -1 ∧ a = -1 ∧ v = -1 ∧ m = -1
 ·rw [if_pos q, if_pos (h.2 q)]
 ·rw [if_neg q, if_neg (fun z => q (h.1 z))]
theorem chk13 (g c a v m : Int) (s o : Bool) : chk ⟨13, g, c, a, v, m, s, o⟩ = if s = false ∧ o = false ∧ g = -1 ∧ c = -1 ∧ a = -1 ∧ v = -1 ∧ m = -1 then 0 else 4 := by
 unfold chk
 rw [if_neg (by show ¬ ((13 : Int) < 1 ∨ 13 < (13 : Int)); decide)]
 have h : ((ff ⟨13, g, c, a, v, m, s, o⟩ && okF ⟨13, g, c, a, v, m, s, o⟩) = true) ↔ (s = false ∧ o = false ∧ g = -1 ∧ c = -1 ∧ a = -1 ∧ v = -1 ∧ m = -1) := by
  cases s <;> cases o <;> simp [ff, okF, okA, spn, inS, fl, nth, List.range, List.range.loop] <;> (try split) <;> (try simp) <;> omega
 by_cases q : s = false ∧ o = false ∧ g = -1 ∧ c = -1 ∧ a = -1 ∧ v = -1 ∧ m = -1
 ·rw [if_pos q, if_pos (h.2 q)]
 ·rw [if_neg q, if_neg (fun z => q (h.1 z))]
end En
end Go.Proofs.YtblfimobiibmjaaGreat
namespace Go.Proofs.YtblfimobiibmjaaGreat
open Go.ChangeShapes Go.WideShapes Go.ChangeAt Go.RowKit
namespace En
open Ba Re
set_option maxRecDepth 100000 in
set_option maxHeartbeats 12800000 in
theorem rk8 (g c a v m : Int) (s o : Bool) (w : World) :
 Calls Tryz.prog 72 #[.agg #[.int .i64 8, .int .i64 g, .int .i64 c, .int .i64 a, .int .i64 v, .int .i64 m, .bool s, .bool o]] w fun r w' => r = .returned (.int .i64 (chk ⟨8, g, c, a, v, m, s, o⟩)) ∧ Below w.heap.size w w' := by
 go_enter Tryz.func72, Tryz.ntmps72
 go_wp2_with (go_at_call 132; refine (within_any _ _ _ _).mono ?_; rintro r w' ⟨rfl, rfl⟩)
 all_goals
  go_ret
  refine ⟨ret_int ?_, below_alloc _ _⟩
  rw [chk8]
  split <;> first | rfl | (exfalso; simp_all <;> omega)
set_option maxRecDepth 100000 in
set_option maxHeartbeats 12800000 in
theorem rk11 (g c a v m : Int) (s o : Bool) (w : World) :
 Calls Tryz.prog 72 #[.agg #[.int .i64 11, .int .i64 g, .int .i64 c, .int .i64 a, .int .i64 v, .int .i64 m, .bool s, .bool o]] w fun r w' => r = .returned (.int .i64 (chk ⟨11, g, c, a, v, m, s, o⟩)) ∧ Below w.heap.size w w' := by
 go_enter Tryz.func72, Tryz.ntmps72
 go_wp2_with (go_at_call 132; refine (within_any _ _ _ _).mono ?_; rintro r w' ⟨rfl, rfl⟩)
 all_goals
  go_ret
  refine ⟨ret_int ?_, below_alloc _ _⟩
  rw [chk11]
  split <;> first | rfl | (exfalso; simp_all <;> omega)
set_option maxRecDepth 100000 in
set_option maxHeartbeats 12800000 in
theorem rk12 (g c a v m : Int) (s o : Bool) (w : World) :
 Calls Tryz.prog 72 #[.agg #[.int .i64 12, .int .i64 g, .int .i64 c, .int .i64 a, .int .i64 v, .int .i64 m, .bool s, .bool o]] w fun r w' => r = .returned (.int .i64 (chk ⟨12, g, c, a, v, m, s, o⟩)) ∧ Below w.heap.size w w' := by
 go_enter Tryz.func72, Tryz.ntmps72
 go_wp2_with (go_at_call 132; refine (within_any _ _ _ _).mono ?_; rintro r w' ⟨rfl, rfl⟩)
 all_goals
  go_ret
  refine ⟨ret_int ?_, below_alloc _ _⟩
  rw [chk12]
  split <;> first | rfl | (exfalso; simp_all <;> omega)
end En
end Go.Proofs.YtblfimobiibmjaaGreat
namespace Go.Proofs.YtblfimobiibmjaaGreat
open Go.ChangeShapes Go.WideShapes Go.ChangeAt Go.RowKit
namespace En
open Ba Re
set_option maxRecDepth 100000 in
set_option maxHeartbeats 12800000 in
theorem rk1 (g c a v m : Int) (s o : Bool) (w : World) :
 Calls Tryz.prog 72 #[.agg #[.int .i64 1, .int .i64 g, .int .i64 c, .int .i64 a, .int .i64 v, .int .i64 m, .bool s, .bool o]] w fun r w' => r = .returned (.int .i64 (chk ⟨1, g, c, a, v, m, s, o⟩)) ∧ Below w.heap.size w w' := by
 go_enter Tryz.func72, Tryz.ntmps72
 go_wp2_with (go_at_call 132; refine (within_any _ _ _ _).mono ?_; rintro r w' ⟨rfl, rfl⟩)
 all_goals
  go_ret
  refine ⟨ret_int ?_, below_alloc _ _⟩
  rw [chk1]
  split <;> first | rfl | (exfalso; simp_all <;> omega)
set_option maxRecDepth 100000 in
set_option maxHeartbeats 12800000 in
theorem rk2 (g c a v m : Int) (s o : Bool) (w : World) :
 Calls Tryz.prog 72 #[.agg #[.int .i64 2, .int .i64 g, .int .i64 c, .int .i64 a, .int .i64 v, .int .i64 m, .bool s, .bool o]] w fun r w' => r = .returned (.int .i64 (chk ⟨2, g, c, a, v, m, s, o⟩)) ∧ Below w.heap.size w w' := by
 go_enter Tryz.func72, Tryz.ntmps72
 go_wp2_with (go_at_call 132; refine (within_any _ _ _ _).mono ?_; rintro r w' ⟨rfl, rfl⟩)
 all_goals
  go_ret
  refine ⟨ret_int ?_, below_alloc _ _⟩
  rw [chk2]
  split <;> first | rfl | (exfalso; simp_all <;> omega)
set_option maxRecDepth 100000 in
set_option maxHeartbeats 12800000 in
theorem rk5 (g c a v m : Int) (s o : Bool) (w : World) :
 Calls Tryz.prog 72 #[.agg #[.int .i64 5, .int .i64 g, .int .i64 c, .int .i64 a, .int .i64 v, .int .i64 m, .bool s, .bool o]] w fun r w' => r = .returned (.int .i64 (chk ⟨5, g, c, a, v, m, s, o⟩)) ∧ Below w.heap.size w w' := by
 go_enter Tryz.func72, Tryz.ntmps72
 go_wp2_with (go_at_call 132; refine (within_any _ _ _ _).mono ?_; rintro r w' ⟨rfl, rfl⟩)
 all_goals
  go_ret
  refine ⟨ret_int ?_, below_alloc _ _⟩
  rw [chk5]
  split <;> first | rfl | (exfalso; simp_all <;> omega)
end En
end Go.Proofs.YtblfimobiibmjaaGreat
namespace Go.Proofs.YtblfimobiibmjaaGreat
open Go.ChangeShapes Go.WideShapes Go.ChangeAt Go.RowKit
namespace En
open Ba Re
set_option maxRecDepth 100000 in
set_option maxHeartbeats 12800000 in
theorem rk9 (g c a v m : Int) (s o : Bool) (w : World) :
 Calls Tryz.prog 72 #[.agg #[.int .i64 9, .int .i64 g, .int .i64 c, .int .i64 a, .int .i64 v, .int .i64 m, .bool s, .bool o]] w fun r w' => r = .returned (.int .i64 (chk ⟨9, g, c, a, v, m, s, o⟩)) ∧ Below w.heap.size w w' := by
 go_enter Tryz.func72, Tryz.ntmps72
 go_wp2_with (go_at_call 132; refine (within_any _ _ _ _).mono ?_; rintro r w' ⟨rfl, rfl⟩)
 all_goals
  go_ret
  refine ⟨ret_int ?_, below_alloc _ _⟩
  rw [chk9]
  split <;> first | rfl | (exfalso; simp_all <;> omega)
set_option maxRecDepth 100000 in
set_option maxHeartbeats 12800000 in
theorem rk10 (g c a v m : Int) (s o : Bool) (w : World) :
 Calls Tryz.prog 72 #[.agg #[.int .i64 10, .int .i64 g, .int .i64 c, .int .i64 a, .int .i64 v, .int .i64 m, .bool s, .bool o]] w fun r w' => r = .returned (.int .i64 (chk ⟨10, g, c, a, v, m, s, o⟩)) ∧ Below w.heap.size w w' := by
 go_enter Tryz.func72, Tryz.ntmps72
 go_wp2_with (go_at_call 132; refine (within_any _ _ _ _).mono ?_; rintro r w' ⟨rfl, rfl⟩)
 all_goals
  go_ret
  refine ⟨ret_int ?_, below_alloc _ _⟩
  rw [chk10]
  split <;> first | rfl | (exfalso; simp_all <;> omega)
set_option maxRecDepth 100000 in
set_option maxHeartbeats 12800000 in
theorem rk13 (g c a v m : Int) (s o : Bool) (w : World) :
 Calls Tryz.prog 72 #[.agg #[.int .i64 13, .int .i64 g, .int .i64 c, .int .i64 a, .int .i64 v, .int .i64 m, .bool s, .bool o]] w fun r w' => r = .returned (.int .i64 (chk ⟨13, g, c, a, v, m, s, o⟩)) ∧ Below w.heap.size w w' := by
 go_enter Tryz.func72, Tryz.ntmps72
 go_wp2_with (go_at_call 132; refine (within_any _ _ _ _).mono ?_; rintro r w' ⟨rfl, rfl⟩)
 all_goals
  go_ret
  refine ⟨ret_int ?_, below_alloc _ _⟩
  rw [chk13]
  split <;> first | rfl | (exfalso; simp_all <;> omega)
end En
end Go.Proofs.YtblfimobiibmjaaGreat
namespace Go.Proofs.YtblfimobiibmjaaGreat
open Go.ChangeShapes Go.WideShapes Go.ChangeAt Go.RowKit
namespace En
open Ba Re
set_option maxRecDepth 100000 in
set_option maxHeartbeats 12800000 in
theorem rk3 (g c a v m : Int) (s o : Bool) (w : World) :
 Calls Tryz.prog 72 #[.agg #[.int .i64 3, .int .i64 g, .int .i64 c, .int .i64 a, .int .i64 v, .int .i64 m, .bool s, .bool o]] w fun r w' => r = .returned (.int .i64 (chk ⟨3, g, c, a, v, m, s, o⟩)) ∧ Below w.heap.size w w' := by
 go_enter Tryz.func72, Tryz.ntmps72
 go_wp2_with (go_at_call 132; refine (within_any _ _ _ _).mono ?_; rintro r w' ⟨rfl, rfl⟩)
 all_goals
  go_ret
  refine ⟨ret_int ?_, below_alloc _ _⟩
  rw [chk3]
  split <;> first | rfl | (exfalso; simp_all <;> omega)
end En
end Go.Proofs.YtblfimobiibmjaaGreat
namespace Go.Proofs.YtblfimobiibmjaaGreat
open Go.ChangeShapes Go.WideShapes Go.ChangeAt Go.RowKit
namespace En
open Ba Re
set_option maxRecDepth 100000 in
set_option maxHeartbeats 12800000 in
theorem rk4 (g c a v m : Int) (s o : Bool) (w : World) :
 Calls Tryz.prog 72 #[.agg #[.int .i64 4, .int .i64 g, .int .i64 c, .int .i64 a, .int .i64 v, .int .i64 m, .bool s, .bool o]] w fun r w' => r = .returned (.int .i64 (chk ⟨4, g, c, a, v, m, s, o⟩)) ∧ Below w.heap.size w w' := by
 go_enter Tryz.func72, Tryz.ntmps72
 go_wp2_with (go_at_call 132; refine (within_any _ _ _ _).mono ?_; rintro r w' ⟨rfl, rfl⟩)
 all_goals
  go_ret
  refine ⟨ret_int ?_, below_alloc _ _⟩
  rw [chk4]
  split <;> first | rfl | (exfalso; simp_all <;> omega)
end En
end Go.Proofs.YtblfimobiibmjaaGreat
namespace Go.Proofs.YtblfimobiibmjaaGreat
open Go.ChangeShapes Go.WideShapes Go.ChangeAt Go.RowKit
namespace En
open Ba Re
set_option maxRecDepth 100000 in
set_option maxHeartbeats 12800000 in
theorem rk6ff (g c a v m : Int) (w : World) :
 Calls Tryz.prog 72 #[.agg #[.int .i64 6, .int .i64 g, .int .i64 c, .int .i64 a, .int .i64 v, .int .i64 m, .bool false, .bool false]] w fun r w' => r = .returned (.int .i64 (chk ⟨6, g, c, a, v, m, false, false⟩)) ∧ Below w.heap.size w w' := by
 go_enter Tryz.func72, Tryz.ntmps72
 go_wp2_with (go_at_call 132; refine (within_any _ _ _ _).mono ?_; rintro r w' ⟨rfl, rfl⟩)
 all_goals
  go_ret
  refine ⟨ret_int ?_, below_alloc _ _⟩
  rw [chk6]
  first
   | (refine (if_pos ?_).symm; simp_all; done)
   | (refine (if_pos ?_).symm; simp_all; omega)
   | (refine (if_neg ?_).symm; simp_all; done)
   | (refine (if_neg ?_).symm; simp_all; omega)
   | (split <;> first | rfl | (exfalso; simp_all <;> omega))
set_option maxRecDepth 100000 in
set_option maxHeartbeats 12800000 in
theorem rk6ft (g c a v m : Int) (w : World) :
 Calls Tryz.prog 72 #[.agg #[.int .i64 6, .int .i64 g, .int .i64 c, .int .i64 a, .int .i64 v, .int .i64 m, .bool false, .bool true]] w fun r w' => r = .returned (.int .i64 (chk ⟨6, g, c, a, v, m, false, true⟩)) ∧ Below w.heap.size w w' := by
 go_enter Tryz.func72, Tryz.ntmps72
 go_wp2_with (go_at_call 132; refine (within_any _ _ _ _).mono ?_; rintro r w' ⟨rfl, rfl⟩)
 all_goals
  go_ret
  refine ⟨ret_int ?_, below_alloc _ _⟩
  rw [chk6]
  first
   | (refine (if_pos ?_).symm; simp_all; done)
   | (refine (if_pos ?_).symm; simp_all; omega)
   | (refine (if_neg ?_).symm; simp_all; done)
   | (refine (if_neg ?_).symm; simp_all; omega)
   | (split <;> first | rfl | (exfalso; simp_all <;> omega))
end En
end Go.Proofs.YtblfimobiibmjaaGreat
namespace Go.Proofs.YtblfimobiibmjaaGreat
open Go.ChangeShapes Go.WideShapes Go.ChangeAt Go.RowKit
namespace En
open Ba Re
set_option maxRecDepth 100000 in
set_option maxHeartbeats 12800000 in
theorem rk7 (g c a v m : Int) (s o : Bool) (w : World) :
 Calls Tryz.prog 72 #[.agg #[.int .i64 7, .int .i64 g, .int .i64 c, .int .i64 a, .int .i64 v, .int .i64 m, .bool s, .bool o]] w fun r w' => r = .returned (.int .i64 (chk ⟨7, g, c, a, v, m, s, o⟩)) ∧ Below w.heap.size w w' := by
 go_enter Tryz.func72, Tryz.ntmps72
 go_wp2_with (go_at_call 132; refine (within_any _ _ _ _).mono ?_; rintro r w' ⟨rfl, rfl⟩)
 all_goals
  go_ret
  refine ⟨ret_int ?_, below_alloc _ _⟩
  rw [chk7]
  split <;> first | rfl | (exfalso; simp_all <;> omega)
end En
end Go.Proofs.YtblfimobiibmjaaGreat
namespace Go.Proofs.YtblfimobiibmjaaGreat
open Go.ChangeShapes Go.WideShapes Go.ChangeAt Go.RowKit
namespace En
open Ba Re
set_option maxRecDepth 100000 in
set_option maxHeartbeats 12800000 in
theorem rk6tf (g c a v m : Int) (w : World) :
 Calls Tryz.prog 72 #[.agg #[.int .i64 6, .int .i64 g, .int .i64 c, .int .i64 a, .int .i64 v, .int .i64 m, .bool true, .bool false]] w fun r w' => r = .returned (.int .i64 (chk ⟨6, g, c, a, v, m, true, false⟩)) ∧ Below w.heap.size w w' := by
 go_enter Tryz.func72, Tryz.ntmps72
 go_wp2_with (go_at_call 132; refine (within_any _ _ _ _).mono ?_; rintro r w' ⟨rfl, rfl⟩)
 all_goals
  go_ret
  refine ⟨ret_int ?_, below_alloc _ _⟩
  rw [chk6]
  first
   | (refine (if_pos ?_).symm; simp_all; done)
   | (refine (if_pos ?_).symm; simp_all; omega)
   | (refine (if_neg ?_).symm; simp_all; done)
   | (refine (if_neg ?_).symm; simp_all; omega)
   | (split <;> first | rfl | (exfalso; simp_all <;> omega))
set_option maxRecDepth 100000 in
set_option maxHeartbeats 12800000 in
theorem rk6tt (g c a v m : Int) (w : World) :
 Calls Tryz.prog 72 #[.agg #[.int .i64 6, .int .i64 g, .int .i64 c, .int .i64 a, .int .i64 v, .int .i64 m, .bool true, .bool true]] w fun r w' => r = .returned (.int .i64 (chk ⟨6, g, c, a, v, m, true, true⟩)) ∧ Below w.heap.size w w' := by
 go_enter Tryz.func72, Tryz.ntmps72
 go_wp2_with (go_at_call 132; refine (within_any _ _ _ _).mono ?_; rintro r w' ⟨rfl, rfl⟩)
 all_goals
  go_ret
  refine ⟨ret_int ?_, below_alloc _ _⟩
  rw [chk6]
  first
   | (refine (if_pos ?_).symm; simp_all; done)
   | (refine (if_pos ?_).symm; simp_all; omega)
   | (refine (if_neg ?_).symm; simp_all; done)
   | (refine (if_neg ?_).symm; simp_all; omega)
   | (split <;> first | rfl | (exfalso; simp_all <;> omega))
end En
end Go.Proofs.YtblfimobiibmjaaGreat
namespace Go.Proofs.YtblfimobiibmjaaGreat
open Go.ChangeShapes Go.WideShapes Go.ChangeAt Go.RowKit
namespace En
open Ba Re
set_option maxRecDepth 100000 in
set_option maxHeartbeats 1600000 in
theorem rcheck_any (e : Ev) (w : World) :
 Calls Tryz.prog 72 #[evv e] w fun r w' => r = .returned (.int .i64 (chk e)) ∧ Below w.heap.size w w' := by
 obtain ⟨k, g, c, a, v, m, s, o⟩ := e
 unfold evv evc
 by_cases hk : k < 1 ∨ 13 < k
 ·have hc : chk ⟨k, g, c, a, v, m, s, o⟩ = 1 := by unfold chk; rw [if_pos hk]
  rw [hc]
  clear hc
  by_cases h1 : k < 1
  ·have d1 : decide (k < 1) = true := decide_eq_true h1
   clear hk
   go_enter Tryz.func72, Tryz.ntmps72
   go_wp2_with fail
   go_ret
   exact ⟨rfl, below_alloc _ _⟩
  ·have d1 : decide (k < 1) = false := decide_eq_false h1
   have d2 : decide (13 < k) = true := decide_eq_true (by omega)
   clear hk
   go_enter Tryz.func72, Tryz.ntmps72
   go_wp2_with fail
   go_ret
   exact ⟨rfl, below_alloc _ _⟩
 ·have hk : k = 1 ∨ k = 2 ∨ k = 3 ∨ k = 4 ∨ k = 5 ∨ k = 6 ∨ k = 7 ∨ k = 8 ∨ k = 9 ∨ k = 10 ∨ k = 11 ∨ k = 12 ∨ k = 13 := by omega
  rcases hk with rfl | rfl | rfl | rfl | rfl | rfl | rfl | rfl | rfl | rfl | rfl | rfl | rfl
  ·exact rk1 g c a v m s o w
  ·exact rk2 g c a v m s o w
  ·exact rk3 g c a v m s o w
  ·exact rk4 g c a v m s o w
  ·exact rk5 g c a v m s o w
  ·cases s <;> cases o
   ·exact rk6ff g c a v m w
   ·exact rk6ft g c a v m w
   ·exact rk6tf g c a v m w
   ·exact rk6tt g c a v m w
  ·exact rk7 g c a v m s o w
  ·exact rk8 g c a v m s o w
  ·exact rk9 g c a v m s o w
  ·exact rk10 g c a v m s o w
  ·exact rk11 g c a v m s o w
  ·exact rk12 g c a v m s o w
  ·exact rk13 g c a v m s o w
end En
end Go.Proofs.YtblfimobiibmjaaGreat
namespace Go.Proofs.YtblfimobiibmjaaGreat
open Go.ChangeShapes Go.WideShapes Go.ChangeAt Go.RowKit
namespace Gu
open En Ba
def Chk (l : List Ev) (n a : Int) : Prop :=
 (∃ (i : Nat) (e : Ev), l[i]? = some e ∧ ruleD l i e ≠ 0 ∧ n = ruleD l i e ∧ a = (i : Int) ∧ ∀ j, j < i → ∀ x, l[j]? = some x → ruleD l j x = 0) ∨
 ((∀ j x, l[j]? = some x → ruleD l j x = 0) ∧ (n, a) = if l.getLast?.any serves = true then (4, (l.length : Int)) else (0, 0))
theorem size_brk : (Tryz.prog.info? 77).map (·.size) = some 2 := by kernel_rfl
theorem loadVar_brk {w : World} {b : Nat} {c : Array Value} {t : TypeId} (h : w.heap[b]? = some (.cells c t (0, 0))) (hc : c.size = 2) : (loadVar 77 ⟨b, 0, none⟩).run Tryz.prog w = .ok (.agg c) w :=
 run_loadVar_row w b t _ _ _ _ h Tryz.underlying77 rfl (by rw [size_brk, hc])
theorem ruleD_of (l : List Ev) (i : Nat) (e : Ev) (b2 b3 b4 b5 b6 : Bool) (hi : i < 2000) (h2 : crew (l.take i) e = b2) (h3 : made (l.take i) e = b3) (h4 : served (l.take i).reverse e = b4) (h5 : ordered (inn l i e.c) e l[i + 1]? = b5) (h6 : closedF (inn l i e.c) e = b6) :
 ruleD l i e = if chk e ≠ 0 then 1 else if b2 = false then 2 else if b3 = false then 3 else if b4 = false then 4 else if b5 = false then 5 else if b6 = false then 6 else 0 := by
 unfold ruleD
 rw [h2, h3, h4, h5, h6]
 by_cases h : chk e ≠ 0
 ·rw [if_pos (.inr h), if_pos h]
 ·rw [if_neg (fun q => q.elim (fun q => by omega) h), if_neg h]
set_option maxRecDepth 100000 in
set_option maxHeartbeats 12800000 in
theorem rcheck14_any (oa : Option Addr) (l : List Ev) (c : Nat) (w : World) (hA : EsAt w oa l) (hl : l.length ≤ 2000) (hc : l.length ≤ c) :
 Calls Tryz.prog 39 #[.slice oa l.length c] w fun r w' => (∃ n a, r = .returned (.agg #[.int .i64 n, .int .i64 a]) ∧ Chk l n a) ∧ Below w.heap.size w w' := by
 have HA := hide hA
 clear hA
 obtain ⟨M, hM⟩ : ∃ M, l.length = M := ⟨_, rfl⟩
 have HM := hide hM
 have hl2 := hide hl
 have hc2 := hide hc
 rw [hM] at hl hc ⊢
 clear hM
 have R0 := hide (heap_new w (.cells #[.int .i64 0, .int .i64 0] 77))
 have B0 := hide (below_alloc w (.cells #[.int .i64 0, .int .i64 0] 77))
 go_enter Tryz.func39, Tryz.ntmps39
 go_wp2_with fail
 go_loopw [6] (fun i wr => ∃ k : Nat, k ≤ M ∧ i = .int .i64 (k : Int) ∧ (∀ j, j < k → ∀ x, l[j]? = some x → ruleD l j x = 0) ∧ wr.heap[w.heap.size]? = some (.cells #[.int .i64 0, .int .i64 0] 77 (0, 0)) ∧ Below w.heap.size w wr) (fun i _ => M - (intOf i).toNat)
 case atStart => exact ⟨0, Nat.zero_le _, rfl, fun j hj => absurd hj (Nat.not_lt_zero _), R0.out, B0.out⟩
 case round =>
  obtain ⟨k, hk, rfl, hall, rr, bl⟩ := hrel
  clear R0 B0
  have ALL := hide hall
  have RR0 := hide rr
  have BL0 := hide bl
  have ES0 := hide (HA.out.below bl)
  clear hall rr bl
  by_cases hlt : k < M
  ·have hlt' : (k : Int) < (M : Int) := by omega
   obtain ⟨x, hx⟩ : ∃ x, l[k]? = some x := ⟨_, List.getElem?_eq_getElem (by rw [HM.out]; omega)⟩
   have HX := hide hx
   obtain ⟨b1, o1, rfl, -⟩ := ES0.out k x hx
   obtain ⟨p0, p1, p2, p3, p4, p5, p6, p7⟩ := ES0.out.read hx
   have d0 : decide ((2000 : Int) ≤ (k : Int)) = false := by simp; omega
   have d00 : decide (2000 ≤ k) = false := by simp; omega
   obtain ⟨b2, h2⟩ : ∃ b, crew (l.take k) x = b := ⟨_, rfl⟩
   obtain ⟨b3, h3⟩ : ∃ b, made (l.take k) x = b := ⟨_, rfl⟩
   obtain ⟨b4, h4⟩ : ∃ b, served (l.take k).reverse x = b := ⟨_, rfl⟩
   obtain ⟨b5, h5⟩ : ∃ b, ordered (inn l k x.c) x l[k + 1]? = b := ⟨_, rfl⟩
   obtain ⟨b6, h6⟩ : ∃ b, closedF (inn l k x.c) x = b := ⟨_, rfl⟩
   have RD := hide (ruleD_of l k x b2 b3 b4 b5 b6 (by omega) h2 h3 h4 h5 h6)
   have C1 := hide (fun u => rcheck_any x u)
   unfold evv evc at C1
   have C2 := hide (fun u (h : EsAt u (some ⟨b1, o1, none⟩) l) => rcrew_any (some ⟨b1, o1, none⟩) l c k x u h hx (by have := hl2.out; omega) hc2.out)
   have C3 := hide (fun u (h : EsAt u (some ⟨b1, o1, none⟩) l) => rmade_any (some ⟨b1, o1, none⟩) l c k x u h hx (by have := hl2.out; omega) hc2.out)
   have C4 := hide (fun u (h : EsAt u (some ⟨b1, o1, none⟩) l) => rserved_any (some ⟨b1, o1, none⟩) l c k x u h hx (by have := hl2.out; omega))
   have C5 := hide (fun u (h : EsAt u (some ⟨b1, o1, none⟩) l) => rordered_any (some ⟨b1, o1, none⟩) l c k x u h hx hl2.out)
   have C6 := hide (fun u (h : EsAt u (some ⟨b1, o1, none⟩) l) => rclosed_any (some ⟨b1, o1, none⟩) l c k x u h hx hl2.out)
   rw [h2] at C2
   rw [h3] at C3
   rw [h4] at C4
   rw [h5] at C5
   rw [h6] at C6
   rw [HM.out] at C2 C3 C4 C5 C6
   clear h2 h3 h4 h5 h6 hx
   obtain ⟨q, hq⟩ : ∃ q, chk x = q := ⟨_, rfl⟩
   rw [hq] at C1 RD
   clear hq
   go_wp2_with fail
   refine (C1.out _).mono ?_
   rintro r w1 ⟨rfl, bb⟩
   have RR1 := hide (heap_below RR0.out bb)
   have BL1 := hide (btr BL0.out bb)
   have ES1 := hide (ES0.out.below bb)
   clear bb
   by_cases hq0 : q = 0
   case neg =>
    have dq : (q != 0) = true := by simp [hq0]
    rw [if_pos hq0] at RD
    have r0 : w1.cell? ⟨w.heap.size, 0, none⟩ = some (.int .i64 0) := cell_of RR1.out 0
    have r1 : w1.cell? ⟨w.heap.size, 1, none⟩ = some (.int .i64 0) := cell_of RR1.out 1
    have f0 := frozen_of RR1.out 0
    have f1 := frozen_of RR1.out 1
    have E1 : Hid (((w1.setCell ⟨w.heap.size, 0, none⟩ (.int .i64 1)).setCell ⟨w.heap.size, 1, none⟩ (.int .i64 (k : Int))).heap[w.heap.size]? = some (.cells #[.int .i64 1, .int .i64 (k : Int)] 77 (0, 0))) := Ba.heap_setCell_same (Ba.heap_setCell_same RR1.out _) _
    have K1 := hide (((KB.refl w.heap.size w1).setCell 0 (.int .i64 1)).setCell 1 (.int .i64 (k : Int)))
    have FIN : Hid (Chk l 1 (k : Int)) := .inl ⟨k, x, HX.out, by rw [RD.out]; decide, RD.out.symm, rfl, ALL.out⟩
    go_wp2_with fail
    exact bodyPost_ret (En.results_row1 Tryz.results39 _ _ _ _ rfl (loadVar_brk E1.out rfl)) rfl ⟨⟨_, _, rfl, FIN.out⟩, KB.below BL1.out K1.out (Nat.le_refl _)⟩
   have dq : (q != 0) = false := by simp [hq0]
   rw [if_neg (by simpa using hq0)] at RD
   clear hq0
   go_wp2_with fail
   refine (C2.out _ ES1.out).mono ?_
   rintro r w2 ⟨rfl, bb⟩
   have RR2 := hide (heap_below RR1.out bb)
   have BL2 := hide (btr BL1.out bb)
   have ES2 := hide (ES1.out.below bb)
   clear bb
   cases b2
   ·rw [if_pos rfl] at RD
    have r0 : w2.cell? ⟨w.heap.size, 0, none⟩ = some (.int .i64 0) := cell_of RR2.out 0
    have r1 : w2.cell? ⟨w.heap.size, 1, none⟩ = some (.int .i64 0) := cell_of RR2.out 1
    have f0 := frozen_of RR2.out 0
    have f1 := frozen_of RR2.out 1
    have E1 : Hid (((w2.setCell ⟨w.heap.size, 0, none⟩ (.int .i64 2)).setCell ⟨w.heap.size, 1, none⟩ (.int .i64 (k : Int))).heap[w.heap.size]? = some (.cells #[.int .i64 2, .int .i64 (k : Int)] 77 (0, 0))) := Ba.heap_setCell_same (Ba.heap_setCell_same RR2.out _) _
    have K1 := hide (((KB.refl w.heap.size w2).setCell 0 (.int .i64 2)).setCell 1 (.int .i64 (k : Int)))
    have FIN : Hid (Chk l 2 (k : Int)) := .inl ⟨k, x, HX.out, by rw [RD.out]; decide, RD.out.symm, rfl, ALL.out⟩
    go_wp2_with fail
    exact bodyPost_ret (En.results_row1 Tryz.results39 _ _ _ _ rfl (loadVar_brk E1.out rfl)) rfl ⟨⟨_, _, rfl, FIN.out⟩, KB.below BL2.out K1.out (Nat.le_refl _)⟩
   rw [if_neg (by simp)] at RD
   go_wp2_with fail
   refine (C3.out _ ES2.out).mono ?_
   rintro r w3 ⟨rfl, bb⟩
   have RR3 := hide (heap_below RR2.out bb)
   have BL3 := hide (btr BL2.out bb)
   have ES3 := hide (ES2.out.below bb)
   clear bb
   cases b3
   ·rw [if_pos rfl] at RD
    have r0 : w3.cell? ⟨w.heap.size, 0, none⟩ = some (.int .i64 0) := cell_of RR3.out 0
    have r1 : w3.cell? ⟨w.heap.size, 1, none⟩ = some (.int .i64 0) := cell_of RR3.out 1
    have f0 := frozen_of RR3.out 0
    have f1 := frozen_of RR3.out 1
    have E1 : Hid (((w3.setCell ⟨w.heap.size, 0, none⟩ (.int .i64 3)).setCell ⟨w.heap.size, 1, none⟩ (.int .i64 (k : Int))).heap[w.heap.size]? = some (.cells #[.int .i64 3, .int .i64 (k : Int)] 77 (0, 0))) := Ba.heap_setCell_same (Ba.heap_setCell_same RR3.out _) _
    have K1 := hide (((KB.refl w.heap.size w3).setCell 0 (.int .i64 3)).setCell 1 (.int .i64 (k : Int)))
    have FIN : Hid (Chk l 3 (k : Int)) := .inl ⟨k, x, HX.out, by rw [RD.out]; decide, RD.out.symm, rfl, ALL.out⟩
    go_wp2_with fail
    exact bodyPost_ret (En.results_row1 Tryz.results39 _ _ _ _ rfl (loadVar_brk E1.out rfl)) rfl ⟨⟨_, _, rfl, FIN.out⟩, KB.below BL3.out K1.out (Nat.le_refl _)⟩
   rw [if_neg (by simp)] at RD
   go_wp2_with fail
   refine (C4.out _ ES3.out).mono ?_
   rintro r w4 ⟨rfl, bb⟩
   have RR4 := hide (heap_below RR3.out bb)
   have BL4 := hide (btr BL3.out bb)
   have ES4 := hide (ES3.out.below bb)
   clear bb
   cases b4
   ·rw [if_pos rfl] at RD
    have r0 : w4.cell? ⟨w.heap.size, 0, none⟩ = some (.int .i64 0) := cell_of RR4.out 0
    have r1 : w4.cell? ⟨w.heap.size, 1, none⟩ = some (.int .i64 0) := cell_of RR4.out 1
    have f0 := frozen_of RR4.out 0
    have f1 := frozen_of RR4.out 1
    have E1 : Hid (((w4.setCell ⟨w.heap.size, 0, none⟩ (.int .i64 4)).setCell ⟨w.heap.size, 1, none⟩ (.int .i64 (k : Int))).heap[w.heap.size]? = some (.cells #[.int .i64 4, .int .i64 (k : Int)] 77 (0, 0))) := Ba.heap_setCell_same (Ba.heap_setCell_same RR4.out _) _
    have K1 := hide (((KB.refl w.heap.size w4).setCell 0 (.int .i64 4)).setCell 1 (.int .i64 (k : Int)))
    have FIN : Hid (Chk l 4 (k : Int)) := .inl ⟨k, x, HX.out, by rw [RD.out]; decide, RD.out.symm, rfl, ALL.out⟩
    go_wp2_with fail
    exact bodyPost_ret (En.results_row1 Tryz.results39 _ _ _ _ rfl (loadVar_brk E1.out rfl)) rfl ⟨⟨_, _, rfl, FIN.out⟩, KB.below BL4.out K1.out (Nat.le_refl _)⟩
   rw [if_neg (by simp)] at RD
   go_wp2_with fail
   refine (C5.out _ ES4.out).mono ?_
   rintro r w5 ⟨rfl, bb⟩
   have RR5 := hide (heap_below RR4.out bb)
   have BL5 := hide (btr BL4.out bb)
   have ES5 := hide (ES4.out.below bb)
   clear bb
   cases b5
   ·rw [if_pos rfl] at RD
    have r0 : w5.cell? ⟨w.heap.size, 0, none⟩ = some (.int .i64 0) := cell_of RR5.out 0
    have r1 : w5.cell? ⟨w.heap.size, 1, none⟩ = some (.int .i64 0) := cell_of RR5.out 1
    have f0 := frozen_of RR5.out 0
    have f1 := frozen_of RR5.out 1
    have E1 : Hid (((w5.setCell ⟨w.heap.size, 0, none⟩ (.int .i64 5)).setCell ⟨w.heap.size, 1, none⟩ (.int .i64 (k : Int))).heap[w.heap.size]? = some (.cells #[.int .i64 5, .int .i64 (k : Int)] 77 (0, 0))) := Ba.heap_setCell_same (Ba.heap_setCell_same RR5.out _) _
    have K1 := hide (((KB.refl w.heap.size w5).setCell 0 (.int .i64 5)).setCell 1 (.int .i64 (k : Int)))
    have FIN : Hid (Chk l 5 (k : Int)) := .inl ⟨k, x, HX.out, by rw [RD.out]; decide, RD.out.symm, rfl, ALL.out⟩
    go_wp2_with fail
    exact bodyPost_ret (En.results_row1 Tryz.results39 _ _ _ _ rfl (loadVar_brk E1.out rfl)) rfl ⟨⟨_, _, rfl, FIN.out⟩, KB.below BL5.out K1.out (Nat.le_refl _)⟩
   rw [if_neg (by simp)] at RD
   go_wp2_with fail
   refine (C6.out _ ES5.out).mono ?_
   rintro r w6 ⟨rfl, bb⟩
   have RR6 := hide (heap_below RR5.out bb)
   have BL6 := hide (btr BL5.out bb)
   have ES6 := hide (ES5.out.below bb)
   clear bb
   cases b6
   ·rw [if_pos rfl] at RD
    have r0 : w6.cell? ⟨w.heap.size, 0, none⟩ = some (.int .i64 0) := cell_of RR6.out 0
    have r1 : w6.cell? ⟨w.heap.size, 1, none⟩ = some (.int .i64 0) := cell_of RR6.out 1
    have f0 := frozen_of RR6.out 0
    have f1 := frozen_of RR6.out 1
    have E1 : Hid (((w6.setCell ⟨w.heap.size, 0, none⟩ (.int .i64 6)).setCell ⟨w.heap.size, 1, none⟩ (.int .i64 (k : Int))).heap[w.heap.size]? = some (.cells #[.int .i64 6, .int .i64 (k : Int)] 77 (0, 0))) := Ba.heap_setCell_same (Ba.heap_setCell_same RR6.out _) _
    have K1 := hide (((KB.refl w.heap.size w6).setCell 0 (.int .i64 6)).setCell 1 (.int .i64 (k : Int)))
    have FIN : Hid (Chk l 6 (k : Int)) := .inl ⟨k, x, HX.out, by rw [RD.out]; decide, RD.out.symm, rfl, ALL.out⟩
    go_wp2_with fail
    exact bodyPost_ret (En.results_row1 Tryz.results39 _ _ _ _ rfl (loadVar_brk E1.out rfl)) rfl ⟨⟨_, _, rfl, FIN.out⟩, KB.below BL6.out K1.out (Nat.le_refl _)⟩
   rw [if_neg (by simp)] at RD
   have ALL2 : Hid (∀ j, j < k + 1 → ∀ y, l[j]? = some y → ruleD l j y = 0) := fun j hj y hy => by
    by_cases e : j = k
    ·subst e
     rw [HX.out] at hy
     cases hy
     exact RD.out
    ·exact ALL.out j (by omega) y hy
   clear ALL RD
   go_wp2_with fail
   go_roundw
   case rel => exact ⟨k + 1, by omega, by go_num, ALL2.out, RR6.out, BL6.out⟩
   case measure => simp [intOf]; omega
  ·have hlt' : ¬ ((k : Int) < (M : Int)) := by omega
   obtain rfl : k = M := by omega
   have ALL2 : Hid (∀ j y, l[j]? = some y → ruleD l j y = 0) := fun j y hy => ALL.out j (by have := (List.getElem?_eq_some_iff.1 hy).1; have := HM.out; omega) y hy
   have r0 : wr.cell? ⟨w.heap.size, 0, none⟩ = some (.int .i64 0) := cell_of RR0.out 0
   have r1 : wr.cell? ⟨w.heap.size, 1, none⟩ = some (.int .i64 0) := cell_of RR0.out 1
   have f0 := frozen_of RR0.out 0
   have f1 := frozen_of RR0.out 1
   have E0 : Hid (((wr.setCell ⟨w.heap.size, 0, none⟩ (.int .i64 0)).setCell ⟨w.heap.size, 1, none⟩ (.int .i64 0)).heap[w.heap.size]? = some (.cells #[.int .i64 0, .int .i64 0] 77 (0, 0))) := Ba.heap_setCell_same (Ba.heap_setCell_same RR0.out _) _
   have K0 := hide (((KB.refl w.heap.size wr).setCell 0 (.int .i64 0)).setCell 1 (.int .i64 0))
   by_cases hk0 : k = 0
   ·have g1 : decide ((0 : Int) < (k : Int)) = false := by simp; omega
    have g2 : decide (0 < k) = false := by simp; omega
    have FIN : Hid (Chk l 0 0) := .inr ⟨ALL2.out, by
     have : l = [] := List.length_eq_zero_iff.1 (by rw [HM.out]; exact hk0)
     rw [this]; rfl⟩
    clear hk0
    go_wp2_with fail
    exact bodyPost_ret (En.results_row1 Tryz.results39 _ _ _ _ rfl (loadVar_brk E0.out rfl)) rfl ⟨⟨_, _, rfl, FIN.out⟩, KB.below BL0.out K0.out (Nat.le_refl _)⟩
   ·have g1 : decide ((0 : Int) < (k : Int)) = true := by simp; omega
    have g2 : decide (0 < k) = true := by simp; omega
    obtain ⟨kp, hkp⟩ : ∃ kp, k - 1 = kp := ⟨_, rfl⟩
    have kp1 : (k : Int) - 1 = (kp : Int) := by omega
    have kp2 : (kp : Int) < (k : Int) := by omega
    obtain ⟨x, hx⟩ : ∃ x, l[kp]? = some x := ⟨_, List.getElem?_eq_getElem (by rw [HM.out]; omega)⟩
    obtain ⟨b1, o1, rfl, -⟩ := ES0.out kp x hx
    obtain ⟨p0, p1, p2, p3, p4, p5, p6, p7⟩ := ES0.out.read hx
    have LA : Hid (l.getLast? = some x) := by show _ = _; rw [List.getLast?_eq_getElem?, HM.out, hkp]; exact hx
    have SV := hide (fun u => rserves_any x u)
    unfold evv evc at SV
    obtain ⟨q, hq⟩ : ∃ q, serves x = q := ⟨_, rfl⟩
    have FIN : Hid (Chk l (if q = true then 4 else 0) (if q = true then (k : Int) else 0)) := .inr ⟨ALL2.out, by
     rw [LA.out, HM.out]
     simp only [Option.any_some, hq]
     cases q <;> rfl⟩
    rw [hq] at SV
    clear hq hx hkp hk0
    go_wp2_with fail
    refine (SV.out _).mono ?_
    rintro r w1 ⟨rfl, bb⟩
    have RR1 := hide (heap_below RR0.out bb)
    have BL1 := hide (btr BL0.out bb)
    clear bb r0 r1 f0 f1 E0 K0
    have r0 : w1.cell? ⟨w.heap.size, 0, none⟩ = some (.int .i64 0) := cell_of RR1.out 0
    have r1 : w1.cell? ⟨w.heap.size, 1, none⟩ = some (.int .i64 0) := cell_of RR1.out 1
    have f0 := frozen_of RR1.out 0
    have f1 := frozen_of RR1.out 1
    cases q
    ·have E1 : Hid (((w1.setCell ⟨w.heap.size, 0, none⟩ (.int .i64 0)).setCell ⟨w.heap.size, 1, none⟩ (.int .i64 0)).heap[w.heap.size]? = some (.cells #[.int .i64 0, .int .i64 0] 77 (0, 0))) := Ba.heap_setCell_same (Ba.heap_setCell_same RR1.out _) _
     have K1 := hide (((KB.refl w.heap.size w1).setCell 0 (.int .i64 0)).setCell 1 (.int .i64 0))
     go_wp2_with fail
     exact bodyPost_ret (En.results_row1 Tryz.results39 _ _ _ _ rfl (loadVar_brk E1.out rfl)) rfl ⟨⟨_, _, rfl, FIN.out⟩, KB.below BL1.out K1.out (Nat.le_refl _)⟩
    ·have E1 : Hid (((w1.setCell ⟨w.heap.size, 0, none⟩ (.int .i64 4)).setCell ⟨w.heap.size, 1, none⟩ (.int .i64 (k : Int))).heap[w.heap.size]? = some (.cells #[.int .i64 4, .int .i64 (k : Int)] 77 (0, 0))) := Ba.heap_setCell_same (Ba.heap_setCell_same RR1.out _) _
     have K1 := hide (((KB.refl w.heap.size w1).setCell 0 (.int .i64 4)).setCell 1 (.int .i64 (k : Int)))
     go_wp2_with fail
     exact bodyPost_ret (En.results_row1 Tryz.results39 _ _ _ _ rfl (loadVar_brk E1.out rfl)) rfl ⟨⟨_, _, rfl, FIN.out⟩, KB.below BL1.out K1.out (Nat.le_refl _)⟩
end Gu
end Go.Proofs.YtblfimobiibmjaaGreat
