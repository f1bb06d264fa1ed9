/- The document's gauge: Served (rule 4), over this seat's program. Written by gen/guserved.py. -/
import Derived.Test.YtdpadpmhbmimkaaGu2
namespace Go.Proofs.Ytdpadpmhbmimkaa
open Go.ChangeShapes Go.WideShapes Go.ChangeAt Go.RowKit
namespace Gu
open En Ba

theorem rev_take {l : List Ev} {k : Nat} {x : Ev} (h : l[k]? = some x) : (l.take (k + 1)).reverse = x :: (l.take k).reverse := by
  rw [List.take_add_one, h]; simp
set_option maxRecDepth 100000 in
set_option maxHeartbeats 6400000 in
theorem rserved_any (oa : Option Addr) (l : List Ev) (c i : Nat) (e : Ev) (w : World) (hA : EsAt w oa l) (hi : l[i]? = some e) (hl : l.length ≤ 100000) :
    Calls Try.prog 19 #[.slice oa l.length c, .int .i64 i] w fun r w' => r = .returned (.bool (served (l.take i).reverse e)) ∧ Below w.heap.size w w' := by
  have hil : i < l.length := (List.getElem?_eq_some_iff.1 hi).1
  obtain ⟨b1, o1, rfl, -⟩ := hA i e hi
  obtain ⟨p0, p1, p2, p3, p4, p5, p6, p7⟩ := hA.read hi
  obtain ⟨N, hN⟩ : ∃ N, l.length = N := ⟨_, rfl⟩
  rw [hN] at hl hil ⊢
  have HN := hide hN
  clear hN hi
  have h1 : (i : Int) < (N : Int) := by omega
  obtain ⟨res, hres⟩ : ∃ res, served (l.take i).reverse e = res := ⟨_, rfl⟩
  rw [hres]
  have HR := hide hres
  clear hres
  have B0 := hide (below_alloc w (.cells #[.int .i64 e.k, .int .i64 e.g, .int .i64 e.c, .int .i64 e.a, .int .i64 e.v, .int .i64 e.m, .bool e.s, .bool e.o] 31))
  have H0 := hide (heap_new w (.cells #[.int .i64 e.k, .int .i64 e.g, .int .i64 e.c, .int .i64 e.a, .int .i64 e.v, .int .i64 e.m, .bool e.s, .bool e.o] 31))
  have HA := hide (hA.below (below_alloc w (.cells #[.int .i64 e.k, .int .i64 e.g, .int .i64 e.c, .int .i64 e.a, .int .i64 e.v, .int .i64 e.m, .bool e.s, .bool e.o] 31)))
  clear hA
  by_cases hi0 : i = 0
  · have WK : Hid (wakeF [] e = res) := by show _ = _; rw [← HR.out, hi0]; rfl
    have dk : decide ((0 : Int) < (i : Int)) = false := by simp [hi0]
    have dk' : ¬ ((0 : Int) < (i : Int)) := by omega
    have hsub : (i : Int) - 1 = -1 := by omega
    clear HR hi0 HA H0 B0
    by_cases h7 : e.k = 7
    case neg =>
      have d7 : (e.k != 7) = true := by simp [h7]
      have C : Hid (res = true) := by show _ = _; rw [← WK.out]; unfold wakeF; simp [h7]
      go_enter Try.func19, Try.ntmps19
      go_wp2_with fail
      go_ret
      exact ⟨ret_bool C.out.symm, below_alloc _ _⟩
    have d7 : (e.k != 7) = false := by simp [h7]
    have C : Hid (res = false) := by show _ = _; rw [← WK.out]; unfold wakeF back; cases e.o <;> cases e.s <;> simp [h7]
    clear WK
    cases ho : e.o
    case true =>
      rw [ho] at p7
      go_enter Try.func19, Try.ntmps19
      go_wp2_with fail
      go_ret
      exact ⟨ret_bool C.out.symm, below_alloc _ _⟩
    rw [ho] at p7
    cases hs6 : e.s
    case true =>
      rw [hs6] at p6
      go_enter Try.func19, Try.ntmps19
      go_wp2_with fail
      go_ret
      exact ⟨ret_bool C.out.symm, below_alloc _ _⟩
    rw [hs6] at p6
    go_enter Try.func19, Try.ntmps19
    go_wp2_with fail
    go_loopw [7] (fun t wr => ∃ z : Int, t = .int .i64 z ∧ z < 0 ∧ Below w.heap.size w wr) (fun _ _ => 0)
    case atStart => exact ⟨_, rfl, by decide, below_alloc _ _⟩
    case round =>
      obtain ⟨z, rfl, hz, hb⟩ := hrel
      have HB := hide hb
      clear hb
      have hz0 : ¬ ((0 : Int) ≤ z) := by omega
      have hz2 : decide ((0 : Int) ≤ z) = false := by simp; omega
      go_wp2_with fail
      go_ret
      exact ⟨ret_bool C.out.symm, HB.out⟩
  · obtain ⟨j, hj⟩ : ∃ j, i = j + 1 := ⟨i - 1, by omega⟩
    obtain ⟨s, hs⟩ : ∃ s, l[j]? = some s := ⟨_, List.getElem?_eq_getElem (by have := HN.out; omega)⟩
    have RV : Hid ((l.take i).reverse = s :: (l.take j).reverse) := by show _ = _; rw [hj]; exact rev_take hs
    have hsub : (i : Int) - 1 = (j : Int) := by omega
    have hj1 : (j : Int) < (N : Int) := by omega
    have hj2 : (0 : Int) < (i : Int) := by omega
    have SV := hide (fun u => rserves_any s u)
    have RD := hide (HA.out.read hs)
    have HS := hide hs
    unfold evv evc at SV
    have hjN : j < N := by omega
    clear hj hs
    go_enter Try.func19, Try.ntmps19
    obtain ⟨r0, r1, r2, r3, r4, r5, r6, r7⟩ := RD.out
    go_wp2_with fail
    clear RD r0 r1 r2 r3 r4 r5 r6 r7 p0 p1 p2 p3 p4 p5 p6 p7
    generalize w.alloc (.cells #[.int .i64 e.k, .int .i64 e.g, .int .i64 e.c, .int .i64 e.a, .int .i64 e.v, .int .i64 e.m, .bool e.s, .bool e.o] 31) = W at H0 B0 HA ⊢
    generalize w.heap.size = E at H0 ⊢
    refine (SV.out _).mono ?_
    rintro r w1 ⟨rfl, b2⟩
    have B1 := hide (btr B0.out b2)
    have HE1 := hide (heap_below H0.out b2)
    have HA1 := hide (HA.out.below b2)
    clear b2 SV H0 HA B0
    have q0 : w1.cell? ⟨E, 0, none⟩ = some (.int .i64 e.k) := cell_of HE1.out 0
    have q1 : w1.cell? ⟨E, 1, none⟩ = some (.int .i64 e.g) := cell_of HE1.out 1
    have q2 : w1.cell? ⟨E, 2, none⟩ = some (.int .i64 e.c) := cell_of HE1.out 2
    have q4 : w1.cell? ⟨E, 4, none⟩ = some (.int .i64 e.v) := cell_of HE1.out 4
    have q3 : w1.cell? ⟨E, 3, none⟩ = some (.int .i64 e.a) := cell_of HE1.out 3
    have q5 : w1.cell? ⟨E, 5, none⟩ = some (.int .i64 e.m) := cell_of HE1.out 5
    have q6 : w1.cell? ⟨E, 6, none⟩ = some (.bool e.s) := cell_of HE1.out 6
    have q7 : w1.cell? ⟨E, 7, none⟩ = some (.bool e.o) := cell_of HE1.out 7
    have hE : E < w1.heap.size := Ba.heap_lt HE1.out
    have hE' : E ≠ w1.heap.size := by omega
    cases hsv : serves s
    · have WK : Hid (wakeF (l.take i).reverse e = res) := by show _ = _; rw [← HR.out, RV.out]; simp [served, hsv]
      clear HR RV HS hsv
      by_cases h7 : e.k = 7
      case neg =>
        have d7 : (e.k != 7) = true := by simp [h7]
        have C : Hid (res = true) := by show _ = _; rw [← WK.out]; unfold wakeF; first | rfl | (simp; done) | (simp [h7]; done)
        go_wp2_with fail
        go_ret
        exact ⟨ret_bool C.out.symm, B1.out⟩
      have d7 : (e.k != 7) = false := by simp [h7]
      cases ho : e.o
      case true =>
        rw [ho] at q7
        have C : Hid (res = false) := by show _ = _; rw [← WK.out]; unfold wakeF; first | rfl | (simp; done) | (simp [h7]; done) | (simp [ho]; done) | (simp [h7, ho]; done)
        go_wp2_with fail
        go_ret
        exact ⟨ret_bool C.out.symm, B1.out⟩
      rw [ho] at q7
      cases hs6 : e.s
      case true =>
        rw [hs6] at q6
        have C : Hid (res = false) := by show _ = _; rw [← WK.out]; unfold wakeF; first | rfl | (simp; done) | (simp [h7]; done) | (simp [ho]; done) | (simp [hs6]; done) | (simp [h7, ho]; done) | (simp [h7, hs6]; done) | (simp [ho, hs6]; done) | (simp [h7, ho, hs6]; done)
        go_wp2_with fail
        go_ret
        exact ⟨ret_bool C.out.symm, B1.out⟩
      rw [hs6] at q6
      have BK : Hid (back e (l.take i).reverse = res) := by show _ = _; rw [← WK.out]; unfold wakeF; simp [h7, ho, hs6]
      clear WK
      go_wp2_with fail
      clear q0 q1 q2 q3 q4 q5 q6 q7 hE hE'
      go_loopw [7] (fun t wr => ∃ (k : Nat) (z : Int), k ≤ i ∧ t = .int .i64 z ∧ z = (k : Int) - 1 ∧ back e (l.take k).reverse = res ∧ Below w1.heap.size w1 wr) (fun t _ => ((intOf t) + 1).toNat)
      case atStart => exact ⟨i, _, Nat.le_refl _, rfl, by omega, BK.out, Below.refl _ _⟩
      case round =>
        obtain ⟨k, z, hk, rfl, hz, hbk, hb⟩ := hrel
        have HB := hide hb
        have HE := hide (heap_below HE1.out hb)
        have HK := hide hbk
        clear hb hbk BK
        have q2 : wr.cell? ⟨E, 2, none⟩ = some (.int .i64 e.c) := cell_of HE.out 2
        have q5 : wr.cell? ⟨E, 5, none⟩ = some (.int .i64 e.m) := cell_of HE.out 5
        have hE : E < wr.heap.size := Ba.heap_lt HE.out
        have hE' : E ≠ wr.heap.size := by omega
        cases k with
        | zero =>
          have hz0 : ¬ ((0 : Int) ≤ z) := by simp at hz; omega
          have hz2 : decide ((0 : Int) ≤ z) = false := by simp; omega
          clear hz
          have C : Hid (res = false) := by show _ = _; rw [← HK.out]; rfl
          go_wp2_with fail
          go_ret
          exact ⟨ret_bool C.out.symm, btr B1.out HB.out⟩
        | succ k' =>
          have hz1 : z = (k' : Int) := by omega
          subst hz1
          clear hz
          obtain ⟨x, hx⟩ : ∃ x, l[k']? = some x := ⟨_, List.getElem?_eq_getElem (by have := HN.out; omega)⟩
          obtain ⟨p0, p1, p2, p3, p4, p5, p6, p7⟩ := (HA1.out.below HB.out).read hx
          have hge : (0 : Int) ≤ (k' : Int) := by omega
          have hkN : (k' : Int) < (N : Int) := by omega
          have K1 : Hid (back e (x :: (l.take k').reverse) = res) := by show _ = _; rw [← rev_take hx]; exact HK.out
          unfold back at K1
          clear hx HK
          obtain ⟨xk, xg, xc, xa, xv, xm, xs, xo⟩ := x
          simp only at p0 p1 p2 p3 p4 p5 p6 p7 K1
          by_cases h5 : xk = 5
          · subst h5
            by_cases hg : xg = e.m
            · have dg : (xg == e.m) = true := by simp [hg]
              by_cases hc : xc = e.c
              · have dc : (xc == e.c) = true := by simp [hc]
                have C : Hid (res = true) := by show _ = _; rw [← K1.out]; first | rfl | (simp; done) | (simp [hg]; done) | (simp [hc]; done) | (simp [hg, hc]; done)
                go_wp2_with fail
                go_ret
                exact ⟨ret_bool C.out.symm, btr B1.out (btr HB.out (below_alloc _ _))⟩
              · have dc : (xc == e.c) = false := by simp [hc]
                have C : Hid (res = false) := by show _ = _; rw [← K1.out]; first | rfl | (simp; done) | (simp [hg]; done) | (simp [hc]; done) | (simp [hg, hc]; done)
                go_wp2_with fail
                go_ret
                exact ⟨ret_bool C.out.symm, btr B1.out (btr HB.out (below_alloc _ _))⟩
            · have dg : (xg == e.m) = false := by simp [hg]
              have C : Hid (res = false) := by show _ = _; rw [← K1.out]; first | rfl | (simp; done) | (simp [hg]; done)
              go_wp2_with fail
              go_ret
              exact ⟨ret_bool C.out.symm, btr B1.out (btr HB.out (below_alloc _ _))⟩
          have d5 : (xk == 5) = false := by simp [h5]
          by_cases hx7 : xk = 7
          case neg =>
            have dx7 : (xk != 7) = true := by simp [hx7]
            have C : Hid (res = false) := by show _ = _; rw [← K1.out]; first | rfl | (simp; done) | (simp [h5]; done) | (simp [hx7]; done) | (simp [h5, hx7]; done)
            go_wp2_with fail
            go_ret
            exact ⟨ret_bool C.out.symm, btr B1.out (btr HB.out (below_alloc _ _))⟩
          subst hx7
          by_cases hk0 : k' = 0
          · have dk : decide ((0 : Int) < (k' : Int)) = false := by simp [hk0]
            have dk' : ¬ ((0 : Int) < (k' : Int)) := by omega
            have K2 : Hid (back e (l.take k').reverse = res) := by show _ = _; rw [← K1.out, hk0]; simp
            clear K1 hk0
            go_wp2_with fail
            go_roundw
            case rel => exact ⟨k', _, by omega, rfl, by omega, K2.out, btr HB.out (below_alloc _ _)⟩
            case measure => first | (simp [intOf]; done) | (simp [intOf]; omega)
          · obtain ⟨m, hm⟩ : ∃ m, k' = m + 1 := ⟨k' - 1, by omega⟩
            obtain ⟨y, hy⟩ : ∃ y, l[m]? = some y := ⟨_, List.getElem?_eq_getElem (by have := HN.out; omega)⟩
            obtain ⟨y0, y1, y2, y3, y4, y5, y6, y7⟩ := (HA1.out.below HB.out).read hy
            have hmb : b1 < wr.heap.size := World.block_lt_of_cell? wr _ y0
            have hmb' : b1 ≠ wr.heap.size := by omega
            have SY := hide (fun u => rserves_any y u)
            have K2 : Hid ((if serves y = true then false else back e (l.take k').reverse) = res) := by
              show _ = _
              rw [← K1.out]
              rw [hm, rev_take hy]
              cases hq : serves y <;> simp [hq]
            unfold evv evc at SY
            have hms : (k' : Int) - 1 = (m : Int) := by omega
            have hmN : (m : Int) < (N : Int) := by omega
            have hk1 : (0 : Int) < (k' : Int) := by omega
            clear hm hy K1
            go_wp2_with fail
            refine (SY.out _).mono ?_
            rintro r w2 ⟨rfl, b2⟩
            have B2 := hide (btr HB.out (btr (below_alloc _ _) b2))
            clear b2
            cases hsy : serves y
            · have K3 : Hid (back e (l.take k').reverse = res) := by show _ = _; rw [← K2.out, hsy]; rfl
              go_wp2_with fail
              go_roundw
              case rel => exact ⟨k', _, by omega, rfl, by omega, K3.out, B2.out⟩
              case measure => first | (simp [intOf]; done) | (simp [intOf]; omega)
            · have C : Hid (res = false) := by show _ = _; rw [← K2.out, hsy]; rfl
              go_wp2_with fail
              go_ret
              exact ⟨ret_bool C.out.symm, btr B1.out B2.out⟩
    · have SF : Hid (servF s e = res) := by show _ = _; rw [← HR.out, RV.out]; simp [served, hsv]
      clear HR RV hsv
      obtain ⟨y0, y1, y2, y3, y4, y5, y6, y7⟩ := HA1.out.read HS.out
      clear HS
      unfold servF at SF
      obtain ⟨sk, sg, sc, sa, sv, sm, ss, so⟩ := s
      simp only at y0 y1 y2 y3 y4 y5 y6 y7 SF
      have KB := hide (btr B1.out (below_alloc w1 (.cells #[.int .i64 sk, .int .i64 sg, .int .i64 sc, .int .i64 sa, .int .i64 sv, .int .i64 sm, .bool ss, .bool so] 31)))
      by_cases c7 : e.k = 7
      case neg =>
        have dc7 : (e.k == 7) = false := by simp [c7]
        have C : Hid (res = false) := by show _ = _; rw [← SF.out]; first | rfl | (simp; done) | (simp [c7]; done)
        go_wp2_with fail
        go_ret
        exact ⟨ret_bool C.out.symm, KB.out⟩
      have dc7 : (e.k == 7) = true := by simp [c7]
      by_cases cg : e.g = sm
      case neg =>
        have dcg : (e.g == sm) = false := by simp [cg]
        have C : Hid (res = false) := by show _ = _; rw [← SF.out]; first | rfl | (simp; done) | (simp [cg]; done)
        go_wp2_with fail
        go_ret
        exact ⟨ret_bool C.out.symm, KB.out⟩
      have dcg : (e.g == sm) = true := by simp [cg]
      by_cases cm : e.m = sg
      case neg =>
        have dcm : (e.m == sg) = false := by simp [cm]
        have C : Hid (res = false) := by show _ = _; rw [← SF.out]; first | rfl | (simp; done) | (simp [cm]; done)
        go_wp2_with fail
        go_ret
        exact ⟨ret_bool C.out.symm, KB.out⟩
      have dcm : (e.m == sg) = true := by simp [cm]
      by_cases cc : e.c = sc
      case neg =>
        have dcc : (e.c == sc) = false := by simp [cc]
        have C : Hid (res = false) := by show _ = _; rw [← SF.out]; first | rfl | (simp; done) | (simp [cc]; done)
        go_wp2_with fail
        go_ret
        exact ⟨ret_bool C.out.symm, KB.out⟩
      have dcc : (e.c == sc) = true := by simp [cc]
      cases hes : e.s <;> cases ss
      · rw [hes] at q6
        have C : Hid (res = false) := by show _ = _; rw [← SF.out]; first | rfl | (simp; done) | (simp [hes]; done)
        go_wp2_with fail
        go_ret
        exact ⟨ret_bool C.out.symm, KB.out⟩
      · rw [hes] at q6
        cases ho : e.o
        · rw [ho] at q7
          have C : Hid (res = false) := by show _ = _; rw [← SF.out]; first | rfl | (simp; done) | (simp [ho]; done)
          go_wp2_with fail
          go_ret
          exact ⟨ret_bool C.out.symm, KB.out⟩
        · rw [ho] at q7
          by_cases cv : e.v = sv
          · have dv : (e.v == sv) = true := by simp [cv]
            have C : Hid (res = true) := by show _ = _; rw [← SF.out]; first | rfl | (simp; done) | (simp [hes]; done) | (simp [ho]; done) | (simp [c7]; done) | (simp [cg]; done) | (simp [cm]; done) | (simp [cc]; done) | (simp [cv]; done) | (simp [hes, ho]; done) | (simp [hes, c7]; done) | (simp [hes, cg]; done) | (simp [hes, cm]; done) | (simp [hes, cc]; done) | (simp [hes, cv]; done) | (simp [ho, c7]; done) | (simp [ho, cg]; done) | (simp [ho, cm]; done) | (simp [ho, cc]; done) | (simp [ho, cv]; done) | (simp [c7, cg]; done) | (simp [c7, cm]; done) | (simp [c7, cc]; done) | (simp [c7, cv]; done) | (simp [cg, cm]; done) | (simp [cg, cc]; done) | (simp [cg, cv]; done) | (simp [cm, cc]; done) | (simp [cm, cv]; done) | (simp [cc, cv]; done) | (simp [hes, ho, c7]; done) | (simp [hes, ho, cg]; done) | (simp [hes, ho, cm]; done) | (simp [hes, ho, cc]; done) | (simp [hes, ho, cv]; done) | (simp [hes, c7, cg]; done) | (simp [hes, c7, cm]; done) | (simp [hes, c7, cc]; done) | (simp [hes, c7, cv]; done) | (simp [hes, cg, cm]; done) | (simp [hes, cg, cc]; done) | (simp [hes, cg, cv]; done) | (simp [hes, cm, cc]; done) | (simp [hes, cm, cv]; done) | (simp [hes, cc, cv]; done) | (simp [ho, c7, cg]; done) | (simp [ho, c7, cm]; done) | (simp [ho, c7, cc]; done) | (simp [ho, c7, cv]; done) | (simp [ho, cg, cm]; done) | (simp [ho, cg, cc]; done) | (simp [ho, cg, cv]; done) | (simp [ho, cm, cc]; done) | (simp [ho, cm, cv]; done) | (simp [ho, cc, cv]; done) | (simp [c7, cg, cm]; done) | (simp [c7, cg, cc]; done) | (simp [c7, cg, cv]; done) | (simp [c7, cm, cc]; done) | (simp [c7, cm, cv]; done) | (simp [c7, cc, cv]; done) | (simp [cg, cm, cc]; done) | (simp [cg, cm, cv]; done) | (simp [cg, cc, cv]; done) | (simp [cm, cc, cv]; done) | (simp [hes, ho, c7, cg]; done) | (simp [hes, ho, c7, cm]; done) | (simp [hes, ho, c7, cc]; done) | (simp [hes, ho, c7, cv]; done) | (simp [hes, ho, cg, cm]; done) | (simp [hes, ho, cg, cc]; done) | (simp [hes, ho, cg, cv]; done) | (simp [hes, ho, cm, cc]; done) | (simp [hes, ho, cm, cv]; done) | (simp [hes, ho, cc, cv]; done) | (simp [hes, c7, cg, cm]; done) | (simp [hes, c7, cg, cc]; done) | (simp [hes, c7, cg, cv]; done) | (simp [hes, c7, cm, cc]; done) | (simp [hes, c7, cm, cv]; done) | (simp [hes, c7, cc, cv]; done) | (simp [hes, cg, cm, cc]; done) | (simp [hes, cg, cm, cv]; done) | (simp [hes, cg, cc, cv]; done) | (simp [hes, cm, cc, cv]; done) | (simp [ho, c7, cg, cm]; done) | (simp [ho, c7, cg, cc]; done) | (simp [ho, c7, cg, cv]; done) | (simp [ho, c7, cm, cc]; done) | (simp [ho, c7, cm, cv]; done) | (simp [ho, c7, cc, cv]; done) | (simp [ho, cg, cm, cc]; done) | (simp [ho, cg, cm, cv]; done) | (simp [ho, cg, cc, cv]; done) | (simp [ho, cm, cc, cv]; done) | (simp [c7, cg, cm, cc]; done) | (simp [c7, cg, cm, cv]; done) | (simp [c7, cg, cc, cv]; done) | (simp [c7, cm, cc, cv]; done) | (simp [cg, cm, cc, cv]; done) | (simp [hes, ho, c7, cg, cm]; done) | (simp [hes, ho, c7, cg, cc]; done) | (simp [hes, ho, c7, cg, cv]; done) | (simp [hes, ho, c7, cm, cc]; done) | (simp [hes, ho, c7, cm, cv]; done) | (simp [hes, ho, c7, cc, cv]; done) | (simp [hes, ho, cg, cm, cc]; done) | (simp [hes, ho, cg, cm, cv]; done) | (simp [hes, ho, cg, cc, cv]; done) | (simp [hes, ho, cm, cc, cv]; done) | (simp [hes, c7, cg, cm, cc]; done) | (simp [hes, c7, cg, cm, cv]; done) | (simp [hes, c7, cg, cc, cv]; done) | (simp [hes, c7, cm, cc, cv]; done) | (simp [hes, cg, cm, cc, cv]; done) | (simp [ho, c7, cg, cm, cc]; done) | (simp [ho, c7, cg, cm, cv]; done) | (simp [ho, c7, cg, cc, cv]; done) | (simp [ho, c7, cm, cc, cv]; done) | (simp [ho, cg, cm, cc, cv]; done) | (simp [c7, cg, cm, cc, cv]; done) | (simp [hes, ho, c7, cg, cm, cc]; done) | (simp [hes, ho, c7, cg, cm, cv]; done) | (simp [hes, ho, c7, cg, cc, cv]; done) | (simp [hes, ho, c7, cm, cc, cv]; done) | (simp [hes, ho, cg, cm, cc, cv]; done) | (simp [hes, c7, cg, cm, cc, cv]; done) | (simp [ho, c7, cg, cm, cc, cv]; done) | (simp [hes, ho, c7, cg, cm, cc, cv]; done)
            go_wp2_with fail
            go_ret
            exact ⟨ret_bool C.out.symm, KB.out⟩
          · have dv : (e.v == sv) = false := by simp [cv]
            have C : Hid (res = false) := by show _ = _; rw [← SF.out]; first | rfl | (simp; done) | (simp [cv]; done)
            go_wp2_with fail
            go_ret
            exact ⟨ret_bool C.out.symm, KB.out⟩
      · rw [hes] at q6
        cases ho : e.o
        · rw [ho] at q7
          have C : Hid (res = false) := by show _ = _; rw [← SF.out]; first | rfl | (simp; done) | (simp [ho]; done)
          go_wp2_with fail
          go_ret
          exact ⟨ret_bool C.out.symm, KB.out⟩
        · rw [ho] at q7
          have C : Hid (res = true) := by show _ = _; rw [← SF.out]; first | rfl | (simp; done) | (simp [hes]; done) | (simp [ho]; done) | (simp [c7]; done) | (simp [cg]; done) | (simp [cm]; done) | (simp [cc]; done) | (simp [hes, ho]; done) | (simp [hes, c7]; done) | (simp [hes, cg]; done) | (simp [hes, cm]; done) | (simp [hes, cc]; done) | (simp [ho, c7]; done) | (simp [ho, cg]; done) | (simp [ho, cm]; done) | (simp [ho, cc]; done) | (simp [c7, cg]; done) | (simp [c7, cm]; done) | (simp [c7, cc]; done) | (simp [cg, cm]; done) | (simp [cg, cc]; done) | (simp [cm, cc]; done) | (simp [hes, ho, c7]; done) | (simp [hes, ho, cg]; done) | (simp [hes, ho, cm]; done) | (simp [hes, ho, cc]; done) | (simp [hes, c7, cg]; done) | (simp [hes, c7, cm]; done) | (simp [hes, c7, cc]; done) | (simp [hes, cg, cm]; done) | (simp [hes, cg, cc]; done) | (simp [hes, cm, cc]; done) | (simp [ho, c7, cg]; done) | (simp [ho, c7, cm]; done) | (simp [ho, c7, cc]; done) | (simp [ho, cg, cm]; done) | (simp [ho, cg, cc]; done) | (simp [ho, cm, cc]; done) | (simp [c7, cg, cm]; done) | (simp [c7, cg, cc]; done) | (simp [c7, cm, cc]; done) | (simp [cg, cm, cc]; done) | (simp [hes, ho, c7, cg]; done) | (simp [hes, ho, c7, cm]; done) | (simp [hes, ho, c7, cc]; done) | (simp [hes, ho, cg, cm]; done) | (simp [hes, ho, cg, cc]; done) | (simp [hes, ho, cm, cc]; done) | (simp [hes, c7, cg, cm]; done) | (simp [hes, c7, cg, cc]; done) | (simp [hes, c7, cm, cc]; done) | (simp [hes, cg, cm, cc]; done) | (simp [ho, c7, cg, cm]; done) | (simp [ho, c7, cg, cc]; done) | (simp [ho, c7, cm, cc]; done) | (simp [ho, cg, cm, cc]; done) | (simp [c7, cg, cm, cc]; done) | (simp [hes, ho, c7, cg, cm]; done) | (simp [hes, ho, c7, cg, cc]; done) | (simp [hes, ho, c7, cm, cc]; done) | (simp [hes, ho, cg, cm, cc]; done) | (simp [hes, c7, cg, cm, cc]; done) | (simp [ho, c7, cg, cm, cc]; done) | (simp [hes, ho, c7, cg, cm, cc]; done)
          go_wp2_with fail
          go_ret
          exact ⟨ret_bool C.out.symm, KB.out⟩
      · rw [hes] at q6
        have C : Hid (res = false) := by show _ = _; rw [← SF.out]; first | rfl | (simp; done) | (simp [hes]; done)
        go_wp2_with fail
        go_ret
        exact ⟨ret_bool C.out.symm, KB.out⟩
end Gu
end Go.Proofs.Ytdpadpmhbmimkaa
