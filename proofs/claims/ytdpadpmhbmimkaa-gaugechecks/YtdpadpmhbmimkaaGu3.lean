/- The document's gauge: Crew (rule 2), over this seat's program. Written by gen/gucrew.py. -/
import Derived.Test.YtdpadpmhbmimkaaGu2
namespace Go.Proofs.Ytdpadpmhbmimkaa
open Go.ChangeShapes Go.WideShapes Go.ChangeAt Go.RowKit
namespace Gu
open En Ba

theorem there_take {l : List Ev} {k : Nat} {e : Ev} (h : l[k]? = some e) : there (l.take (k + 1)) = there (l.take k) + if e.k = 1 then 1 else 0 := by
  rw [List.take_add_one, h]; exact there_app _ _
theorem exit_take {l : List Ev} {k : Nat} {e : Ev} (h : l[k]? = some e) (g : Int) : exitF g (l.take (k + 1)) = (exitF g (l.take k) || (decide (e.g = g) && decide (e.k = 11))) := by
  rw [List.take_add_one, h]; exact exit_app _ _ _
theorem waits_take {l : List Ev} {k : Nat} {e : Ev} (h : l[k]? = some e) (g : Int) : waitsF g (l.take (k + 1)) = wstep g (waitsF g (l.take k)) e := by
  rw [List.take_add_one, h]; exact waits_app _ _ _
theorem pan_take {l : List Ev} {k : Nat} {e : Ev} (h : l[k]? = some e) : panF (l.take (k + 1)) = (panF (l.take k) || decide (e.k = 12)) := by
  rw [List.take_add_one, h]; exact pan_app _ _
theorem pan_more {l : List Ev} {k i : Nat} (h : k ≤ i) (hp : panF (l.take k) = true) : panF (l.take i) = true := by
  have : l.take i = l.take k ++ (l.take i).drop k := by
    rw [show l.take k = (l.take i).take k by rw [List.take_take, Nat.min_eq_left h]]
    exact (List.take_append_drop _ _).symm
  rw [this]; simp only [panF, List.any_append] at hp ⊢; rw [hp]; rfl
theorem there_le (l : List Ev) (k : Nat) : there (l.take k) ≤ k + 1 := by
  have := List.countP_le_length (p := fun x : Ev => decide (x.k = 1)) (l := l.take k)
  simp only [List.length_take] at this
  unfold there; omega
set_option maxRecDepth 100000 in
set_option maxHeartbeats 6400000 in
theorem rcrew_any (oa : Option Addr) (l : List Ev) (c i : Nat) (e : Ev) (w : World) (hA : EsAt w oa l) (hi : l[i]? = some e) (hl : l.length ≤ 100000) (hc : l.length ≤ c) :
    Calls Try.prog 17 #[.slice oa l.length c, .int .i64 i] w fun r w' => r = .returned (.bool (crew (l.take i) e)) ∧ Below w.heap.size w w' := by
  have hil : i < l.length := (List.getElem?_eq_some_iff.1 hi).1
  obtain ⟨b1, o1, rfl, -⟩ := hA i e hi
  obtain ⟨p0, p1, p2, p3, p4, p5, p6, p7⟩ := hA.read hi
  obtain ⟨N, hN⟩ : ∃ N, l.length = N := ⟨_, rfl⟩
  rw [hN] at hl hc hil ⊢
  have HN := hide hN
  clear hN hi
  have h1 : (i : Int) < (N : Int) := by omega
  have h2 : (i : Int) ≤ (c : Int) := by omega
  have h3 : i ≤ c := by omega
  obtain ⟨res, hres⟩ : ∃ res, crew (l.take i) e = res := ⟨_, rfl⟩
  rw [hres]
  have HR := hide hres
  clear hres
  have B0 := hide (below_alloc w (.cells #[.int .i64 e.k, .int .i64 e.g, .int .i64 e.c, .int .i64 e.a, .int .i64 e.v, .int .i64 e.m, .bool e.s, .bool e.o] 31))
  have H0 := hide (heap_new w (.cells #[.int .i64 e.k, .int .i64 e.g, .int .i64 e.c, .int .i64 e.a, .int .i64 e.v, .int .i64 e.m, .bool e.s, .bool e.o] 31))
  have HA := hide (hA.below (below_alloc w (.cells #[.int .i64 e.k, .int .i64 e.g, .int .i64 e.c, .int .i64 e.a, .int .i64 e.v, .int .i64 e.m, .bool e.s, .bool e.o] 31)))
  clear hA
  go_enter Try.func17, Try.ntmps17
  go_wp2_with fail
  clear p0 p1 p2 p3 p4 p5 p6 p7
  generalize w.alloc (.cells #[.int .i64 e.k, .int .i64 e.g, .int .i64 e.c, .int .i64 e.a, .int .i64 e.v, .int .i64 e.m, .bool e.s, .bool e.o] 31) = W at H0 B0 HA ⊢
  generalize w.heap.size = E at H0 ⊢
  go_loopw [6, 7, 8, 19] (fun t a x s wr => ∃ k : Nat, k ≤ i ∧ s = .int .i64 (k : Int) ∧ t = .int .i64 ((there (l.take k) : Nat) : Int) ∧ a = .bool (waitsF e.g (l.take k)) ∧ x = .bool (exitF e.g (l.take k)) ∧ panF (l.take k) = false ∧ Below W.heap.size W wr) (fun _ _ _ s _ => i - (intOf s).toNat)
  case atStart => exact ⟨0, Nat.zero_le _, rfl, rfl, rfl, rfl, rfl, Below.refl _ _⟩
  case round =>
    obtain ⟨k, hk, rfl, rfl, rfl, rfl, hpan, hb⟩ := hrel
    have HB := hide hb
    have HE := hide (heap_below H0.out hb)
    have HP := hide hpan
    clear hb hpan
    have q0 : wr.cell? ⟨E, 0, none⟩ = some (.int .i64 e.k) := cell_of HE.out 0
    have q1 : wr.cell? ⟨E, 1, none⟩ = some (.int .i64 e.g) := cell_of HE.out 1
    have q5 : wr.cell? ⟨E, 5, none⟩ = some (.int .i64 e.m) := cell_of HE.out 5
    have hE : E < wr.heap.size := Ba.heap_lt HE.out
    have hE' : E ≠ wr.heap.size := by omega
    have ML := hide (there_le l k)
    by_cases hlt : k < i
    · have hlt' : (k : Int) < (i : Int) := by omega
      obtain ⟨x, hx⟩ : ∃ x, l[k]? = some x := ⟨_, List.getElem?_eq_getElem (by have := HN.out; omega)⟩
      obtain ⟨p0, p1, p2, p3, p4, p5, p6, p7⟩ := (HA.out.below HB.out).read hx
      have T1 := hide (there_take hx)
      have X1 := hide (exit_take hx e.g)
      have W1 := hide (waits_take hx e.g)
      have P1 := hide (pan_take hx)
      clear hx
      rw [HP.out] at P1
      have PM := hide (fun q => pan_more (l := l) (k := k + 1) (i := i) hlt q)
      obtain ⟨n0, hn0⟩ : ∃ n0, there (l.take k) = n0 := ⟨_, rfl⟩
      obtain ⟨a0, ha0⟩ : ∃ a0, waitsF e.g (l.take k) = a0 := ⟨_, rfl⟩
      obtain ⟨x0, hx0⟩ : ∃ x0, exitF e.g (l.take k) = x0 := ⟨_, rfl⟩
      rw [hn0] at T1 ML ⊢
      rw [ha0] at W1 ⊢
      rw [hx0] at X1 ⊢
      have hn1 : (n0 : Int) ≤ 200000 := by have := ML.out; omega
      clear hn0 ha0 hx0
      obtain ⟨xk, xg, xc, xa, xv, xm, xs, xo⟩ := x
      simp only at p0 p1 p2 p3 p4 p5 p6 p7 T1 X1 P1
      unfold wstep at W1
      simp only at W1
      by_cases h12 : xk = 12
      · subst h12
        have C0 : Hid (crew (l.take i) e = false) := by
          show _ = _
          unfold crew
          rw [PM.out (by rw [P1.out]; rfl)]; rfl
        rw [HR.out] at C0
        go_wp2_with fail
        go_ret
        exact ⟨ret_bool C0.out.symm, btr B0.out (btr HB.out (below_alloc _ _))⟩
      have d12 : (xk == 12) = false := by simp [h12]
      by_cases hg : xg = e.g
      · have dg : (xg != e.g) = false := by simp [hg]
        by_cases h13 : xk = 13
        · subst h13
          have T2 : Hid (there (l.take (k + 1)) = n0) := by show _ = _; rw [T1.out]; first | rfl | (simp; done) | (simp [h1]; done)
          have W2 : Hid (waitsF e.g (l.take (k + 1)) = a0) := by show _ = _; rw [W1.out]; first | rfl | (simp; done) | (simp [hg]; done) | (simp [hg, h6, h7]; done)
          have X2 : Hid (exitF e.g (l.take (k + 1)) = x0) := by show _ = _; rw [X1.out]; first | rfl | (simp; done) | (simp [hg]; done) | (simp [h11]; done)
          have P2 : Hid (panF (l.take (k + 1)) = false) := by show _ = _; rw [P1.out]; first | rfl | (simp; done) | (simp [h12]; done)
          clear T1 W1 X1 P1
          go_wp2_with fail
          go_roundw
          case rel => exact ⟨k + 1, by omega, by go_num, by first | (rw [T2.out]; done) | (rw [T2.out]; go_num), by rw [W2.out], by rw [X2.out], P2.out, btr HB.out (below_alloc _ _)⟩
          case measure => simp [intOf]; omega
        have d13 : (xk == 13) = false := by simp [h13]
        by_cases h1 : xk = 1
        · subst h1
          have T2 : Hid (there (l.take (k + 1)) = n0 + 1) := by show _ = _; rw [T1.out]; first | rfl | (simp; done) | (simp [h1]; done)
          have W2 : Hid (waitsF e.g (l.take (k + 1)) = a0) := by show _ = _; rw [W1.out]; first | rfl | (simp; done) | (simp [hg]; done) | (simp [hg, h6, h7]; done)
          have X2 : Hid (exitF e.g (l.take (k + 1)) = x0) := by show _ = _; rw [X1.out]; first | rfl | (simp; done) | (simp [hg]; done) | (simp [h11]; done)
          have P2 : Hid (panF (l.take (k + 1)) = false) := by show _ = _; rw [P1.out]; first | rfl | (simp; done) | (simp [h12]; done)
          clear T1 W1 X1 P1
          go_wp2_with fail
          go_roundw
          case rel => exact ⟨k + 1, by omega, by go_num, by first | (rw [T2.out]; done) | (rw [T2.out]; go_num), by rw [W2.out], by rw [X2.out], P2.out, btr HB.out (below_alloc _ _)⟩
          case measure => simp [intOf]; omega
        have d1 : (xk == 1) = false := by simp [h1]
        by_cases h6 : xk = 6
        · subst h6
          have T2 : Hid (there (l.take (k + 1)) = n0) := by show _ = _; rw [T1.out]; first | rfl | (simp; done) | (simp [h1]; done)
          have W2 : Hid (waitsF e.g (l.take (k + 1)) = true) := by show _ = _; rw [W1.out]; first | rfl | (simp; done) | (simp [hg]; done) | (simp [hg, h6, h7]; done)
          have X2 : Hid (exitF e.g (l.take (k + 1)) = x0) := by show _ = _; rw [X1.out]; first | rfl | (simp; done) | (simp [hg]; done) | (simp [h11]; done)
          have P2 : Hid (panF (l.take (k + 1)) = false) := by show _ = _; rw [P1.out]; first | rfl | (simp; done) | (simp [h12]; done)
          clear T1 W1 X1 P1
          go_wp2_with fail
          go_roundw
          case rel => exact ⟨k + 1, by omega, by go_num, by first | (rw [T2.out]; done) | (rw [T2.out]; go_num), by rw [W2.out], by rw [X2.out], P2.out, btr HB.out (below_alloc _ _)⟩
          case measure => simp [intOf]; omega
        have d6 : (xk == 6) = false := by simp [h6]
        by_cases h7 : xk = 7
        · subst h7
          have T2 : Hid (there (l.take (k + 1)) = n0) := by show _ = _; rw [T1.out]; first | rfl | (simp; done) | (simp [h1]; done)
          have W2 : Hid (waitsF e.g (l.take (k + 1)) = false) := by show _ = _; rw [W1.out]; first | rfl | (simp; done) | (simp [hg]; done) | (simp [hg, h6, h7]; done)
          have X2 : Hid (exitF e.g (l.take (k + 1)) = x0) := by show _ = _; rw [X1.out]; first | rfl | (simp; done) | (simp [hg]; done) | (simp [h11]; done)
          have P2 : Hid (panF (l.take (k + 1)) = false) := by show _ = _; rw [P1.out]; first | rfl | (simp; done) | (simp [h12]; done)
          clear T1 W1 X1 P1
          go_wp2_with fail
          go_roundw
          case rel => exact ⟨k + 1, by omega, by go_num, by first | (rw [T2.out]; done) | (rw [T2.out]; go_num), by rw [W2.out], by rw [X2.out], P2.out, btr HB.out (below_alloc _ _)⟩
          case measure => simp [intOf]; omega
        have d7 : (xk == 7) = false := by simp [h7]
        by_cases h11 : xk = 11
        · subst h11
          have T2 : Hid (there (l.take (k + 1)) = n0) := by show _ = _; rw [T1.out]; first | rfl | (simp; done) | (simp [h1]; done)
          have W2 : Hid (waitsF e.g (l.take (k + 1)) = a0) := by show _ = _; rw [W1.out]; first | rfl | (simp; done) | (simp [hg]; done) | (simp [hg, h6, h7]; done)
          have X2 : Hid (exitF e.g (l.take (k + 1)) = true) := by show _ = _; rw [X1.out]; first | rfl | (simp; done) | (simp [hg]; done) | (simp [h11]; done)
          have P2 : Hid (panF (l.take (k + 1)) = false) := by show _ = _; rw [P1.out]; first | rfl | (simp; done) | (simp [h12]; done)
          clear T1 W1 X1 P1
          go_wp2_with fail
          go_roundw
          case rel => exact ⟨k + 1, by omega, by go_num, by first | (rw [T2.out]; done) | (rw [T2.out]; go_num), by rw [W2.out], by rw [X2.out], P2.out, btr HB.out (below_alloc _ _)⟩
          case measure => simp [intOf]; omega
        have d11 : (xk == 11) = false := by simp [h11]
        have T2 : Hid (there (l.take (k + 1)) = n0) := by show _ = _; rw [T1.out]; first | rfl | (simp; done) | (simp [h1]; done)
        have W2 : Hid (waitsF e.g (l.take (k + 1)) = a0) := by show _ = _; rw [W1.out]; first | rfl | (simp; done) | (simp [hg]; done) | (simp [hg, h6, h7]; done)
        have X2 : Hid (exitF e.g (l.take (k + 1)) = x0) := by show _ = _; rw [X1.out]; first | rfl | (simp; done) | (simp [hg]; done) | (simp [h11]; done)
        have P2 : Hid (panF (l.take (k + 1)) = false) := by show _ = _; rw [P1.out]; first | rfl | (simp; done) | (simp [h12]; done)
        clear T1 W1 X1 P1
        go_wp2_with fail
        go_roundw
        case rel => exact ⟨k + 1, by omega, by go_num, by first | (rw [T2.out]; done) | (rw [T2.out]; go_num), by rw [W2.out], by rw [X2.out], P2.out, btr HB.out (below_alloc _ _)⟩
        case measure => simp [intOf]; omega
      · have dg : (xg != e.g) = true := by simp [hg]
        by_cases h1 : xk = 1
        · subst h1
          have T2 : Hid (there (l.take (k + 1)) = n0 + 1) := by show _ = _; rw [T1.out]; first | rfl | (simp; done) | (simp [h1]; done)
          have W2 : Hid (waitsF e.g (l.take (k + 1)) = a0) := by show _ = _; rw [W1.out]; first | rfl | (simp; done) | (simp [hg]; done) | (simp [hg, h6, h7]; done)
          have X2 : Hid (exitF e.g (l.take (k + 1)) = x0) := by show _ = _; rw [X1.out]; first | rfl | (simp; done) | (simp [hg]; done) | (simp [h11]; done)
          have P2 : Hid (panF (l.take (k + 1)) = false) := by show _ = _; rw [P1.out]; first | rfl | (simp; done) | (simp [h12]; done)
          clear T1 W1 X1 P1
          go_wp2_with fail
          go_roundw
          case rel => exact ⟨k + 1, by omega, by go_num, by first | (rw [T2.out]; done) | (rw [T2.out]; go_num), by rw [W2.out], by rw [X2.out], P2.out, btr HB.out (below_alloc _ _)⟩
          case measure => simp [intOf]; omega
        have d1 : (xk == 1) = false := by simp [h1]
        have T2 : Hid (there (l.take (k + 1)) = n0) := by show _ = _; rw [T1.out]; first | rfl | (simp; done) | (simp [h1]; done)
        have W2 : Hid (waitsF e.g (l.take (k + 1)) = a0) := by show _ = _; rw [W1.out]; first | rfl | (simp; done) | (simp [hg]; done) | (simp [hg, h6, h7]; done)
        have X2 : Hid (exitF e.g (l.take (k + 1)) = x0) := by show _ = _; rw [X1.out]; first | rfl | (simp; done) | (simp [hg]; done) | (simp [h11]; done)
        have P2 : Hid (panF (l.take (k + 1)) = false) := by show _ = _; rw [P1.out]; first | rfl | (simp; done) | (simp [h12]; done)
        clear T1 W1 X1 P1
        go_wp2_with fail
        go_roundw
        case rel => exact ⟨k + 1, by omega, by go_num, by first | (rw [T2.out]; done) | (rw [T2.out]; go_num), by rw [W2.out], by rw [X2.out], P2.out, btr HB.out (below_alloc _ _)⟩
        case measure => simp [intOf]; omega
    · have hki : k = i := by omega
      subst hki
      have hlt' : ¬ ((k : Int) < (k : Int)) := by omega
      have CR : Hid (res = (decide (e.k = 13) || (decide (e.g < there (l.take k)) && !exitF e.g (l.take k) && (decide (e.k = 12) || waitsF e.g (l.take k) == decide (e.k = 7)) && (decide (e.k ≠ 1) || decide (e.m = there (l.take k)))))) := by
        show _ = _
        rw [← HR.out]
        unfold crew
        rw [HP.out]; rfl
      clear HR HP
      obtain ⟨n0, hn0⟩ : ∃ n0, there (l.take k) = n0 := ⟨_, rfl⟩
      obtain ⟨a0, ha0⟩ : ∃ a0, waitsF e.g (l.take k) = a0 := ⟨_, rfl⟩
      obtain ⟨x0, hx0⟩ : ∃ x0, exitF e.g (l.take k) = x0 := ⟨_, rfl⟩
      rw [hn0, ha0, hx0] at CR
      rw [hn0, ha0, hx0]
      clear hn0 ha0 hx0 ML
      by_cases h13 : e.k = 13
      · have d13 : (e.k == 13) = true := by simp [h13]
        have C : Hid (res = true) := by show _ = _; rw [CR.out]; simp [h13]
        go_wp2_with fail
        go_ret
        exact ⟨ret_bool C.out.symm, btr B0.out HB.out⟩
      have d13 : (e.k == 13) = false := by simp [h13]
      by_cases hg : e.g < (n0 : Int)
      case neg =>
        have dg : decide (e.g < (n0 : Int)) = false := by simp [hg]
        have C : Hid (res = false) := by show _ = _; rw [CR.out]; first | (simp; done) | (simp [h13]; done) | (simp [hg]; done) | (simp [h13, hg]; done)
        clear CR
        go_wp2_with fail
        go_ret
        exact ⟨ret_bool C.out.symm, btr B0.out HB.out⟩
      have dg : decide (e.g < (n0 : Int)) = true := by simp [hg]
      cases x0
      case true =>
        have C : Hid (res = false) := by show _ = _; rw [CR.out]; first | (simp; done) | (simp [h13]; done) | (simp [hg]; done) | (simp [h13, hg]; done)
        clear CR
        go_wp2_with fail
        go_ret
        exact ⟨ret_bool C.out.symm, btr B0.out HB.out⟩
      by_cases h12 : e.k = 12
      · have d12 : (e.k == 12) = true := by simp [h12]
        have d1 : (e.k != 1) = true := by simp [h12]
        have C : Hid (res = true) := by show _ = _; rw [CR.out]; first | (simp; done) | (simp [h12]; done) | (simp [hg]; done) | (simp [h12, hg]; done)
        clear CR
        go_wp2_with fail
        go_ret
        exact ⟨ret_bool C.out.symm, btr B0.out HB.out⟩
      have d12 : (e.k == 12) = false := by simp [h12]
      by_cases h7 : e.k = 7
      · have d7 : (e.k == 7) = true := by simp [h7]
        have d1 : (e.k != 1) = true := by simp [h7]
        cases a0
        case true =>
          have C : Hid (res = true) := by show _ = _; rw [CR.out]; first | (simp; done) | (simp [h7]; done) | (simp [hg]; done) | (simp [h7, hg]; done)
          clear CR
          go_wp2_with fail
          go_ret
          exact ⟨ret_bool C.out.symm, btr B0.out HB.out⟩
        case false =>
          have C : Hid (res = false) := by show _ = _; rw [CR.out]; first | (simp; done) | (simp [h7]; done) | (simp [hg]; done) | (simp [h7, hg]; done)
          clear CR
          go_wp2_with fail
          go_ret
          exact ⟨ret_bool C.out.symm, btr B0.out HB.out⟩
      have d7 : (e.k == 7) = false := by simp [h7]
      cases a0
      case true =>
        have C : Hid (res = false) := by show _ = _; rw [CR.out]; first | (simp; done) | (simp [h7]; done) | (simp [h12]; done) | (simp [h13]; done) | (simp [hg]; done) | (simp [h7, h12]; done) | (simp [h7, h13]; done) | (simp [h7, hg]; done) | (simp [h12, h13]; done) | (simp [h12, hg]; done) | (simp [h13, hg]; done) | (simp [h7, h12, h13]; done) | (simp [h7, h12, hg]; done) | (simp [h7, h13, hg]; done) | (simp [h12, h13, hg]; done) | (simp [h7, h12, h13, hg]; done)
        clear CR
        go_wp2_with fail
        go_ret
        exact ⟨ret_bool C.out.symm, btr B0.out HB.out⟩
      by_cases h1 : e.k = 1
      · have d1 : (e.k != 1) = false := by simp [h1]
        by_cases hm : e.m = (n0 : Int)
        · have dm : (e.m == (n0 : Int)) = true := by simp [hm]
          have C : Hid (res = true) := by show _ = _; rw [CR.out]; first | (simp; done) | (simp [h1]; done) | (simp [hg]; done) | (simp [hm]; done) | (simp [h1, hg]; done) | (simp [h1, hm]; done) | (simp [hg, hm]; done) | (simp [h1, hg, hm]; done)
          clear CR
          go_wp2_with fail
          go_ret
          exact ⟨ret_bool C.out.symm, btr B0.out HB.out⟩
        · have dm : (e.m == (n0 : Int)) = false := by simp [hm]
          have C : Hid (res = false) := by show _ = _; rw [CR.out]; first | (simp; done) | (simp [h1]; done) | (simp [hg]; done) | (simp [hm]; done) | (simp [h1, hg]; done) | (simp [h1, hm]; done) | (simp [hg, hm]; done) | (simp [h1, hg, hm]; done)
          clear CR
          go_wp2_with fail
          go_ret
          exact ⟨ret_bool C.out.symm, btr B0.out HB.out⟩
      have d1 : (e.k != 1) = true := by simp [h1]
      have C : Hid (res = true) := by show _ = _; rw [CR.out]; first | (simp; done) | (simp [h1]; done) | (simp [h7]; done) | (simp [h12]; done) | (simp [h13]; done) | (simp [hg]; done) | (simp [h1, h7]; done) | (simp [h1, h12]; done) | (simp [h1, h13]; done) | (simp [h1, hg]; done) | (simp [h7, h12]; done) | (simp [h7, h13]; done) | (simp [h7, hg]; done) | (simp [h12, h13]; done) | (simp [h12, hg]; done) | (simp [h13, hg]; done) | (simp [h1, h7, h12]; done) | (simp [h1, h7, h13]; done) | (simp [h1, h7, hg]; done) | (simp [h1, h12, h13]; done) | (simp [h1, h12, hg]; done) | (simp [h1, h13, hg]; done) | (simp [h7, h12, h13]; done) | (simp [h7, h12, hg]; done) | (simp [h7, h13, hg]; done) | (simp [h12, h13, hg]; done) | (simp [h1, h7, h12, h13]; done) | (simp [h1, h7, h12, hg]; done) | (simp [h1, h7, h13, hg]; done) | (simp [h1, h12, h13, hg]; done) | (simp [h7, h12, h13, hg]; done) | (simp [h1, h7, h12, h13, hg]; done)
      clear CR
      go_wp2_with fail
      go_ret
      exact ⟨ret_bool C.out.symm, btr B0.out HB.out⟩
end Gu
end Go.Proofs.Ytdpadpmhbmimkaa
