/- The document's gauge, over this seat's program: Check. -/
import Derived.Test.YtdpadpmhbmimkaaGu3
import Derived.Test.YtdpadpmhbmimkaaGu6
import Derived.Test.YtdpadpmhbmimkaaNu
namespace Go.Proofs.Ytdpadpmhbmimkaa
open Go.ChangeShapes Go.WideShapes Go.ChangeAt Go.RowKit
namespace Gu
open En Ba

/-- the rule that is broken, and where -/
def Chk (l : List Ev) (n a : Int) : Prop :=
  (∃ (i : Nat) (e : Ev), l[i]? = some e ∧ ruleD l i e ≠ 0 ∧ n = ruleD l i e ∧ a = (i : Int) ∧ ∀ j, j < i → ∀ x, l[j]? = some x → ruleD l j x = 0) ∨
  ((∀ j x, l[j]? = some x → ruleD l j x = 0) ∧ (n, a) = if l.getLast?.any serves = true then (4, (l.length : Int)) else (0, 0))
theorem Chk.eq {l : List Ev} {n a n' a' : Int} (h : Chk l n a) (h' : Chk l n' a') : n = n' ∧ a = a' := by
  rcases h with ⟨i, e, he, hn, rfl, rfl, hj⟩ | ⟨ha, hr⟩ <;> rcases h' with ⟨i', e', he', hn', rfl, rfl, hj'⟩ | ⟨ha', hr'⟩
  · have : i = i' := by
      rcases Nat.lt_trichotomy i i' with q | q | q
      · exact absurd (hj' i q e he) hn
      · exact q
      · exact absurd (hj i' q e' he') hn'
    subst this
    rw [he] at he'
    cases he'
    exact ⟨rfl, rfl⟩
  · exact absurd (ha' i e he) hn
  · exact absurd (ha i' e' he') hn'
  · rw [← hr'] at hr
    exact ⟨congrArg Prod.fst hr, congrArg Prod.snd hr⟩
theorem size_brk : (Try.prog.info? 27).map (·.size) = some 2 := by kernel_rfl
theorem loadVar_brk {w : World} {b : Nat} {c : Array Value} {t : TypeId} (h : w.heap[b]? = some (.cells c t (0, 0))) (hc : c.size = 2) : (loadVar 27 ⟨b, 0, none⟩).run Try.prog w = .ok (.agg c) w :=
  run_loadVar_row w b t _ _ _ _ h Try.underlying27 rfl (by rw [size_brk, hc])
theorem ruleD_of (l : List Ev) (i : Nat) (e : Ev) (b2 b3 b4 b5 b6 : Bool) (hi : i < 2000) (h2 : crew (l.take i) e = b2) (h3 : made (l.take i) e = b3) (h4 : served (l.take i).reverse e = b4) (h5 : ordered (inn l i e.c) e l[i + 1]? = b5) (h6 : closedF (inn l i e.c) e = b6) :
    ruleD l i e = if chk e ≠ 0 then 1 else if b2 = false then 2 else if b3 = false then 3 else if b4 = false then 4 else if b5 = false then 5 else if b6 = false then 6 else 0 := by
  unfold ruleD
  rw [h2, h3, h4, h5, h6]
  by_cases h : chk e ≠ 0
  · rw [if_pos (.inr h), if_pos h]
  · rw [if_neg (fun q => q.elim (fun q => by omega) h), if_neg h]
set_option maxRecDepth 100000 in
set_option maxHeartbeats 12800000 in
theorem rcheck14_any (oa : Option Addr) (l : List Ev) (c : Nat) (w : World) (hA : EsAt w oa l) (hl : l.length ≤ 2000) (hc : l.length ≤ c) :
    Calls Try.prog 6 #[.slice oa l.length c] w fun r w' => (∃ n a, r = .returned (.agg #[.int .i64 n, .int .i64 a]) ∧ Chk l n a) ∧ Below w.heap.size w w' := by
  have HA := hide hA
  clear hA
  obtain ⟨M, hM⟩ : ∃ M, l.length = M := ⟨_, rfl⟩
  have HM := hide hM
  have hl2 := hide hl
  have hc2 := hide hc
  rw [hM] at hl hc ⊢
  clear hM
  have R0 := hide (heap_new w (.cells #[.int .i64 0, .int .i64 0] 27))
  have B0 := hide (below_alloc w (.cells #[.int .i64 0, .int .i64 0] 27))
  go_enter Try.func6, Try.ntmps6
  go_wp2_with fail
  go_loopw [6] (fun i wr => ∃ k : Nat, k ≤ M ∧ i = .int .i64 (k : Int) ∧ (∀ j, j < k → ∀ x, l[j]? = some x → ruleD l j x = 0) ∧ wr.heap[w.heap.size]? = some (.cells #[.int .i64 0, .int .i64 0] 27 (0, 0)) ∧ Below w.heap.size w wr) (fun i _ => M - (intOf i).toNat)
  case atStart => exact ⟨0, Nat.zero_le _, rfl, fun j hj => absurd hj (Nat.not_lt_zero _), R0.out, B0.out⟩
  case round =>
    obtain ⟨k, hk, rfl, hall, rr, bl⟩ := hrel
    clear R0 B0
    have ALL := hide hall
    have RR0 := hide rr
    have BL0 := hide bl
    have ES0 := hide (HA.out.below bl)
    clear hall rr bl
    by_cases hlt : k < M
    · have hlt' : (k : Int) < (M : Int) := by omega
      obtain ⟨x, hx⟩ : ∃ x, l[k]? = some x := ⟨_, List.getElem?_eq_getElem (by rw [HM.out]; omega)⟩
      have HX := hide hx
      obtain ⟨b1, o1, rfl, -⟩ := ES0.out k x hx
      obtain ⟨p0, p1, p2, p3, p4, p5, p6, p7⟩ := ES0.out.read hx
      have d0 : decide ((2000 : Int) ≤ (k : Int)) = false := by simp; omega
      have d00 : decide (2000 ≤ k) = false := by simp; omega
      obtain ⟨b2, h2⟩ : ∃ b, crew (l.take k) x = b := ⟨_, rfl⟩
      obtain ⟨b3, h3⟩ : ∃ b, made (l.take k) x = b := ⟨_, rfl⟩
      obtain ⟨b4, h4⟩ : ∃ b, served (l.take k).reverse x = b := ⟨_, rfl⟩
      obtain ⟨b5, h5⟩ : ∃ b, ordered (inn l k x.c) x l[k + 1]? = b := ⟨_, rfl⟩
      obtain ⟨b6, h6⟩ : ∃ b, closedF (inn l k x.c) x = b := ⟨_, rfl⟩
      have RD := hide (ruleD_of l k x b2 b3 b4 b5 b6 (by omega) h2 h3 h4 h5 h6)
      have C1 := hide (fun u => rcheck_any x u)
      unfold evv evc at C1
      have C2 := hide (fun u (h : EsAt u (some ⟨b1, o1, none⟩) l) => rcrew_any (some ⟨b1, o1, none⟩) l c k x u h hx (by have := hl2.out; omega) hc2.out)
      have C3 := hide (fun u (h : EsAt u (some ⟨b1, o1, none⟩) l) => rmade_any (some ⟨b1, o1, none⟩) l c k x u h hx (by have := hl2.out; omega) hc2.out)
      have C4 := hide (fun u (h : EsAt u (some ⟨b1, o1, none⟩) l) => rserved_any (some ⟨b1, o1, none⟩) l c k x u h hx (by have := hl2.out; omega))
      have C5 := hide (fun u (h : EsAt u (some ⟨b1, o1, none⟩) l) => rordered_any (some ⟨b1, o1, none⟩) l c k x u h hx hl2.out)
      have C6 := hide (fun u (h : EsAt u (some ⟨b1, o1, none⟩) l) => rclosed_any (some ⟨b1, o1, none⟩) l c k x u h hx hl2.out)
      rw [h2] at C2
      rw [h3] at C3
      rw [h4] at C4
      rw [h5] at C5
      rw [h6] at C6
      rw [HM.out] at C2 C3 C4 C5 C6
      clear h2 h3 h4 h5 h6 hx
      obtain ⟨q, hq⟩ : ∃ q, chk x = q := ⟨_, rfl⟩
      rw [hq] at C1 RD
      clear hq
      go_wp2_with fail
      refine (C1.out _).mono ?_
      rintro r w1 ⟨rfl, bb⟩
      have RR1 := hide (heap_below RR0.out bb)
      have BL1 := hide (btr BL0.out bb)
      have ES1 := hide (ES0.out.below bb)
      clear bb
      by_cases hq0 : q = 0
      case neg =>
        have dq : (q != 0) = true := by simp [hq0]
        rw [if_pos hq0] at RD
        have r0 : w1.cell? ⟨w.heap.size, 0, none⟩ = some (.int .i64 0) := cell_of RR1.out 0
        have r1 : w1.cell? ⟨w.heap.size, 1, none⟩ = some (.int .i64 0) := cell_of RR1.out 1
        have f0 := frozen_of RR1.out 0
        have f1 := frozen_of RR1.out 1
        have E1 : Hid (((w1.setCell ⟨w.heap.size, 0, none⟩ (.int .i64 1)).setCell ⟨w.heap.size, 1, none⟩ (.int .i64 (k : Int))).heap[w.heap.size]? = some (.cells #[.int .i64 1, .int .i64 (k : Int)] 27 (0, 0))) := Ba.heap_setCell_same (Ba.heap_setCell_same RR1.out _) _
        have K1 := hide (((KB.refl w.heap.size w1).setCell 0 (.int .i64 1)).setCell 1 (.int .i64 (k : Int)))
        have FIN : Hid (Chk l 1 (k : Int)) := .inl ⟨k, x, HX.out, by rw [RD.out]; decide, RD.out.symm, rfl, ALL.out⟩
        go_wp2_with fail
        exact bodyPost_ret (En.results_row1 Try.results6 _ _ _ _ rfl (loadVar_brk E1.out rfl)) rfl ⟨⟨_, _, rfl, FIN.out⟩, KB.below BL1.out K1.out (Nat.le_refl _)⟩
      have dq : (q != 0) = false := by simp [hq0]
      rw [if_neg (by simpa using hq0)] at RD
      clear hq0
      go_wp2_with fail
      refine (C2.out _ ES1.out).mono ?_
      rintro r w2 ⟨rfl, bb⟩
      have RR2 := hide (heap_below RR1.out bb)
      have BL2 := hide (btr BL1.out bb)
      have ES2 := hide (ES1.out.below bb)
      clear bb
      cases b2
      · rw [if_pos rfl] at RD
        have r0 : w2.cell? ⟨w.heap.size, 0, none⟩ = some (.int .i64 0) := cell_of RR2.out 0
        have r1 : w2.cell? ⟨w.heap.size, 1, none⟩ = some (.int .i64 0) := cell_of RR2.out 1
        have f0 := frozen_of RR2.out 0
        have f1 := frozen_of RR2.out 1
        have E1 : Hid (((w2.setCell ⟨w.heap.size, 0, none⟩ (.int .i64 2)).setCell ⟨w.heap.size, 1, none⟩ (.int .i64 (k : Int))).heap[w.heap.size]? = some (.cells #[.int .i64 2, .int .i64 (k : Int)] 27 (0, 0))) := Ba.heap_setCell_same (Ba.heap_setCell_same RR2.out _) _
        have K1 := hide (((KB.refl w.heap.size w2).setCell 0 (.int .i64 2)).setCell 1 (.int .i64 (k : Int)))
        have FIN : Hid (Chk l 2 (k : Int)) := .inl ⟨k, x, HX.out, by rw [RD.out]; decide, RD.out.symm, rfl, ALL.out⟩
        go_wp2_with fail
        exact bodyPost_ret (En.results_row1 Try.results6 _ _ _ _ rfl (loadVar_brk E1.out rfl)) rfl ⟨⟨_, _, rfl, FIN.out⟩, KB.below BL2.out K1.out (Nat.le_refl _)⟩
      rw [if_neg (by simp)] at RD
      go_wp2_with fail
      refine (C3.out _ ES2.out).mono ?_
      rintro r w3 ⟨rfl, bb⟩
      have RR3 := hide (heap_below RR2.out bb)
      have BL3 := hide (btr BL2.out bb)
      have ES3 := hide (ES2.out.below bb)
      clear bb
      cases b3
      · rw [if_pos rfl] at RD
        have r0 : w3.cell? ⟨w.heap.size, 0, none⟩ = some (.int .i64 0) := cell_of RR3.out 0
        have r1 : w3.cell? ⟨w.heap.size, 1, none⟩ = some (.int .i64 0) := cell_of RR3.out 1
        have f0 := frozen_of RR3.out 0
        have f1 := frozen_of RR3.out 1
        have E1 : Hid (((w3.setCell ⟨w.heap.size, 0, none⟩ (.int .i64 3)).setCell ⟨w.heap.size, 1, none⟩ (.int .i64 (k : Int))).heap[w.heap.size]? = some (.cells #[.int .i64 3, .int .i64 (k : Int)] 27 (0, 0))) := Ba.heap_setCell_same (Ba.heap_setCell_same RR3.out _) _
        have K1 := hide (((KB.refl w.heap.size w3).setCell 0 (.int .i64 3)).setCell 1 (.int .i64 (k : Int)))
        have FIN : Hid (Chk l 3 (k : Int)) := .inl ⟨k, x, HX.out, by rw [RD.out]; decide, RD.out.symm, rfl, ALL.out⟩
        go_wp2_with fail
        exact bodyPost_ret (En.results_row1 Try.results6 _ _ _ _ rfl (loadVar_brk E1.out rfl)) rfl ⟨⟨_, _, rfl, FIN.out⟩, KB.below BL3.out K1.out (Nat.le_refl _)⟩
      rw [if_neg (by simp)] at RD
      go_wp2_with fail
      refine (C4.out _ ES3.out).mono ?_
      rintro r w4 ⟨rfl, bb⟩
      have RR4 := hide (heap_below RR3.out bb)
      have BL4 := hide (btr BL3.out bb)
      have ES4 := hide (ES3.out.below bb)
      clear bb
      cases b4
      · rw [if_pos rfl] at RD
        have r0 : w4.cell? ⟨w.heap.size, 0, none⟩ = some (.int .i64 0) := cell_of RR4.out 0
        have r1 : w4.cell? ⟨w.heap.size, 1, none⟩ = some (.int .i64 0) := cell_of RR4.out 1
        have f0 := frozen_of RR4.out 0
        have f1 := frozen_of RR4.out 1
        have E1 : Hid (((w4.setCell ⟨w.heap.size, 0, none⟩ (.int .i64 4)).setCell ⟨w.heap.size, 1, none⟩ (.int .i64 (k : Int))).heap[w.heap.size]? = some (.cells #[.int .i64 4, .int .i64 (k : Int)] 27 (0, 0))) := Ba.heap_setCell_same (Ba.heap_setCell_same RR4.out _) _
        have K1 := hide (((KB.refl w.heap.size w4).setCell 0 (.int .i64 4)).setCell 1 (.int .i64 (k : Int)))
        have FIN : Hid (Chk l 4 (k : Int)) := .inl ⟨k, x, HX.out, by rw [RD.out]; decide, RD.out.symm, rfl, ALL.out⟩
        go_wp2_with fail
        exact bodyPost_ret (En.results_row1 Try.results6 _ _ _ _ rfl (loadVar_brk E1.out rfl)) rfl ⟨⟨_, _, rfl, FIN.out⟩, KB.below BL4.out K1.out (Nat.le_refl _)⟩
      rw [if_neg (by simp)] at RD
      go_wp2_with fail
      refine (C5.out _ ES4.out).mono ?_
      rintro r w5 ⟨rfl, bb⟩
      have RR5 := hide (heap_below RR4.out bb)
      have BL5 := hide (btr BL4.out bb)
      have ES5 := hide (ES4.out.below bb)
      clear bb
      cases b5
      · rw [if_pos rfl] at RD
        have r0 : w5.cell? ⟨w.heap.size, 0, none⟩ = some (.int .i64 0) := cell_of RR5.out 0
        have r1 : w5.cell? ⟨w.heap.size, 1, none⟩ = some (.int .i64 0) := cell_of RR5.out 1
        have f0 := frozen_of RR5.out 0
        have f1 := frozen_of RR5.out 1
        have E1 : Hid (((w5.setCell ⟨w.heap.size, 0, none⟩ (.int .i64 5)).setCell ⟨w.heap.size, 1, none⟩ (.int .i64 (k : Int))).heap[w.heap.size]? = some (.cells #[.int .i64 5, .int .i64 (k : Int)] 27 (0, 0))) := Ba.heap_setCell_same (Ba.heap_setCell_same RR5.out _) _
        have K1 := hide (((KB.refl w.heap.size w5).setCell 0 (.int .i64 5)).setCell 1 (.int .i64 (k : Int)))
        have FIN : Hid (Chk l 5 (k : Int)) := .inl ⟨k, x, HX.out, by rw [RD.out]; decide, RD.out.symm, rfl, ALL.out⟩
        go_wp2_with fail
        exact bodyPost_ret (En.results_row1 Try.results6 _ _ _ _ rfl (loadVar_brk E1.out rfl)) rfl ⟨⟨_, _, rfl, FIN.out⟩, KB.below BL5.out K1.out (Nat.le_refl _)⟩
      rw [if_neg (by simp)] at RD
      go_wp2_with fail
      refine (C6.out _ ES5.out).mono ?_
      rintro r w6 ⟨rfl, bb⟩
      have RR6 := hide (heap_below RR5.out bb)
      have BL6 := hide (btr BL5.out bb)
      have ES6 := hide (ES5.out.below bb)
      clear bb
      cases b6
      · rw [if_pos rfl] at RD
        have r0 : w6.cell? ⟨w.heap.size, 0, none⟩ = some (.int .i64 0) := cell_of RR6.out 0
        have r1 : w6.cell? ⟨w.heap.size, 1, none⟩ = some (.int .i64 0) := cell_of RR6.out 1
        have f0 := frozen_of RR6.out 0
        have f1 := frozen_of RR6.out 1
        have E1 : Hid (((w6.setCell ⟨w.heap.size, 0, none⟩ (.int .i64 6)).setCell ⟨w.heap.size, 1, none⟩ (.int .i64 (k : Int))).heap[w.heap.size]? = some (.cells #[.int .i64 6, .int .i64 (k : Int)] 27 (0, 0))) := Ba.heap_setCell_same (Ba.heap_setCell_same RR6.out _) _
        have K1 := hide (((KB.refl w.heap.size w6).setCell 0 (.int .i64 6)).setCell 1 (.int .i64 (k : Int)))
        have FIN : Hid (Chk l 6 (k : Int)) := .inl ⟨k, x, HX.out, by rw [RD.out]; decide, RD.out.symm, rfl, ALL.out⟩
        go_wp2_with fail
        exact bodyPost_ret (En.results_row1 Try.results6 _ _ _ _ rfl (loadVar_brk E1.out rfl)) rfl ⟨⟨_, _, rfl, FIN.out⟩, KB.below BL6.out K1.out (Nat.le_refl _)⟩
      rw [if_neg (by simp)] at RD
      have ALL2 : Hid (∀ j, j < k + 1 → ∀ y, l[j]? = some y → ruleD l j y = 0) := fun j hj y hy => by
        by_cases e : j = k
        · subst e
          rw [HX.out] at hy
          cases hy
          exact RD.out
        · exact ALL.out j (by omega) y hy
      clear ALL RD
      go_wp2_with fail
      go_roundw
      case rel => exact ⟨k + 1, by omega, by go_num, ALL2.out, RR6.out, BL6.out⟩
      case measure => simp [intOf]; omega
    · have hlt' : ¬ ((k : Int) < (M : Int)) := by omega
      obtain rfl : k = M := by omega
      have ALL2 : Hid (∀ j y, l[j]? = some y → ruleD l j y = 0) := fun j y hy => ALL.out j (by have := (List.getElem?_eq_some_iff.1 hy).1; have := HM.out; omega) y hy
      have r0 : wr.cell? ⟨w.heap.size, 0, none⟩ = some (.int .i64 0) := cell_of RR0.out 0
      have r1 : wr.cell? ⟨w.heap.size, 1, none⟩ = some (.int .i64 0) := cell_of RR0.out 1
      have f0 := frozen_of RR0.out 0
      have f1 := frozen_of RR0.out 1
      have E0 : Hid (((wr.setCell ⟨w.heap.size, 0, none⟩ (.int .i64 0)).setCell ⟨w.heap.size, 1, none⟩ (.int .i64 0)).heap[w.heap.size]? = some (.cells #[.int .i64 0, .int .i64 0] 27 (0, 0))) := Ba.heap_setCell_same (Ba.heap_setCell_same RR0.out _) _
      have K0 := hide (((KB.refl w.heap.size wr).setCell 0 (.int .i64 0)).setCell 1 (.int .i64 0))
      by_cases hk0 : k = 0
      · have g1 : decide ((0 : Int) < (k : Int)) = false := by simp; omega
        have g2 : decide (0 < k) = false := by simp; omega
        have FIN : Hid (Chk l 0 0) := .inr ⟨ALL2.out, by
          have : l = [] := List.length_eq_zero_iff.1 (by rw [HM.out]; exact hk0)
          rw [this]; rfl⟩
        clear hk0
        go_wp2_with fail
        exact bodyPost_ret (En.results_row1 Try.results6 _ _ _ _ rfl (loadVar_brk E0.out rfl)) rfl ⟨⟨_, _, rfl, FIN.out⟩, KB.below BL0.out K0.out (Nat.le_refl _)⟩
      · have g1 : decide ((0 : Int) < (k : Int)) = true := by simp; omega
        have g2 : decide (0 < k) = true := by simp; omega
        obtain ⟨kp, hkp⟩ : ∃ kp, k - 1 = kp := ⟨_, rfl⟩
        have kp1 : (k : Int) - 1 = (kp : Int) := by omega
        have kp2 : (kp : Int) < (k : Int) := by omega
        obtain ⟨x, hx⟩ : ∃ x, l[kp]? = some x := ⟨_, List.getElem?_eq_getElem (by rw [HM.out]; omega)⟩
        obtain ⟨b1, o1, rfl, -⟩ := ES0.out kp x hx
        obtain ⟨p0, p1, p2, p3, p4, p5, p6, p7⟩ := ES0.out.read hx
        have LA : Hid (l.getLast? = some x) := by show _ = _; rw [List.getLast?_eq_getElem?, HM.out, hkp]; exact hx
        have SV := hide (fun u => rserves_any x u)
        unfold evv evc at SV
        obtain ⟨q, hq⟩ : ∃ q, serves x = q := ⟨_, rfl⟩
        have FIN : Hid (Chk l (if q = true then 4 else 0) (if q = true then (k : Int) else 0)) := .inr ⟨ALL2.out, by
          rw [LA.out, HM.out]
          simp only [Option.any_some, hq]
          cases q <;> rfl⟩
        rw [hq] at SV
        clear hq hx hkp hk0
        go_wp2_with fail
        refine (SV.out _).mono ?_
        rintro r w1 ⟨rfl, bb⟩
        have RR1 := hide (heap_below RR0.out bb)
        have BL1 := hide (btr BL0.out bb)
        clear bb r0 r1 f0 f1 E0 K0
        have r0 : w1.cell? ⟨w.heap.size, 0, none⟩ = some (.int .i64 0) := cell_of RR1.out 0
        have r1 : w1.cell? ⟨w.heap.size, 1, none⟩ = some (.int .i64 0) := cell_of RR1.out 1
        have f0 := frozen_of RR1.out 0
        have f1 := frozen_of RR1.out 1
        cases q
        · have E1 : Hid (((w1.setCell ⟨w.heap.size, 0, none⟩ (.int .i64 0)).setCell ⟨w.heap.size, 1, none⟩ (.int .i64 0)).heap[w.heap.size]? = some (.cells #[.int .i64 0, .int .i64 0] 27 (0, 0))) := Ba.heap_setCell_same (Ba.heap_setCell_same RR1.out _) _
          have K1 := hide (((KB.refl w.heap.size w1).setCell 0 (.int .i64 0)).setCell 1 (.int .i64 0))
          go_wp2_with fail
          exact bodyPost_ret (En.results_row1 Try.results6 _ _ _ _ rfl (loadVar_brk E1.out rfl)) rfl ⟨⟨_, _, rfl, FIN.out⟩, KB.below BL1.out K1.out (Nat.le_refl _)⟩
        · have E1 : Hid (((w1.setCell ⟨w.heap.size, 0, none⟩ (.int .i64 4)).setCell ⟨w.heap.size, 1, none⟩ (.int .i64 (k : Int))).heap[w.heap.size]? = some (.cells #[.int .i64 4, .int .i64 (k : Int)] 27 (0, 0))) := Ba.heap_setCell_same (Ba.heap_setCell_same RR1.out _) _
          have K1 := hide (((KB.refl w.heap.size w1).setCell 0 (.int .i64 4)).setCell 1 (.int .i64 (k : Int)))
          go_wp2_with fail
          exact bodyPost_ret (En.results_row1 Try.results6 _ _ _ _ rfl (loadVar_brk E1.out rfl)) rfl ⟨⟨_, _, rfl, FIN.out⟩, KB.below BL1.out K1.out (Nat.le_refl _)⟩
end Gu
end Go.Proofs.Ytdpadpmhbmimkaa
