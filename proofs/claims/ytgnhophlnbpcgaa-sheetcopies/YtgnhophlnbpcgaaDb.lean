/- Package deed: Check, over this seat's program. -/
import Derived.Test.YtgnhophlnbpcgaaDa
import Derived.LoopN
namespace Go.Proofs.Ytgnhophlnbpcgaa
open Go.ChangeShapes Go.WideShapes Go.ChangeAt Go.RowKit
namespace De
open Ba Re

theorem all_no {l : List Cs} {j : Nat} {x : Cs} (hx : l[j]? = some x) (h : okC x = false) : l.all okC = false := by
  rw [List.all_eq_false]
  exact ⟨x, List.mem_of_getElem? hx, by simp [h]⟩
theorem all_yes {l : List Cs} (h : ∀ (q : Nat) (x : Cs), l[q]? = some x → okC x = true) : l.all okC = true := by
  rw [List.all_eq_true]
  intro x hx
  obtain ⟨q, hq⟩ := List.getElem?_of_mem hx
  exact h q x hq
theorem okP_iff (p : Int) : okP p = true ↔ 1 ≤ p ∧ p ≤ 8 := by simp [okP]

set_option maxHeartbeats 800000 in
theorem check_long (o : OpD) (oa : Option Addr) (c : Nat) (p : Int) (w : World) (hp : okP p = true) (h1 : 1 ≤ o.kind) (h2 : o.kind ≤ 9) (hl : 4 < o.cases.length) (hm : o.cases.length ≤ maxLen) :
    Calls Try.prog 28 #[.agg #[.int .i64 o.kind, .int .i64 o.a, .int .i64 o.b, .slice oa o.cases.length c, .bool o.def_], .int .i64 p] w fun r w' => r = .returned (.int .i64 2) ∧ Below w.heap.size w w' := by
  obtain ⟨k, a, b, cs, d⟩ := o
  unfold maxLen at hm
  simp only at h1 h2 hl hm ⊢
  have HP := hide hp
  have d1 : decide (k < 1) = false := by simp; omega
  have d2 : decide (9 < k) = false := by simp; omega
  have d3 : decide ((4 : Int) < (cs.length : Int)) = true := by simp; omega
  clear hp
  go_enter Try.func28, Try.ntmps28
  go_wp2_with fail
  refine (isCount_any _ _).mono ?_
  rw [HP.out]
  rintro r w1 ⟨rfl, rfl⟩
  go_wp2_with fail
  go_ret
  exact ⟨rfl, below_alloc _ _⟩

set_option maxHeartbeats 1600000 in
theorem check_main (o : OpD) (oa : Option Addr) (c : Nat) (p : Int) (w : World) (hp : okP p = true) (h1 : 1 ≤ o.kind) (h2 : o.kind ≤ 9) (hl : o.cases.length ≤ 4) (hA : CAt w oa o.cases) (x1 x2 x3 x4 : Bool) (hx1 : upB o.a (mA o.kind p) = x1) (hx2 : upB o.b (mB o.kind) = x2) (hx3 : (o.kind == 6) = x3) (hx4 : (o.def_ || decide (0 < o.cases.length)) = x4) :
    Calls Try.prog 28 #[.agg #[.int .i64 o.kind, .int .i64 o.a, .int .i64 o.b, .slice oa o.cases.length c, .bool o.def_], .int .i64 p] w fun r w' => r = .returned (.int .i64 (bif x1 && x2 && (x3 || !x4) && o.cases.all okC then 0 else 4)) ∧ Below w.heap.size w w' := by
  obtain ⟨k, a, b, cs, d⟩ := o
  simp only at h1 h2 hl hA hx1 hx2 hx3 hx4 ⊢
  have HP := hide hp
  have HP2 := hide ((okP_iff p).1 hp)
  have HA := hide hA
  have X1 := hide hx1
  have X2 := hide hx2
  have d1 : decide (k < 1) = false := by simp; omega
  have d2 : decide (9 < k) = false := by simp; omega
  have d3 : decide ((4 : Int) < (cs.length : Int)) = false := by simp; omega
  have d4 : (k != 6) = !x3 := by rw [← hx3]; rfl
  clear hp hA hx1 hx2
  cases x1
  · clear hx3 hx4 d4
    go_enter Try.func28, Try.ntmps28
    go_wp2_with fail
    refine (isCount_any _ _).mono ?_
    rw [HP.out]
    rintro r w1 ⟨rfl, rfl⟩
    go_wp2_with fail
    refine (reach_any k p h1 h2 HP2.out.1 HP2.out.2 _).mono ?_
    rintro r w1 ⟨rfl, rfl⟩
    go_wp2_with fail
    refine (upTo_any _ _ _).mono ?_
    rw [X1.out]
    rintro r w1 ⟨rfl, rfl⟩
    go_wp2_with fail
    go_ret
    exact ⟨rfl, below_alloc _ _⟩
  cases x2
  · clear hx3 hx4 d4
    go_enter Try.func28, Try.ntmps28
    go_wp2_with fail
    refine (isCount_any _ _).mono ?_
    rw [HP.out]
    rintro r w1 ⟨rfl, rfl⟩
    go_wp2_with fail
    refine (reach_any k p h1 h2 HP2.out.1 HP2.out.2 _).mono ?_
    rintro r w1 ⟨rfl, rfl⟩
    go_wp2_with fail
    refine (upTo_any _ _ _).mono ?_
    rw [X1.out]
    rintro r w1 ⟨rfl, rfl⟩
    go_wp2_with fail
    refine (upTo_any _ _ _).mono ?_
    rw [X2.out]
    rintro r w1 ⟨rfl, rfl⟩
    go_wp2_with fail
    go_ret
    exact ⟨rfl, below_alloc _ _⟩
  go_enter Try.func28, Try.ntmps28
  go_wp2_with fail
  refine (isCount_any _ _).mono ?_
  rw [HP.out]
  rintro r w1 ⟨rfl, rfl⟩
  go_wp2_with fail
  refine (reach_any k p h1 h2 HP2.out.1 HP2.out.2 _).mono ?_
  rintro r w1 ⟨rfl, rfl⟩
  go_wp2_with fail
  refine (upTo_any _ _ _).mono ?_
  rw [X1.out]
  rintro r w1 ⟨rfl, rfl⟩
  go_wp2_with fail
  refine (upTo_any _ _ _).mono ?_
  rw [X2.out]
  rintro r w1 ⟨rfl, rfl⟩
  cases x3
  · cases x4
    · have hd : d = false := by
        cases d
        · rfl
        · simp at hx4
      have hc0 : cs = [] := by
        rw [hd] at hx4
        simpa using hx4
      subst hd hc0
      clear hx4 hx3
      go_wp2_with fail
      refine wp_loop_rounds 1 ?_
      rw [rounds_succ]
      go_wp2
      go_ret
      exact ⟨rfl, below_alloc _ _⟩
    · clear hx3
      cases d
      · obtain ⟨x, t, rfl⟩ : ∃ x t, cs = x :: t := by
          cases cs with
          | nil => simp at hx4
          | cons x t => exact ⟨x, t, rfl⟩
        clear hx4
        go_wp2_with fail
        go_ret
        exact ⟨rfl, below_alloc _ _⟩
      · clear hx4
        go_wp2_with fail
        go_ret
        exact ⟨rfl, below_alloc _ _⟩
  · clear hx4 hx3
    have B0 := hide (below_alloc w (.cells #[.int .i64 k, .int .i64 a, .int .i64 b, .slice oa cs.length c, .bool d] 24))
    go_wp2_with fail
    generalize w.alloc (.cells #[.int .i64 k, .int .i64 a, .int .i64 b, .slice oa cs.length c, .bool d] 24) = W at B0 ⊢
    go_loopw [61] (fun i wr => ∃ j : Nat, j ≤ cs.length ∧ i = .int .i64 (j : Int) ∧ (∀ q x, q < j → cs[q]? = some x → okC x = true) ∧ Below w.heap.size w wr) (fun i _ => cs.length - (intOf i).toNat)
    case atStart => exact ⟨0, Nat.zero_le _, rfl, fun q x hq => absurd hq (Nat.not_lt_zero _), B0.out⟩
    case round =>
      clear B0
      obtain ⟨j, hj, rfl, hall, hb⟩ := hrel
      have HK := hide hall
      have HB := hide hb
      clear hall hb
      by_cases hlt : j < cs.length
      · have hlt' : decide ((j : Int) < (cs.length : Int)) = true := by simp; omega
        obtain ⟨x, hx⟩ : ∃ x, cs[j]? = some x := ⟨cs[j], by simp [hlt]⟩
        obtain ⟨b', off, rfl, q1, q2, q3⟩ := (HA.out.below HB.out) j x hx
        have HX := hide hx
        clear hx
        cases hok : okC x
        · have HO := hide hok
          clear hok
          go_wp2_with fail
          refine (isCase_any x _).mono ?_
          rw [HO.out]
          rintro r w2 ⟨rfl, b2⟩
          have B2 := hide (btr (btr HB.out (below_alloc _ _)) b2)
          clear b2
          go_wp2_with fail
          go_ret
          exact ⟨by rw [all_no HX.out HO.out]; simp, B2.out⟩
        · have HO := hide hok
          clear hok
          go_wp2_with fail
          refine (isCase_any x _).mono ?_
          rw [HO.out]
          rintro r w2 ⟨rfl, b2⟩
          have B2 := hide (btr (btr HB.out (below_alloc _ _)) b2)
          clear b2
          go_wp2_with fail
          go_roundw
          case rel => exact ⟨j + 1, by omega, by go_num, fun q y hq hy => by
              by_cases e : q = j
              · subst e
                have := HX.out
                rw [hy] at this
                simp at this
                subst this
                exact HO.out
              · exact HK.out q y (by omega) hy, B2.out⟩
          case measure => simp [intOf]; omega
      · have hlt' : decide ((j : Int) < (cs.length : Int)) = false := by simp; omega
        go_wp2_with fail
        go_ret
        exact ⟨by rw [all_yes (fun q x hq => HK.out q x (by have := (List.getElem?_eq_some_iff.1 hq).1; omega) hq)]; rfl, HB.out⟩

theorem check_any (o : OpD) (oa : Option Addr) (c : Nat) (p : Int) (w : World) (hA : CAt w oa o.cases) (hm : o.cases.length ≤ maxLen) :
    Calls Try.prog 28 #[.agg #[.int .i64 o.kind, .int .i64 o.a, .int .i64 o.b, .slice oa o.cases.length c, .bool o.def_], .int .i64 p] w fun r w' => r = .returned (.int .i64 (chk o p)) ∧ Below w.heap.size w w' := by
  unfold chk
  by_cases h1 : (okP p && (decide (1 ≤ o.kind) && decide (o.kind ≤ 9))) = false
  · rw [if_pos h1]
    exact check_arg o oa c p w h1
  · rw [if_neg h1]
    have h1' : okP p = true ∧ 1 ≤ o.kind ∧ o.kind ≤ 9 := by simpa using h1
    obtain ⟨hp, hk1, hk2⟩ := h1'
    by_cases h2 : 4 < o.cases.length
    · rw [if_pos h2]
      exact check_long o oa c p w hp hk1 hk2 h2 hm
    · rw [if_neg h2]
      refine (check_main o oa c p w hp hk1 hk2 (by omega) hA _ _ _ _ rfl rfl rfl rfl).mono ?_
      rintro r w' ⟨rfl, hb⟩
      refine ⟨?_, hb⟩
      cases x1 : upB o.a (mA o.kind p) && upB o.b (mB o.kind)
      · simp
      · rw [if_neg (by simp)]
        by_cases h6 : o.kind = 6
        · rw [if_neg (fun q => q.1 h6)]
          have : (o.kind == 6) = true := by simpa using h6
          rw [this]
          cases o.cases.all okC <;> simp
        · have : (o.kind == 6) = false := by simpa using h6
          rw [this]
          cases h4 : (o.def_ || decide (0 < o.cases.length))
          · rw [if_neg (fun q => by simp at q)]
            cases o.cases.all okC <;> simp
          · rw [if_pos ⟨h6, rfl⟩]
            simp
end De
end Go.Proofs.Ytgnhophlnbpcgaa
