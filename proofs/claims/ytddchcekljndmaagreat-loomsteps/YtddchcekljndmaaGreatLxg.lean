/- The laws own Op once more (template Di), for claims whose joined texts lack it. -/
import Derived.Test.YtddchcekljndmaaGreatZjLs14
namespace Go.Proofs.YtddchcekljndmaaGreat
open Go.ChangeShapes Go.WideShapes Go.ChangeAt Go.RowKit
namespace Dz
open De Ba Re

theorem hp60 : Tryz.prog.stoodInHeld 92 = false := by kernel_rfl
theorem hm60 : Tryz.prog.eqGuardType Tryz.prog.depth 92 = false := by kernel_rfl
theorem part0 (b : Bool) (c v : Int) (w : World) : (part 4 #[.bool b, .int .i64 c, .int .i64 v] 0).run Tryz.prog w = .ok (.bool b) w := by kernel_rfl
theorem part1 (b : Bool) (c v : Int) (w : World) : (part 3 #[.bool b, .int .i64 c, .int .i64 v] 1).run Tryz.prog w = .ok (.int .i64 c) w := by kernel_rfl
theorem part2 (b : Bool) (c v : Int) (w : World) : (part 3 #[.bool b, .int .i64 c, .int .i64 v] 2).run Tryz.prog w = .ok (.int .i64 v) w := by kernel_rfl
theorem neq_case (x y : Cs) (w : World) : (binOp .neq 92 (.agg #[.bool x.send, .int .i64 x.ch, .int .i64 x.val]) (.agg #[.bool y.send, .int .i64 y.ch, .int .i64 y.val])).run Tryz.prog w = .ok (.bool (!(x.send == y.send && (x.ch == y.ch && x.val == y.val)))) w := by
  have hu := Tryz.underlying92
  have hf : Tryz.prog.fieldsOf 92 = #[⟨ "Send", 4, 0, false, "", "", 0⟩, ⟨ "Chan", 3, 1, false, "", "", 8⟩, ⟨ "Value", 3, 2, false, "", "", 16⟩] := by unfold Program.fieldsOf; rw [hu]
  have ht : Tryz.prog.underlying 92 = some (.struct (Tryz.prog.fieldsOf 92)) := by rw [hf]; exact hu
  rw [run_neq_struct, run_equalIn_agg w 9999 92 _ _ ht hp60, hf]
  have e0 := fun w => run_equalIn_bool' (P := Tryz.prog) w 9998 4 x.send y.send Tryz.underlying4
  have e1 := fun w => run_equalIn_int (P := Tryz.prog) w 9998 3 .i64 .i64 x.ch y.ch Tryz.underlying3
  have e2 := fun w => run_equalIn_int (P := Tryz.prog) w 9998 3 .i64 .i64 x.val y.val Tryz.underlying3
  cases h1 : x.send == y.send
  · simp [Op.eqFields, e0, h1, part0]
  · cases h2 : x.ch == y.ch
    · simp [Op.eqFields, e0, e1, h1, h2, part0, part1]
    · simp [Op.eqFields, e0, e1, e2, h1, h2, part0, part1, part2]
      by_cases h3 : x.val = y.val <;> simp [h3]
theorem cs_eq (x y : Cs) : ((!(x.send == y.send && (x.ch == y.ch && x.val == y.val))) = false) ↔ x = y := by
  obtain ⟨s1, c1, v1⟩ := x
  obtain ⟨s2, c2, v2⟩ := y
  simp

set_option maxRecDepth 100000 in
set_option maxHeartbeats 1600000 in
theorem plain_big (o1 o2 : OpD) (oa ob : Option Addr) (c1 c2 : Nat) (w : World) (hA : CAt w oa o1.cases) (hB : CAt w ob o2.cases) (hl : o1.cases.length ≤ 100000) (hm : o2.cases.length ≤ 100000) :
    Calls Tryz.prog 16 #[.agg #[.int .i64 o1.kind, .int .i64 o1.a, .int .i64 o1.b, .slice oa o1.cases.length c1, .bool o1.def_], .agg #[.int .i64 o2.kind, .int .i64 o2.a, .int .i64 o2.b, .slice ob o2.cases.length c2, .bool o2.def_]] w fun r w' => (∃ x, r = .returned (.bool x) ∧ (x = true ↔ o1 = o2)) ∧ Below w.heap.size w w' := by
  obtain ⟨k1, a1, b1, cs1, d1⟩ := o1
  obtain ⟨k2, a2, b2, cs2, d2⟩ := o2
  simp only at hA hB hl hm ⊢
  have HA := hide hA
  have HB := hide hB
  clear hA hB
  cases h1 : k1 == k2
  · have h1' : (k1 != k2) = true := by simp [bne, h1]
    have N1 : Hid (k1 ≠ k2) := by show _ ≠ _; simpa using h1
    clear h1
    go_enter Tryz.func16, Tryz.ntmps16
    go_wp2_with fail
    go_ret
    exact ⟨⟨false, rfl, by simp; intro e; exact absurd e N1.out⟩, btr (below_alloc _ _) (below_alloc _ _)⟩
  have h1' : (k1 != k2) = false := by simp [bne, h1]
  have E1 : Hid (k1 = k2) := by show _ = _; simpa using h1
  clear h1
  cases h2 : a1 == a2
  · have h2' : (a1 != a2) = true := by simp [bne, h2]
    have N1 : Hid (a1 ≠ a2) := by show _ ≠ _; simpa using h2
    clear h2
    go_enter Tryz.func16, Tryz.ntmps16
    go_wp2_with fail
    go_ret
    exact ⟨⟨false, rfl, by simp; intro _ e; exact absurd e N1.out⟩, btr (below_alloc _ _) (below_alloc _ _)⟩
  have h2' : (a1 != a2) = false := by simp [bne, h2]
  have E2 : Hid (a1 = a2) := by show _ = _; simpa using h2
  clear h2
  cases h3 : b1 == b2
  · have h3' : (b1 != b2) = true := by simp [bne, h3]
    have N1 : Hid (b1 ≠ b2) := by show _ ≠ _; simpa using h3
    clear h3
    go_enter Tryz.func16, Tryz.ntmps16
    go_wp2_with fail
    go_ret
    exact ⟨⟨false, rfl, by simp; intro _ _ e; exact absurd e N1.out⟩, btr (below_alloc _ _) (below_alloc _ _)⟩
  have h3' : (b1 != b2) = false := by simp [bne, h3]
  have E3 : Hid (b1 = b2) := by show _ = _; simpa using h3
  clear h3
  by_cases h4 : d1 = d2
  · subst h4
    by_cases h5 : cs1.length = cs2.length
    · have h5' : ((cs1.length : Int) != (cs2.length : Int)) = false := by simp; omega
      have E5 := hide h5
      clear h5
      go_enter Tryz.func16, Tryz.ntmps16
      have f1 : ((w.alloc (.cells #[.int .i64 k1, .int .i64 a1, .int .i64 b1, .slice oa cs1.length c1, .bool d1] 44)).alloc (.cells #[.int .i64 k2, .int .i64 a2, .int .i64 b2, .slice ob cs2.length c2, .bool d1] 44)).cell? ⟨w.heap.size, 3, none⟩ = some (.slice oa cs1.length c1) := cell_of (heap_below (heap_new w (.cells #[.int .i64 k1, .int .i64 a1, .int .i64 b1, .slice oa cs1.length c1, .bool d1] 44)) (below_alloc (w.alloc (.cells #[.int .i64 k1, .int .i64 a1, .int .i64 b1, .slice oa cs1.length c1, .bool d1] 44)) (.cells #[.int .i64 k2, .int .i64 a2, .int .i64 b2, .slice ob cs2.length c2, .bool d1] 44))) 3
      have f2 : ((w.alloc (.cells #[.int .i64 k1, .int .i64 a1, .int .i64 b1, .slice oa cs1.length c1, .bool d1] 44)).alloc (.cells #[.int .i64 k2, .int .i64 a2, .int .i64 b2, .slice ob cs2.length c2, .bool d1] 44)).cell? ⟨w.heap.size + 1, 3, none⟩ = some (.slice ob cs2.length c2) := by
        have := cell_of (heap_new (w.alloc (.cells #[.int .i64 k1, .int .i64 a1, .int .i64 b1, .slice oa cs1.length c1, .bool d1] 44)) (.cells #[.int .i64 k2, .int .i64 a2, .int .i64 b2, .slice ob cs2.length c2, .bool d1] 44)) 3
        rw [World.size_alloc] at this
        exact this
      have BW := btr (below_alloc w (.cells #[.int .i64 k1, .int .i64 a1, .int .i64 b1, .slice oa cs1.length c1, .bool d1] 44)) (below_alloc (w.alloc (.cells #[.int .i64 k1, .int .i64 a1, .int .i64 b1, .slice oa cs1.length c1, .bool d1] 44)) (.cells #[.int .i64 k2, .int .i64 a2, .int .i64 b2, .slice ob cs2.length c2, .bool d1] 44))
      have HBW := hide BW
      clear BW
      go_wp2_with fail
      generalize (w.alloc (.cells #[.int .i64 k1, .int .i64 a1, .int .i64 b1, .slice oa cs1.length c1, .bool d1] 44)).alloc (.cells #[.int .i64 k2, .int .i64 a2, .int .i64 b2, .slice ob cs2.length c2, .bool d1] 44) = W at f1 f2 HBW ⊢
      go_loopw [44] (fun i wr => ∃ j q : Nat, j ≤ cs1.length ∧ i = .int .i64 (j : Int) ∧ (∀ t, t < j → cs1[t]? = cs2[t]?) ∧ wr = W.drewN q) (fun i _ => cs1.length - (intOf i).toNat)
      case atStart => exact ⟨0, 0, Nat.zero_le _, rfl, fun t ht => absurd ht (Nat.not_lt_zero _), rfl⟩
      case round =>
        obtain ⟨j, q, hj, rfl, hall, rfl⟩ := hrel
        have HK := hide hall
        clear hall
        by_cases hlt : j < cs1.length
        · have hlt' : decide ((j : Int) < (cs1.length : Int)) = true := by simp; omega
          have hlt2 : (j : Int) < (cs1.length : Int) := by omega
          have hlt3 : (j : Int) < (cs2.length : Int) := by have := E5.out; omega
          obtain ⟨x, hx⟩ : ∃ x, cs1[j]? = some x := ⟨cs1[j], by simp [hlt]⟩
          obtain ⟨y, hy⟩ : ∃ y, cs2[j]? = some y := ⟨cs2[j]'(by have := E5.out; omega), by simp⟩
          obtain ⟨b', off, rfl, p1, p2, p3⟩ := (HA.out.below HBW.out) j x hx
          obtain ⟨b'', off', rfl, q1, q2, q3⟩ := (HB.out.below HBW.out) j y hy
          have HX := hide hx
          have HY := hide hy
          clear hx hy
          have ne := neq_case x y
          have hm := hm60
          cases he : !(x.send == y.send && (x.ch == y.ch && x.val == y.val))
          · rw [he] at ne
            have HE := hide ((cs_eq x y).1 he)
            clear he
            go_wp2_with fail
            go_quiet (fail)
            go_wp2_with fail
            go_roundw
            case rel => exact ⟨j + 1, _, by omega, by go_num, fun t ht => by
                by_cases e : t = j
                · subst e; rw [HX.out, HY.out, HE.out]
                · exact HK.out t (by omega), by first | rfl | rw [World.drewN_drewN]⟩
            case measure => simp [intOf]; omega
          · rw [he] at ne
            have HE : Hid (x ≠ y) := by
              intro e
              have := (cs_eq x y).2 e
              rw [he] at this
              cases this
            clear he
            go_wp2_with fail
            go_quiet (fail)
            go_wp2_with fail
            go_ret
            exact ⟨⟨false, rfl, by
              simp
              intro _ _ _ e
              have h1 := HX.out
              rw [e, HY.out] at h1
              simp at h1
              exact HE.out h1.symm⟩, btr HBW.out (by first | exact bdrew _ _ | (rw [World.drewN_drewN]; exact bdrew _ _))⟩
        · have hlt' : decide ((j : Int) < (cs1.length : Int)) = false := by simp; omega
          go_wp2_with fail
          go_ret
          exact ⟨⟨true, rfl, by
            simp
            exact ⟨E1.out, E2.out, E3.out, List.ext_getElem? fun t => by
              by_cases ht : t < j
              · exact HK.out t ht
              · have := E5.out
                rw [List.getElem?_eq_none (by omega), List.getElem?_eq_none (by omega)]⟩⟩, btr HBW.out (bdrew _ _)⟩
    · have h5' : ((cs1.length : Int) != (cs2.length : Int)) = true := by simp; omega
      have N1 : Hid (cs1 ≠ cs2) := by show _ ≠ _; intro e; exact h5 (by rw [e])
      clear h5
      cases d1
      · go_enter Tryz.func16, Tryz.ntmps16
        go_wp2_with fail
        go_ret
        exact ⟨⟨false, rfl, by simp; intro _ _ _ e; exact absurd e N1.out⟩, btr (below_alloc _ _) (below_alloc _ _)⟩
      · go_enter Tryz.func16, Tryz.ntmps16
        go_wp2_with fail
        go_ret
        exact ⟨⟨false, rfl, by simp; intro _ _ _ e; exact absurd e N1.out⟩, btr (below_alloc _ _) (below_alloc _ _)⟩
  · cases d1 <;> cases d2
    · exact absurd rfl h4
    · go_enter Tryz.func16, Tryz.ntmps16
      go_wp2_with fail
      go_ret
      exact ⟨⟨false, rfl, by simp⟩, btr (below_alloc _ _) (below_alloc _ _)⟩
    · go_enter Tryz.func16, Tryz.ntmps16
      go_wp2_with fail
      go_ret
      exact ⟨⟨false, rfl, by simp⟩, btr (below_alloc _ _) (below_alloc _ _)⟩
    · exact absurd rfl h4
theorem plain_any (o1 o2 : OpD) (oa ob : Option Addr) (c1 c2 : Nat) (w : World) (hA : CAt w oa o1.cases) (hB : CAt w ob o2.cases) (hl : o1.cases.length ≤ 1000) (hm : o2.cases.length ≤ 1000) :
    Calls Tryz.prog 16 #[.agg #[.int .i64 o1.kind, .int .i64 o1.a, .int .i64 o1.b, .slice oa o1.cases.length c1, .bool o1.def_], .agg #[.int .i64 o2.kind, .int .i64 o2.a, .int .i64 o2.b, .slice ob o2.cases.length c2, .bool o2.def_]] w fun r w' => (∃ x, r = .returned (.bool x) ∧ (x = true ↔ o1 = o2)) ∧ Below w.heap.size w w' :=
  plain_big o1 o2 oa ob c1 c2 w hA hB (Nat.le_trans hl (by decide)) (Nat.le_trans hm (by decide))
end Dz
end Go.Proofs.YtddchcekljndmaaGreat
