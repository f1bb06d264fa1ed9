/- For every operation and every number of programs, the law DeedChecks returns true, so Check answers whether the operation is right, as the document says it, Releases whether it releases, and Names what it names: under no condition. -/
import Derived.Test.YtkgddkpolckacabDp
import Derived.ShutString
import Derived.ChangeOld
import Derived.Below
namespace Go.Proofs.Ytkgddkpolckacab.deedChecks
open Go.ChangeShapes Go.WideShapes Go.ChangeAt Go.RowKit
open Go.ChangeMaps (open_string shut_string)
open De Ba Re

theorem own : ownKnob Try.prog.godebug = none := by kernel_rfl
theorem laidOut : laidOutB Try.prog = true := by kernel_rfl

set_option maxHeartbeats 3200000

set_option maxRecDepth 100000 in
theorem core {w : World} (o : OpD) (oa : Option Addr) (c : Nat) (hA : CAt w oa o.cases) (hM : o.cases.length ≤ maxLen) (p : Int) :
    Calls Try.prog 4 #[.agg #[.int .i64 o.kind, .int .i64 o.a, .int .i64 o.b, .slice oa o.cases.length c, .bool o.def_], .int .i64 p] w fun r w' => r = .returned (.bool true) ∧ Below w.heap.size w w' := by
  obtain ⟨k, a, b, cs, d⟩ := o
  unfold maxLen at hM
  simp only at hA hM ⊢
  have A0 := hide (hA.below (below_alloc w (.cells #[.int .i64 k, .int .i64 a, .int .i64 b, .slice oa cs.length c, .bool d] 27)))
  have P0 := hide (heap_new w (.cells #[.int .i64 k, .int .i64 a, .int .i64 b, .slice oa cs.length c, .bool d] 27))
  have B0 := hide (below_alloc w (.cells #[.int .i64 k, .int .i64 a, .int .i64 b, .slice oa cs.length c, .bool d] 27))
  clear hA
  by_cases l1 : cs.length ≤ 100
  · have l1' : decide ((100 : Int) < (cs.length : Int)) = false := by simp; omega
    have ML : Hid (cs.length ≤ maxLen) := by show _ ≤ _; unfold maxLen; omega
    have ML2 : Hid (cs.length ≤ 1000) := by show _ ≤ _; omega
    have NL : Hid ((nm ⟨k, a, b, cs, d⟩).length ≤ 1000000) := Nat.le_trans (nm_len ⟨k, a, b, cs, d⟩ ML2.out) (by decide)
    obtain ⟨X, hX⟩ : ∃ X, chk ⟨k, a, b, cs, d⟩ p = X := ⟨_, rfl⟩
    obtain ⟨Y, hY⟩ : ∃ Y, rel k = Y := ⟨_, rfl⟩
    obtain ⟨NN, hN⟩ : ∃ NN, nm ⟨k, a, b, cs, d⟩ = NN := ⟨_, rfl⟩
    have EC := hide hX
    have ER := hide hY
    have EN := hide hN
    rw [hN] at NL
    have DT : Hid (decide (NN = NN) = true) := by show _ = _; simp
    have IN : Hid (∀ (w : World) (x y : Option Addr) (c d : Nat), At w x NN → At w y NN → Calls Try.prog 16 #[.slice x NN.length c, .slice y NN.length d] w fun r w' => r = .returned (.bool true) ∧ Below w.heap.size w w') := fun w x y c d h1 h2 => ints_is x y NN NN _ _ c d true DT.out rfl rfl w h1 h2 NL.out NL.out
    have P0 : Hid ((w.alloc (.cells #[.int .i64 k, .int .i64 a, .int .i64 b, .slice oa cs.length c, .bool d] 27)).drew.heap[w.heap.size]? = some (.cells #[.int .i64 k, .int .i64 a, .int .i64 b, .slice oa cs.length c, .bool d] 27 (0, 0))) := P0.out
    have A0 : Hid (CAt (w.alloc (.cells #[.int .i64 k, .int .i64 a, .int .i64 b, .slice oa cs.length c, .bool d] 27)).drew oa cs) := A0.out.below (bdrew1 _)
    have B0 : Hid (Below w.heap.size w (w.alloc (.cells #[.int .i64 k, .int .i64 a, .int .i64 b, .slice oa cs.length c, .bool d] 27)).drew) := btr B0.out (bdrew1 _)
    obtain ⟨y0, y1, y2, y3, y4⟩ := op_cells (heap_new w (.cells #[.int .i64 k, .int .i64 a, .int .i64 b, .slice oa cs.length c, .bool d] 27))
    clear hX hY hN
    go_enter Try.func4, Try.ntmps4
    go_wp2_with fail
    go_region_held3 (fun w' => w'.cell? ⟨w.heap.size, 0, none⟩ = some (.int .i64 k) ∧ w'.cell? ⟨w.heap.size, 1, none⟩ = some (.int .i64 a) ∧ w'.cell? ⟨w.heap.size, 2, none⟩ = some (.int .i64 b) ∧ w'.cell? ⟨w.heap.size, 3, none⟩ = some (.slice oa cs.length c) ∧ w'.cell? ⟨w.heap.size, 4, none⟩ = some (.bool d))
            (first
              | go_keep
              | exact op_cells (heap_below (heap_below (heap_below (heap_below (heap_below (heap_below (heap_below (heap_below P0.out e1) e2) e3) e4) e5) e6) e7) e8)
              | exact op_cells (heap_below (heap_below (heap_below (heap_below (heap_below (heap_below (heap_below P0.out e1) e2) e3) e4) e5) e6) e7)
              | exact op_cells (heap_below (heap_below (heap_below (heap_below (heap_below (heap_below P0.out e1) e2) e3) e4) e5) e6)
              | exact op_cells (heap_below (heap_below (heap_below (heap_below (heap_below P0.out e1) e2) e3) e4) e5)
              | exact op_cells (heap_below (heap_below (heap_below (heap_below P0.out e1) e2) e3) e4)
              | exact op_cells (heap_below (heap_below (heap_below P0.out e1) e2) e3)
              | exact op_cells (heap_below (heap_below P0.out e1) e2)
              | exact op_cells (heap_below P0.out e1))
            (first
              | (go_at_call 12; refine (check_any ⟨k, a, b, cs, d⟩ _ _ p _ A0.out ML.out).mono ?_; rw [EC.out]; rintro r w1 ⟨rfl, e1⟩)
              | (go_at_call 13; refine (rcheck_any ⟨k, a, b, cs, d⟩ _ _ p _ (A0.out.below e1) ML.out).mono ?_; rw [EC.out]; rintro r w2 ⟨rfl, e2⟩)
              | (go_at_call 14; refine (rel_any k a b d _ _ _ _).mono ?_; rw [ER.out]; rintro r w3 ⟨rfl, e3⟩)
              | (go_at_call 15; refine (rrel_any k a b d _ _ _ _).mono ?_; rw [ER.out]; rintro r w4 ⟨rfl, e4⟩)
              | (go_at_call 17; refine (names_any ⟨k, a, b, cs, d⟩ _ _ _ ((((A0.out.below e1).below e2).below e3).below e4) ML2.out).mono ?_; rw [EN.out]; rintro r w5 ⟨⟨oa1, n1, rfl, at1⟩, e5⟩)
              | (go_at_call 18; refine (rnames_any ⟨k, a, b, cs, d⟩ _ _ _ (((((A0.out.below e1).below e2).below e3).below e4).below e5) ML2.out).mono ?_; rw [EN.out]; rintro r w6 ⟨⟨oa2, n2, rfl, at2⟩, e6⟩)
              | (go_at_call 11; refine (send_any _).mono ?_; rintro r w8 ⟨rfl, e8⟩)
              | (go_at_call 16; refine (IN.out _ _ _ _ _ (at1.below e6) at2).mono ?_; rintro r w7 ⟨rfl, e7⟩))
    go_wp2_with fail
    go_ret
    exact ⟨rfl, (btr (btr (btr (btr (btr (btr (btr (btr B0.out e1) e2) e3) e4) e5) e6) e7) e8)⟩
  · have l1' : decide ((100 : Int) < (cs.length : Int)) = true := by simp; omega
    go_enter Try.func4, Try.ntmps4
    go_wp2_with fail
    refine (send_any _).mono ?_
    rintro r w9 ⟨rfl, b9⟩
    have B9 := hide (btr B0.out b9)
    clear b9
    go_wp2_with fail
    go_ret
    exact ⟨rfl, B9.out⟩

/-! ### the row -/
set_option maxRecDepth 100000 in
theorem lifted (os : Os) (started : os.Started) (H : Type) (enc : TypeId × Value → H) :
    ReturnsInHanded {} Try.checked os 4 .any (Rows.deedChecksSpec.pre6 enc Try.prog Try.f4 Rows.deedChecksRow.domain false) (Rows.deedChecksSpec.post enc Try.prog Try.f4 false true false false) := by
  refine returnsInHanded_of_change (C := Try.checked) own started (by kernel_rfl) Try.func4
    (ChangeSpec.witness6 (enc := enc) (C := Try.checked) false ⟨#[], #[.agg #[.int .i64 0, .int .i64 0, .int .i64 0, .slice none 0 0, .bool false], .int .i64 0], []⟩ 8 (by kernel_rfl) (by kernel_rfl) (by kernel_rfl) (by kernel_rfl)) ?_
  intro W base args ds gs before hval0 hW hcnd _
  have hval : ∀ (j : Nat) t v, Try.f4.params[j]? = some t → args[j]? = some v → Value.okWide Try.prog W .any base t v := hval0
  have hW' := hW
  obtain ⟨p, q, hA0, hV, rfl, hfz, hnd⟩ := hW
  have hA : DataW.TrodAll enc Try.prog W 0 (fun _ => true) true Try.f4.params.toList args.toList ds p := hA0
  rw [Try.params4] at hA hval
  obtain ⟨v0, vs0, d0, ds0, p0, q0, hargs, rfl, rfl, h0, r0⟩ := trodAll_cons hA
  obtain ⟨v1, vs1, d1, ds1, p1, q1, rfl, rfl, rfl, h1, r1⟩ := trodAll_cons r0
  obtain ⟨rfl, rfl, rfl⟩ := trodAll_nil r1
  obtain rfl : args = #[v0, v1] := by cases args; simp_all
  obtain ⟨rfl, rfl⟩ := trodVars_none hV
  have k0 := h0
  have lt0 : ∀ x ∈ p0, x.block < W.heap.size := by obtain ⟨m, hm⟩ := k0; exact DataW.trod_lt m _ _ _ hm
  obtain ⟨o0, oa0, c0, rfl, C0, M0⟩ : ∃ (o : OpD) (oa : Option Addr) (c : Nat), v0 = .agg #[.int .i64 o.kind, .int .i64 o.a, .int .i64 o.b, .slice oa o.cases.length c, .bool o.def_] ∧ CAt W oa o.cases ∧ o.cases.length ≤ maxLen := by
    obtain ⟨fuel, hf⟩ := h0
    exact op_open hf
  obtain ⟨a1, rfl, rfl, rfl, w1⟩ := open_int Try.underlying3 (hval 1 3 v1 rfl rfl) h1
  clear hA0 hval0
  refine (core (w := W) o0 oa0 c0 C0 M0 a1).mono fun e W' ⟨he, bel⟩ => ?_
  subst he
  exact ⟨_, rfl, _, _, _, [], _, [], hW', trodAll_mk1 (shut_bool Try.underlying4 _), (trodAll_cons_mk (Below.trod laidOut (by kernel_rfl) (of_decide_eq_true (by kernel_rfl)) k0 bel lt0) (trodAll_cons_mk (shut_int Try.underlying3 w1) trodAll_mk0)), rfl, bel.frame _, fun h => by cases h⟩

theorem over : Rows.deedChecksRow.holds Try.pinned (OpenSpec.ofChange Rows.deedChecksSpec) :=
  OpenClaim.holds_of_wide 4 Try.f4 rfl rfl rfl rfl rfl rfl rfl ⟨rfl, rfl, rfl, rfl, rfl⟩ rfl rfl rfl rfl rfl (by kernel_rfl) Try.func4 (by kernel_rfl)
    (of_decide_eq_true (by kernel_rfl)) (by unfold Func.isWrapper; first | (rw [if_pos (by decide +kernel)]; kernel_rfl) | (rw [if_neg (by decide +kernel)]; exact ⟨rfl, rfl⟩))
    (fun os started H enc _ => lifted os started H enc)

/-- the statement -/
theorem proved : Rows.DeedChecksSaid := over
#print axioms proved
end Go.Proofs.Ytkgddkpolckacab.deedChecks
