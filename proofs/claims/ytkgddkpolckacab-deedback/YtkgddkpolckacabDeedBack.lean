/- For every operation, every number of programs and every string, the law DeedBack returns true, so what was encoded is decoded, whatever is behind it, and what is decoded was encoded so: under no condition. -/
import Derived.Test.YtkgddkpolckacabDm
import Derived.ShutString
import Derived.ChangeOld
import Derived.Below
namespace Go.Proofs.Ytkgddkpolckacab.deedBack
open Go.ChangeShapes Go.WideShapes Go.ChangeAt Go.RowKit
open Go.ChangeMaps (open_string shut_string)
open De Ba Re

theorem own : ownKnob Try.prog.godebug = none := by kernel_rfl
theorem laidOut : laidOutB Try.prog = true := by kernel_rfl

set_option maxHeartbeats 3200000
theorem pls_lt (l : List Int) : ∀ b ∈ pls l, b < 256 := by
  intro b hb
  simp only [pls, List.mem_flatMap] at hb
  obtain ⟨n, _, hb⟩ := hb
  exact spl_lt _ b hb
theorem nbs_append (a b : ByteArray) : nbs (a ++ b) = nbs a ++ nbs b := by simp [nbs]
theorem op_cells {w : World} {b : Nat} {x0 x1 x2 x3 x4 : Value} {t : TypeId} {fr : Nat × Nat} (h : w.heap[b]? = some (.cells #[x0, x1, x2, x3, x4] t fr)) : w.cell? ⟨b, 0, none⟩ = some x0 ∧ w.cell? ⟨b, 1, none⟩ = some x1 ∧ w.cell? ⟨b, 2, none⟩ = some x2 ∧ w.cell? ⟨b, 3, none⟩ = some x3 ∧ w.cell? ⟨b, 4, none⟩ = some x4 := ⟨cell_of h 0, cell_of h 1, cell_of h 2, cell_of h 3, cell_of h 4⟩

set_option maxRecDepth 100000 in
theorem core {w : World} (o : OpD) (oa : Option Addr) (c : Nat) (hA : CAt w oa o.cases) (hM : o.cases.length ≤ maxLen) (p : Int) (s : ByteArray) (hS : s.size ≤ maxLen) :
    Calls Try.prog 7 #[.agg #[.int .i64 o.kind, .int .i64 o.a, .int .i64 o.b, .slice oa o.cases.length c, .bool o.def_], .int .i64 p, .string s] w fun r w' => r = .returned (.bool true) ∧ Below w.heap.size w w' := by
  obtain ⟨k, a, b, cs, d⟩ := o
  unfold maxLen at hM hS
  simp only at hA hM ⊢
  have HA := hide (hA.below (below_alloc w (.cells #[.int .i64 k, .int .i64 a, .int .i64 b, .slice oa cs.length c, .bool d] 27)))
  have HP := hide (heap_new w (.cells #[.int .i64 k, .int .i64 a, .int .i64 b, .slice oa cs.length c, .bool d] 27))
  have B0 := hide (below_alloc w (.cells #[.int .i64 k, .int .i64 a, .int .i64 b, .slice oa cs.length c, .bool d] 27))
  clear hA
  by_cases l1 : cs.length ≤ 100
  · have l1' : decide ((100 : Int) < (cs.length : Int)) = false := by simp; omega
    by_cases l2 : s.size ≤ 1000
    · have l2' : decide ((1000 : Int) < (s.size : Int)) = false := by simp; omega
      have ML : Hid (cs.length ≤ maxLen) := by show _ ≤ _; unfold maxLen; omega
      cases z : chk ⟨k, a, b, cs, d⟩ p == 0
      · have Z := hide z
        have z' : (chk ⟨k, a, b, cs, d⟩ p != 0) = true := by simp [bne, z]
        go_enter Try.func7, Try.ntmps7
        go_wp2_with fail
        refine (encode_no ⟨k, a, b, cs, d⟩ _ _ p _ HA.out ML.out Z.out).mono ?_
        rintro r w1 ⟨rfl, e1⟩
        have B4 := hide (btr B0.out e1)
        clear e1
        go_wp2_with fail
        refine (decode_any s p _).mono ?_
        obtain ⟨o2, r2, f2, h2⟩ : ∃ o2 r2 f2, rop s false = (o2, r2, f2) := ⟨_, _, _, rfl⟩
        have R2 := hide h2
        rw [h2]
        clear h2
        rintro r w5 ⟨⟨e, e0, e1, -, -, rfl⟩ | ⟨-, q1, q2, oa5, c5, rfl, hA5⟩, b5⟩
        · have B5 := hide (btr B4.out b5)
          clear b5
          go_wp2_with fail
          refine (send_any _).mono ?_
          rintro r w9 ⟨rfl, b9⟩
          have B9 := hide (btr (btr B5.out (below_alloc _ _)) b9)
          clear b9
          go_wp2_with fail
          go_ret
          exact ⟨rfl, B9.out⟩
        · simp only at q1 q2 hA5 ⊢
          subst q1
          obtain ⟨k2, a2, b2, cs2, d2⟩ := o2
          have Q2 := hide q2
          have A5 := hide (hA5.below (below_alloc w5 (.cells #[.int .i64 k2, .int .i64 a2, .int .i64 b2, .slice oa5 cs2.length c5, .bool d2] 27)))
          have B5 := hide (btr B4.out b5)
          have ab : ∀ w, (Op.stringOp .add (bs (pls (nums ⟨k2, a2, b2, cs2, d2⟩))) r2).run Try.prog w = .ok (.string s) w := fun w => by
            have e : bs (pls (nums ⟨k2, a2, b2, cs2, d2⟩)) ++ r2 = s := nbs_inj (by
              rw [nbs_append, nbs_bs _ (pls_lt _)]
              exact (rop_inv R2.out).symm)
            rw [add_str _ _ w (by rw [← ByteArray.size_append, e]; omega), e]
          clear b5 hA5 q2
          go_wp2_with fail
          refine (encode_ok ⟨k2, a2, b2, cs2, d2⟩ _ _ p _ A5.out (chk_zero Q2.out).2.2.1 Q2.out (nums_ok Q2.out)).mono ?_
          rintro r w6 ⟨rfl, b6⟩
          have B6 := hide (btr (btr B5.out (below_alloc _ _)) b6)
          clear b6
          go_wp2_with fail
          refine (send_any _).mono ?_
          rintro r w9 ⟨rfl, b9⟩
          have B9 := hide (btr B6.out b9)
          clear b9
          go_wp2_with fail
          go_ret
          exact ⟨rfl, B9.out⟩
      · have Z : Hid (chk ⟨k, a, b, cs, d⟩ p = 0) := by show _ = _; simpa using z
        clear z
        go_enter Try.func7, Try.ntmps7
        go_wp2_with fail
        refine (encode_ok ⟨k, a, b, cs, d⟩ _ _ p _ HA.out (chk_zero Z.out).2.2.1 Z.out (nums_ok Z.out)).mono ?_
        rintro r w1 ⟨rfl, e1⟩
        have P1 := hide (heap_below HP.out e1)
        have A1 := hide (HA.out.below e1)
        have B1 := hide (btr B0.out e1)
        have SZ : (bs (pls (nums ⟨k, a, b, cs, d⟩))).size ≤ 700 := by
          rw [bs_size]
          have h1 := nums_len ⟨k, a, b, cs, d⟩ (chk_zero Z.out).2.2.1
          have h2 := pls_len (nums ⟨k, a, b, cs, d⟩)
          omega
        have ad := fun w => add_str (bs (pls (nums ⟨k, a, b, cs, d⟩))) s w (by omega)
        obtain ⟨rr, hr1, hr2⟩ := rop_enc Z.out (bs (pls (nums ⟨k, a, b, cs, d⟩)) ++ s) (nbs s) (by rw [nbs_append, nbs_bs _ (pls_lt _)])
        obtain rfl : rr = s := nbs_inj hr2
        have HR := hide hr1
        generalize bs (pls (nums ⟨k, a, b, cs, d⟩)) ++ rr = S at ad HR
        clear e1 hr1 hr2 SZ
        go_wp2_with fail
        refine (decode_any S p _).mono ?_
        rw [HR.out]
        rintro r w2 ⟨⟨e, -, -, -, hq, -⟩ | ⟨-, -, -, oa2, c2, rfl, hA2⟩, b2⟩
        · exfalso
          rcases hq with hq | hq | hq
          · have := (okP_iff p).2 (chk_zero Z.out).1
            rw [hq] at this
            cases this
          · cases hq
          · simp only [Z.out] at hq
            cases hq
        simp only at hA2 ⊢
        have A2 := hide (hA2.below (below_alloc w2 (.cells #[.int .i64 k, .int .i64 a, .int .i64 b, .slice oa2 cs.length c2, .bool d] 27)))
        have A3 := hide ((A1.out.below b2).below (below_alloc w2 (.cells #[.int .i64 k, .int .i64 a, .int .i64 b, .slice oa2 cs.length c2, .bool d] 27)))
        have P2 := hide (heap_below P1.out b2)
        have B2 := hide (btr B1.out b2)
        obtain ⟨x0, x1, x2, x3, x4⟩ := op_cells P2.out
        have plt := heap_lt P2.out
        clear b2 hA2
        go_wp2_with fail
        refine (plain_any ⟨k, a, b, cs, d⟩ ⟨k, a, b, cs, d⟩ _ _ _ _ _ A2.out A3.out (by show cs.length ≤ 1000; omega) (by show cs.length ≤ 1000; omega)).mono ?_
        rintro r w3 ⟨⟨x, rfl, hx⟩, b3⟩
        obtain rfl : x = true := hx.2 rfl
        have B4 := hide (btr (btr B2.out (below_alloc _ _)) b3)
        clear b3 hx
        go_wp2_with fail
        refine (decode_any rr p _).mono ?_
        obtain ⟨o2, r2, f2, h2⟩ : ∃ o2 r2 f2, rop rr false = (o2, r2, f2) := ⟨_, _, _, rfl⟩
        have R2 := hide h2
        rw [h2]
        clear h2
        rintro r w5 ⟨⟨e, e0, e1, -, -, rfl⟩ | ⟨-, q1, q2, oa5, c5, rfl, hA5⟩, b5⟩
        · have B5 := hide (btr B4.out b5)
          clear b5
          go_wp2_with fail
          refine (send_any _).mono ?_
          rintro r w9 ⟨rfl, b9⟩
          have B9 := hide (btr (btr B5.out (below_alloc _ _)) b9)
          clear b9
          go_wp2_with fail
          go_ret
          exact ⟨rfl, B9.out⟩
        · simp only at q1 q2 hA5 ⊢
          subst q1
          obtain ⟨k2, a2, b2, cs2, d2⟩ := o2
          have Q2 := hide q2
          have A5 := hide (hA5.below (below_alloc w5 (.cells #[.int .i64 k2, .int .i64 a2, .int .i64 b2, .slice oa5 cs2.length c5, .bool d2] 27)))
          have B5 := hide (btr B4.out b5)
          have ab : ∀ w, (Op.stringOp .add (bs (pls (nums ⟨k2, a2, b2, cs2, d2⟩))) r2).run Try.prog w = .ok (.string rr) w := fun w => by
            have e : bs (pls (nums ⟨k2, a2, b2, cs2, d2⟩)) ++ r2 = rr := nbs_inj (by
              rw [nbs_append, nbs_bs _ (pls_lt _)]
              exact (rop_inv R2.out).symm)
            rw [add_str _ _ w (by rw [← ByteArray.size_append, e]; omega), e]
          clear b5 hA5 q2
          go_wp2_with fail
          refine (encode_ok ⟨k2, a2, b2, cs2, d2⟩ _ _ p _ A5.out (chk_zero Q2.out).2.2.1 Q2.out (nums_ok Q2.out)).mono ?_
          rintro r w6 ⟨rfl, b6⟩
          have B6 := hide (btr (btr B5.out (below_alloc _ _)) b6)
          clear b6
          go_wp2_with fail
          refine (send_any _).mono ?_
          rintro r w9 ⟨rfl, b9⟩
          have B9 := hide (btr B6.out b9)
          clear b9
          go_wp2_with fail
          go_ret
          exact ⟨rfl, B9.out⟩
    · have l2' : decide ((1000 : Int) < (s.size : Int)) = true := by simp; omega
      go_enter Try.func7, Try.ntmps7
      go_wp2_with fail
      refine (send_any _).mono ?_
      rintro r w9 ⟨rfl, b9⟩
      have B9 := hide (btr B0.out b9)
      clear b9
      go_wp2_with fail
      go_ret
      exact ⟨rfl, B9.out⟩
  · have l1' : decide ((100 : Int) < (cs.length : Int)) = true := by simp; omega
    go_enter Try.func7, Try.ntmps7
    go_wp2_with fail
    refine (send_any _).mono ?_
    rintro r w9 ⟨rfl, b9⟩
    have B9 := hide (btr B0.out b9)
    clear b9
    go_wp2_with fail
    go_ret
    exact ⟨rfl, B9.out⟩

/-! ### the row -/
set_option maxRecDepth 100000 in
theorem lifted (os : Os) (started : os.Started) (H : Type) (enc : TypeId × Value → H) :
    ReturnsInHanded {} Try.checked os 7 .any (Rows.deedBackSpec.pre6 enc Try.prog Try.f7 Rows.deedBackRow.domain false) (Rows.deedBackSpec.post enc Try.prog Try.f7 false true false false) := by
  refine returnsInHanded_of_change (C := Try.checked) own started (by kernel_rfl) Try.func7
    (ChangeSpec.witness6 (enc := enc) (C := Try.checked) false ⟨#[], #[.agg #[.int .i64 0, .int .i64 0, .int .i64 0, .slice none 0 0, .bool false], .int .i64 0, .string ByteArray.empty], []⟩ 8 (by kernel_rfl) (by kernel_rfl) (by kernel_rfl) (by kernel_rfl)) ?_
  intro W base args ds gs before hval0 hW hcnd _
  have hval : ∀ (j : Nat) t v, Try.f7.params[j]? = some t → args[j]? = some v → Value.okWide Try.prog W .any base t v := hval0
  have hW' := hW
  obtain ⟨p, q, hA0, hV, rfl, hfz, hnd⟩ := hW
  have hA : DataW.TrodAll enc Try.prog W 0 (fun _ => true) true Try.f7.params.toList args.toList ds p := hA0
  rw [Try.params7] at hA hval
  obtain ⟨v0, vs0, d0, ds0, p0, q0, hargs, rfl, rfl, h0, r0⟩ := trodAll_cons hA
  obtain ⟨v1, vs1, d1, ds1, p1, q1, rfl, rfl, rfl, h1, r1⟩ := trodAll_cons r0
  obtain ⟨v2, vs2, d2, ds2, p2, q2, rfl, rfl, rfl, h2, r2⟩ := trodAll_cons r1
  obtain ⟨rfl, rfl, rfl⟩ := trodAll_nil r2
  obtain rfl : args = #[v0, v1, v2] := by cases args; simp_all
  obtain ⟨rfl, rfl⟩ := trodVars_none hV
  have k0 := h0
  have lt0 : ∀ x ∈ p0, x.block < W.heap.size := by obtain ⟨m, hm⟩ := k0; exact DataW.trod_lt m _ _ _ hm
  obtain ⟨o0, oa0, c0, rfl, C0, M0⟩ : ∃ (o : OpD) (oa : Option Addr) (c : Nat), v0 = .agg #[.int .i64 o.kind, .int .i64 o.a, .int .i64 o.b, .slice oa o.cases.length c, .bool o.def_] ∧ CAt W oa o.cases ∧ o.cases.length ≤ maxLen := by
    obtain ⟨fuel, hf⟩ := h0
    exact op_open hf
  obtain ⟨a1, rfl, rfl, rfl, w1⟩ := open_int Try.underlying3 (hval 1 3 v1 rfl rfl) h1
  obtain ⟨a2, rfl, rfl, rfl, w2⟩ := open_string Try.underlying9 (hval 2 9 v2 rfl rfl) h2
  clear hA0 hval0
  refine (core (w := W) o0 oa0 c0 C0 M0 a1 a2 w2).mono fun e W' ⟨he, bel⟩ => ?_
  subst he
  exact ⟨_, rfl, _, _, _, [], _, [], hW', trodAll_mk1 (shut_bool Try.underlying4 _), (trodAll_cons_mk (Below.trod laidOut (by kernel_rfl) (of_decide_eq_true (by kernel_rfl)) k0 bel lt0) (trodAll_cons_mk (shut_int Try.underlying3 w1) (trodAll_cons_mk (shut_string Try.underlying9 w2) trodAll_mk0))), rfl, bel.frame _, fun h => by cases h⟩

theorem over : Rows.deedBackRow.holds Try.pinned (OpenSpec.ofChange Rows.deedBackSpec) :=
  OpenClaim.holds_of_wide 7 Try.f7 rfl rfl rfl rfl rfl rfl rfl ⟨rfl, rfl, rfl, rfl, rfl⟩ rfl rfl rfl rfl rfl (by kernel_rfl) Try.func7 (by kernel_rfl)
    (of_decide_eq_true (by kernel_rfl)) (by unfold Func.isWrapper; first | (rw [if_pos (by decide +kernel)]; kernel_rfl) | (rw [if_neg (by decide +kernel)]; exact ⟨rfl, rfl⟩))
    (fun os started H enc _ => lifted os started H enc)

/-- the statement -/
theorem proved : Rows.DeedBackSaid := over
#print axioms proved
end Go.Proofs.Ytkgddkpolckacab.deedBack
