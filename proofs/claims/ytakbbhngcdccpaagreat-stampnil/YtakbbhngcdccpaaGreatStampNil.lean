/- What is proved: a nil stamper takes no events, has no clocks, no watch and no length, for every event and every number; no condition. -/
import Derived.Test.YtakbbhngcdccpaaGreatZkSn3
import Derived.Test.YtakbbhngcdccpaaGreatBo
import Derived.ShutString
import Derived.ChangeOld
import Derived.Below
namespace Go.Proofs.YtakbbhngcdccpaaGreat.stampNil
open Go.ChangeShapes Go.WideShapes Go.ChangeAt Go.RowKit
open Go.ChangeMaps (open_string shut_string)
open Sp Eo Ck

theorem own : ownKnob Tryz.prog.godebug = none := by kernel_rfl
theorem laidOut : laidOutB Tryz.prog = true := by kernel_rfl

set_option maxRecDepth 100000 in
set_option maxHeartbeats 3200000 in
theorem core {w : World} (e : En.Ev) (g : Int) :
    Calls Tryz.prog 3 #[En.evv e, .int .i64 g] w fun r w' => r = .returned (.bool true) ∧ Below w.heap.size w w' := by
  have E0 := heap_new w (.cells #[.int .i64 e.k, .int .i64 e.g, .int .i64 e.c, .int .i64 e.a, .int .i64 e.v, .int .i64 e.m, .bool e.s, .bool e.o] 23)
  have e0 : (w.alloc (.cells #[.int .i64 e.k, .int .i64 e.g, .int .i64 e.c, .int .i64 e.a, .int .i64 e.v, .int .i64 e.m, .bool e.s, .bool e.o] 23)).cell? ⟨w.heap.size, 0, none⟩ = some (.int .i64 e.k) := cell_of E0 0
  have e1 : (w.alloc (.cells #[.int .i64 e.k, .int .i64 e.g, .int .i64 e.c, .int .i64 e.a, .int .i64 e.v, .int .i64 e.m, .bool e.s, .bool e.o] 23)).cell? ⟨w.heap.size, 1, none⟩ = some (.int .i64 e.g) := cell_of E0 1
  have e2 : (w.alloc (.cells #[.int .i64 e.k, .int .i64 e.g, .int .i64 e.c, .int .i64 e.a, .int .i64 e.v, .int .i64 e.m, .bool e.s, .bool e.o] 23)).cell? ⟨w.heap.size, 2, none⟩ = some (.int .i64 e.c) := cell_of E0 2
  have e3 : (w.alloc (.cells #[.int .i64 e.k, .int .i64 e.g, .int .i64 e.c, .int .i64 e.a, .int .i64 e.v, .int .i64 e.m, .bool e.s, .bool e.o] 23)).cell? ⟨w.heap.size, 3, none⟩ = some (.int .i64 e.a) := cell_of E0 3
  have e4 : (w.alloc (.cells #[.int .i64 e.k, .int .i64 e.g, .int .i64 e.c, .int .i64 e.a, .int .i64 e.v, .int .i64 e.m, .bool e.s, .bool e.o] 23)).cell? ⟨w.heap.size, 4, none⟩ = some (.int .i64 e.v) := cell_of E0 4
  have e5 : (w.alloc (.cells #[.int .i64 e.k, .int .i64 e.g, .int .i64 e.c, .int .i64 e.a, .int .i64 e.v, .int .i64 e.m, .bool e.s, .bool e.o] 23)).cell? ⟨w.heap.size, 5, none⟩ = some (.int .i64 e.m) := cell_of E0 5
  have e6 : (w.alloc (.cells #[.int .i64 e.k, .int .i64 e.g, .int .i64 e.c, .int .i64 e.a, .int .i64 e.v, .int .i64 e.m, .bool e.s, .bool e.o] 23)).cell? ⟨w.heap.size, 6, none⟩ = some (.bool e.s) := cell_of E0 6
  have e7 : (w.alloc (.cells #[.int .i64 e.k, .int .i64 e.g, .int .i64 e.c, .int .i64 e.a, .int .i64 e.v, .int .i64 e.m, .bool e.s, .bool e.o] 23)).cell? ⟨w.heap.size, 7, none⟩ = some (.bool e.o) := cell_of E0 7
  have NN := hide (note_nil e (w.alloc (.cells #[.int .i64 e.k, .int .i64 e.g, .int .i64 e.c, .int .i64 e.a, .int .i64 e.v, .int .i64 e.m, .bool e.s, .bool e.o] 23)))
  have B0 := hide (below_alloc w (.cells #[.int .i64 e.k, .int .i64 e.g, .int .i64 e.c, .int .i64 e.a, .int .i64 e.v, .int .i64 e.m, .bool e.s, .bool e.o] 23))
  clear E0
  unfold En.evv En.evc at NN ⊢
  go_enter Tryz.func3, Tryz.ntmps3
  go_wp2_with fail
  refine NN.out.mono ?_
  rintro r w1 ⟨rfl, b1⟩
  have B1 := hide (btr (btr B0.out b1) (below_alloc w1 (.cells #[.int .u64 0, .slice none 0 0] 29)))
  clear b1 NN B0
  go_wp2_with fail
  refine (can_nil _ _ _ _).mono ?_
  rintro r w2 ⟨rfl, ee⟩
  obtain rfl := ee.symm
  clear ee
  go_wp2_with fail
  refine (held_nil _).mono ?_
  rintro r w2 ⟨rfl, ee⟩
  obtain rfl := ee.symm
  clear ee
  go_wp2_with fail
  refine (retire_nil _ _).mono ?_
  rintro r w2 ⟨rfl, ee⟩
  obtain rfl := ee.symm
  clear ee
  go_wp2_with fail
  refine (watch_nil _).mono ?_
  rintro r w2 ⟨rfl, ee⟩
  obtain rfl := ee.symm
  clear ee
  go_wp2_with fail
  refine (len_nil _).mono ?_
  rintro r w2 ⟨rfl, ee⟩
  obtain rfl := ee.symm
  clear ee
  go_wp2_with fail
  refine (spawns_any _).mono ?_
  rintro r w3 ⟨rfl, b3⟩
  have B3 := hide (btr B1.out b3)
  clear b3
  go_wp2_with fail
  go_ret
  exact ⟨rfl, B3.out⟩

/-! ### the row -/
set_option maxRecDepth 100000 in
theorem lifted (os : Os) (started : os.Started) (H : Type) (enc : TypeId × Value → H) :
    ReturnsInHanded {} Tryz.checked os 3 .any (Rows.stampNilSpec.pre6 enc Tryz.prog Tryz.f3 Rows.stampNilRow.domain false) (Rows.stampNilSpec.post enc Tryz.prog Tryz.f3 false true false false) := by
  refine returnsInHanded_of_change (C := Tryz.checked) own started (by kernel_rfl) Tryz.func3
    (ChangeSpec.witness6 (enc := enc) (C := Tryz.checked) false ⟨#[], #[.agg #[.int .i64 0, .int .i64 0, .int .i64 0, .int .i64 0, .int .i64 0, .int .i64 0, .bool false, .bool false], .int .i64 0], []⟩ 8 (by kernel_rfl) (by kernel_rfl) (by kernel_rfl) (by kernel_rfl)) ?_
  intro W base args ds gs before hval0 hW hcnd _
  have hval : ∀ (j : Nat) t v, Tryz.f3.params[j]? = some t → args[j]? = some v → Value.okWide Tryz.prog W .any base t v := hval0
  have hW' := hW
  obtain ⟨p, q, hA0, hV, rfl, hfz, hnd⟩ := hW
  have hA : DataW.TrodAll enc Tryz.prog W 0 (fun _ => true) true Tryz.f3.params.toList args.toList ds p := hA0
  rw [Tryz.params3] at hA hval
  obtain ⟨v0, vs0, d0, ds0, p0, q0, hargs, rfl, rfl, h0, r0⟩ := trodAll_cons hA
  obtain ⟨v1, vs1, d1, ds1, p1, q1, rfl, rfl, rfl, h1, r1⟩ := trodAll_cons r0
  obtain ⟨rfl, rfl, rfl⟩ := trodAll_nil r1
  obtain rfl : args = #[v0, v1] := by cases args; simp_all
  obtain ⟨rfl, rfl⟩ := trodVars_none hV
  have k0 := h0
  have lt0 : ∀ x ∈ p0, x.block < W.heap.size := by obtain ⟨m, hm⟩ := k0; exact DataW.trod_lt m _ _ _ hm
  obtain ⟨x0, rfl⟩ := h0.elim fun _ hf => ev_open hf
  obtain ⟨a1, rfl, rfl, rfl, w1⟩ := open_int Tryz.underlying3 (hval 1 3 v1 rfl rfl) h1
  clear hA0 hval0
  refine (core (w := W) x0 a1).mono fun e W' ⟨he, bel⟩ => ?_
  subst he
  exact ⟨_, rfl, _, _, _, [], _, [], hW', trodAll_mk1 (shut_bool Tryz.underlying4 _), (trodAll_cons_mk (Below.trod laidOut (by kernel_rfl) (of_decide_eq_true (by kernel_rfl)) k0 bel lt0) (trodAll_cons_mk (shut_int Tryz.underlying3 w1) trodAll_mk0)), rfl, bel.frame _, fun h => by cases h⟩

theorem over : Rows.stampNilRow.holds Tryz.pinned (OpenSpec.ofChange Rows.stampNilSpec) :=
  OpenClaim.holds_of_wide 3 Tryz.f3 rfl rfl rfl rfl rfl rfl rfl ⟨rfl, rfl, rfl, rfl, rfl⟩ rfl rfl rfl rfl rfl (by kernel_rfl) Tryz.func3 (by kernel_rfl)
    (of_decide_eq_true (by kernel_rfl)) (by unfold Func.isWrapper; first | (rw [if_pos (by decide +kernel)]; kernel_rfl) | (rw [if_neg (by decide +kernel)]; exact ⟨rfl, rfl⟩))
    (fun os started H enc _ => lifted os started H enc)

/-- the statement -/
theorem proved : Rows.StampNilSaid := over
#print axioms proved
end Go.Proofs.YtakbbhngcdccpaaGreat.stampNil
