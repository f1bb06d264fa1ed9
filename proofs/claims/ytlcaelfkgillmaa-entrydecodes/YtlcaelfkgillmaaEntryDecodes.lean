/- For every string, the law EntryDecodes returns true, so the event with which any bytes begin, and what is behind, are as the document says: under no condition. -/
import Derived.Test.YtlcaelfkgillmaaOf
import Derived.ShutString
import Derived.ChangeOld
import Derived.Below
namespace Go.Proofs.Ytlcaelfkgillmaa.entryDecodes
open Go.ChangeShapes Go.WideShapes Go.ChangeAt Go.RowKit
open Go.ChangeMaps (open_string shut_string)
open En Ba Re

theorem own : ownKnob Try.prog.godebug = none := by kernel_rfl
theorem laidOut : laidOutB Try.prog = true := by kernel_rfl

set_option maxRecDepth 100000 in
set_option maxHeartbeats 3200000 in
theorem coreN {w : World} (s : ByteArray) (hs : s.size ≤ maxLen) (h : dec (nbs s) = none) :
    Calls Try.prog 4 #[.string s] w fun r w' => r = .returned (.bool true) ∧ Below w.heap.size w w' := by
  have DE := hide fun u => decode_none s u h
  have RD := hide fun u => rdecode_none s u hs h
  have ee := eqE e0 e0
  rw [evb_self] at ee
  unfold evv evc e0 at DE ee
  unfold gz at RD
  simp only at DE RD ee
  have e1 : (bs []).toList.isEmpty = true := by kernel_rfl
  clear h
  go_enter Try.func4, Try.ntmps4
  go_wp2_with fail
  refine (DE.out _).mono ?_
  rintro r w1 ⟨rfl, b1⟩
  have b2 := below_alloc w1 (.cells #[.int .i64 0, .int .i64 0, .int .i64 0, .int .i64 0, .int .i64 0, .int .i64 0, .bool false, .bool false] 23)
  have H1 := hide (heap_new w1 (.cells #[.int .i64 0, .int .i64 0, .int .i64 0, .int .i64 0, .int .i64 0, .int .i64 0, .bool false, .bool false] 23))
  have B1 := hide (btr b1 b2)
  clear b1 b2 DE
  go_wp2_with fail
  generalize (w1.alloc (.cells #[.int .i64 0, .int .i64 0, .int .i64 0, .int .i64 0, .int .i64 0, .int .i64 0, .bool false, .bool false] 23)) = W1 at H1 B1 ⊢
  generalize w1.heap.size = N at H1 ⊢
  refine (RD.out _).mono ?_
  rintro r w2 ⟨rfl, b2⟩
  have b3 := below_alloc w2 (.cells #[.int .i64 0, .int .i64 0, .int .i64 0, .int .i64 0, .int .i64 0, .int .i64 0, .bool false, .bool false, .int .i64 0] 36)
  have H2 := hide (heap_below H1.out (btr b2 b3))
  have G2 := hide (heap_new w2 (.cells #[.int .i64 0, .int .i64 0, .int .i64 0, .int .i64 0, .int .i64 0, .int .i64 0, .bool false, .bool false, .int .i64 0] 36))
  have B2 := hide (btr B1.out (btr b2 b3))
  clear b2 b3 RD H1 B1
  have x0 : (w2.alloc (.cells #[.int .i64 0, .int .i64 0, .int .i64 0, .int .i64 0, .int .i64 0, .int .i64 0, .bool false, .bool false, .int .i64 0] 36)).cell? ⟨N, 0, none⟩ = some (.int .i64 0) := cell_of H2.out 0
  have x1 : (w2.alloc (.cells #[.int .i64 0, .int .i64 0, .int .i64 0, .int .i64 0, .int .i64 0, .int .i64 0, .bool false, .bool false, .int .i64 0] 36)).cell? ⟨N, 1, none⟩ = some (.int .i64 0) := cell_of H2.out 1
  have x2 : (w2.alloc (.cells #[.int .i64 0, .int .i64 0, .int .i64 0, .int .i64 0, .int .i64 0, .int .i64 0, .bool false, .bool false, .int .i64 0] 36)).cell? ⟨N, 2, none⟩ = some (.int .i64 0) := cell_of H2.out 2
  have x3 : (w2.alloc (.cells #[.int .i64 0, .int .i64 0, .int .i64 0, .int .i64 0, .int .i64 0, .int .i64 0, .bool false, .bool false, .int .i64 0] 36)).cell? ⟨N, 3, none⟩ = some (.int .i64 0) := cell_of H2.out 3
  have x4 : (w2.alloc (.cells #[.int .i64 0, .int .i64 0, .int .i64 0, .int .i64 0, .int .i64 0, .int .i64 0, .bool false, .bool false, .int .i64 0] 36)).cell? ⟨N, 4, none⟩ = some (.int .i64 0) := cell_of H2.out 4
  have x5 : (w2.alloc (.cells #[.int .i64 0, .int .i64 0, .int .i64 0, .int .i64 0, .int .i64 0, .int .i64 0, .bool false, .bool false, .int .i64 0] 36)).cell? ⟨N, 5, none⟩ = some (.int .i64 0) := cell_of H2.out 5
  have x6 : (w2.alloc (.cells #[.int .i64 0, .int .i64 0, .int .i64 0, .int .i64 0, .int .i64 0, .int .i64 0, .bool false, .bool false, .int .i64 0] 36)).cell? ⟨N, 6, none⟩ = some (.bool false) := cell_of H2.out 6
  have x7 : (w2.alloc (.cells #[.int .i64 0, .int .i64 0, .int .i64 0, .int .i64 0, .int .i64 0, .int .i64 0, .bool false, .bool false, .int .i64 0] 36)).cell? ⟨N, 7, none⟩ = some (.bool false) := cell_of H2.out 7
  have y0 : (w2.alloc (.cells #[.int .i64 0, .int .i64 0, .int .i64 0, .int .i64 0, .int .i64 0, .int .i64 0, .bool false, .bool false, .int .i64 0] 36)).cell? ⟨w2.heap.size, 0, none⟩ = some (.int .i64 0) := cell_of G2.out 0
  have y1 : (w2.alloc (.cells #[.int .i64 0, .int .i64 0, .int .i64 0, .int .i64 0, .int .i64 0, .int .i64 0, .bool false, .bool false, .int .i64 0] 36)).cell? ⟨w2.heap.size, 1, none⟩ = some (.int .i64 0) := cell_of G2.out 1
  have y2 : (w2.alloc (.cells #[.int .i64 0, .int .i64 0, .int .i64 0, .int .i64 0, .int .i64 0, .int .i64 0, .bool false, .bool false, .int .i64 0] 36)).cell? ⟨w2.heap.size, 2, none⟩ = some (.int .i64 0) := cell_of G2.out 2
  have y3 : (w2.alloc (.cells #[.int .i64 0, .int .i64 0, .int .i64 0, .int .i64 0, .int .i64 0, .int .i64 0, .bool false, .bool false, .int .i64 0] 36)).cell? ⟨w2.heap.size, 3, none⟩ = some (.int .i64 0) := cell_of G2.out 3
  have y4 : (w2.alloc (.cells #[.int .i64 0, .int .i64 0, .int .i64 0, .int .i64 0, .int .i64 0, .int .i64 0, .bool false, .bool false, .int .i64 0] 36)).cell? ⟨w2.heap.size, 4, none⟩ = some (.int .i64 0) := cell_of G2.out 4
  have y5 : (w2.alloc (.cells #[.int .i64 0, .int .i64 0, .int .i64 0, .int .i64 0, .int .i64 0, .int .i64 0, .bool false, .bool false, .int .i64 0] 36)).cell? ⟨w2.heap.size, 5, none⟩ = some (.int .i64 0) := cell_of G2.out 5
  have y6 : (w2.alloc (.cells #[.int .i64 0, .int .i64 0, .int .i64 0, .int .i64 0, .int .i64 0, .int .i64 0, .bool false, .bool false, .int .i64 0] 36)).cell? ⟨w2.heap.size, 6, none⟩ = some (.bool false) := cell_of G2.out 6
  have y7 : (w2.alloc (.cells #[.int .i64 0, .int .i64 0, .int .i64 0, .int .i64 0, .int .i64 0, .int .i64 0, .bool false, .bool false, .int .i64 0] 36)).cell? ⟨w2.heap.size, 7, none⟩ = some (.bool false) := cell_of G2.out 7
  have y8 : (w2.alloc (.cells #[.int .i64 0, .int .i64 0, .int .i64 0, .int .i64 0, .int .i64 0, .int .i64 0, .bool false, .bool false, .int .i64 0] 36)).cell? ⟨w2.heap.size, 8, none⟩ = some (.int .i64 0) := cell_of G2.out 8
  go_wp2_with fail
  refine (exit_any _).mono ?_
  rintro r w9 ⟨rfl, b9⟩
  have B9 := hide (btr B2.out b9)
  clear b9
  go_wp2_with fail
  go_ret
  exact ⟨rfl, B9.out⟩
set_option maxRecDepth 100000 in
set_option maxHeartbeats 3200000 in
theorem coreS {w : World} (s : ByteArray) (hs : s.size ≤ maxLen) (e : Ev) (z : Nat) (h : dec (nbs s) = some (e, z)) :
    Calls Try.prog 4 #[.string s] w fun r w' => r = .returned (.bool true) ∧ Below w.heap.size w w' := by
  have DE := hide fun u => decode_some s u e z h
  have RD := hide fun u => rdecode_some s u hs e z h
  have hz := (dec_le h).2
  rw [nbs_length] at hz
  have hz1 : (z : Int) ≤ (s.size : Int) := by omega
  unfold maxLen at hs
  have ee := eqE e e
  rw [evb_self] at ee
  obtain ⟨k, g, c, a, v, m, p, o⟩ := e
  unfold evv evc at DE ee
  unfold gotc at RD
  simp only at DE RD ee
  have e1 : ((s.extract z s.size).toList == (s.extract z s.size).toList) = true := beq_self_eq_true _
  clear h
  go_enter Try.func4, Try.ntmps4
  go_wp2_with fail
  refine (DE.out _).mono ?_
  rintro r w1 ⟨rfl, b1⟩
  have b2 := below_alloc w1 (.cells #[.int .i64 k, .int .i64 g, .int .i64 c, .int .i64 a, .int .i64 v, .int .i64 m, .bool p, .bool o] 23)
  have H1 := hide (heap_new w1 (.cells #[.int .i64 k, .int .i64 g, .int .i64 c, .int .i64 a, .int .i64 v, .int .i64 m, .bool p, .bool o] 23))
  have B1 := hide (btr b1 b2)
  clear b1 b2 DE
  go_wp2_with fail
  generalize (w1.alloc (.cells #[.int .i64 k, .int .i64 g, .int .i64 c, .int .i64 a, .int .i64 v, .int .i64 m, .bool p, .bool o] 23)) = W1 at H1 B1 ⊢
  generalize w1.heap.size = N at H1 ⊢
  refine (RD.out _).mono ?_
  rintro r w2 ⟨rfl, b2⟩
  have b3 := below_alloc w2 (.cells #[.int .i64 k, .int .i64 g, .int .i64 c, .int .i64 a, .int .i64 v, .int .i64 m, .bool p, .bool o, .int .i64 (z : Int)] 36)
  have H2 := hide (heap_below H1.out (btr b2 b3))
  have G2 := hide (heap_new w2 (.cells #[.int .i64 k, .int .i64 g, .int .i64 c, .int .i64 a, .int .i64 v, .int .i64 m, .bool p, .bool o, .int .i64 (z : Int)] 36))
  have B2 := hide (btr B1.out (btr b2 b3))
  clear b2 b3 RD H1 B1
  have x0 : (w2.alloc (.cells #[.int .i64 k, .int .i64 g, .int .i64 c, .int .i64 a, .int .i64 v, .int .i64 m, .bool p, .bool o, .int .i64 (z : Int)] 36)).cell? ⟨N, 0, none⟩ = some (.int .i64 k) := cell_of H2.out 0
  have x1 : (w2.alloc (.cells #[.int .i64 k, .int .i64 g, .int .i64 c, .int .i64 a, .int .i64 v, .int .i64 m, .bool p, .bool o, .int .i64 (z : Int)] 36)).cell? ⟨N, 1, none⟩ = some (.int .i64 g) := cell_of H2.out 1
  have x2 : (w2.alloc (.cells #[.int .i64 k, .int .i64 g, .int .i64 c, .int .i64 a, .int .i64 v, .int .i64 m, .bool p, .bool o, .int .i64 (z : Int)] 36)).cell? ⟨N, 2, none⟩ = some (.int .i64 c) := cell_of H2.out 2
  have x3 : (w2.alloc (.cells #[.int .i64 k, .int .i64 g, .int .i64 c, .int .i64 a, .int .i64 v, .int .i64 m, .bool p, .bool o, .int .i64 (z : Int)] 36)).cell? ⟨N, 3, none⟩ = some (.int .i64 a) := cell_of H2.out 3
  have x4 : (w2.alloc (.cells #[.int .i64 k, .int .i64 g, .int .i64 c, .int .i64 a, .int .i64 v, .int .i64 m, .bool p, .bool o, .int .i64 (z : Int)] 36)).cell? ⟨N, 4, none⟩ = some (.int .i64 v) := cell_of H2.out 4
  have x5 : (w2.alloc (.cells #[.int .i64 k, .int .i64 g, .int .i64 c, .int .i64 a, .int .i64 v, .int .i64 m, .bool p, .bool o, .int .i64 (z : Int)] 36)).cell? ⟨N, 5, none⟩ = some (.int .i64 m) := cell_of H2.out 5
  have x6 : (w2.alloc (.cells #[.int .i64 k, .int .i64 g, .int .i64 c, .int .i64 a, .int .i64 v, .int .i64 m, .bool p, .bool o, .int .i64 (z : Int)] 36)).cell? ⟨N, 6, none⟩ = some (.bool p) := cell_of H2.out 6
  have x7 : (w2.alloc (.cells #[.int .i64 k, .int .i64 g, .int .i64 c, .int .i64 a, .int .i64 v, .int .i64 m, .bool p, .bool o, .int .i64 (z : Int)] 36)).cell? ⟨N, 7, none⟩ = some (.bool o) := cell_of H2.out 7
  have y0 : (w2.alloc (.cells #[.int .i64 k, .int .i64 g, .int .i64 c, .int .i64 a, .int .i64 v, .int .i64 m, .bool p, .bool o, .int .i64 (z : Int)] 36)).cell? ⟨w2.heap.size, 0, none⟩ = some (.int .i64 k) := cell_of G2.out 0
  have y1 : (w2.alloc (.cells #[.int .i64 k, .int .i64 g, .int .i64 c, .int .i64 a, .int .i64 v, .int .i64 m, .bool p, .bool o, .int .i64 (z : Int)] 36)).cell? ⟨w2.heap.size, 1, none⟩ = some (.int .i64 g) := cell_of G2.out 1
  have y2 : (w2.alloc (.cells #[.int .i64 k, .int .i64 g, .int .i64 c, .int .i64 a, .int .i64 v, .int .i64 m, .bool p, .bool o, .int .i64 (z : Int)] 36)).cell? ⟨w2.heap.size, 2, none⟩ = some (.int .i64 c) := cell_of G2.out 2
  have y3 : (w2.alloc (.cells #[.int .i64 k, .int .i64 g, .int .i64 c, .int .i64 a, .int .i64 v, .int .i64 m, .bool p, .bool o, .int .i64 (z : Int)] 36)).cell? ⟨w2.heap.size, 3, none⟩ = some (.int .i64 a) := cell_of G2.out 3
  have y4 : (w2.alloc (.cells #[.int .i64 k, .int .i64 g, .int .i64 c, .int .i64 a, .int .i64 v, .int .i64 m, .bool p, .bool o, .int .i64 (z : Int)] 36)).cell? ⟨w2.heap.size, 4, none⟩ = some (.int .i64 v) := cell_of G2.out 4
  have y5 : (w2.alloc (.cells #[.int .i64 k, .int .i64 g, .int .i64 c, .int .i64 a, .int .i64 v, .int .i64 m, .bool p, .bool o, .int .i64 (z : Int)] 36)).cell? ⟨w2.heap.size, 5, none⟩ = some (.int .i64 m) := cell_of G2.out 5
  have y6 : (w2.alloc (.cells #[.int .i64 k, .int .i64 g, .int .i64 c, .int .i64 a, .int .i64 v, .int .i64 m, .bool p, .bool o, .int .i64 (z : Int)] 36)).cell? ⟨w2.heap.size, 6, none⟩ = some (.bool p) := cell_of G2.out 6
  have y7 : (w2.alloc (.cells #[.int .i64 k, .int .i64 g, .int .i64 c, .int .i64 a, .int .i64 v, .int .i64 m, .bool p, .bool o, .int .i64 (z : Int)] 36)).cell? ⟨w2.heap.size, 7, none⟩ = some (.bool o) := cell_of G2.out 7
  have y8 : (w2.alloc (.cells #[.int .i64 k, .int .i64 g, .int .i64 c, .int .i64 a, .int .i64 v, .int .i64 m, .bool p, .bool o, .int .i64 (z : Int)] 36)).cell? ⟨w2.heap.size, 8, none⟩ = some (.int .i64 (z : Int)) := cell_of G2.out 8
  go_wp2_with fail
  refine (exit_any _).mono ?_
  rintro r w9 ⟨rfl, b9⟩
  have B9 := hide (btr B2.out b9)
  clear b9
  go_wp2_with fail
  go_ret
  exact ⟨rfl, B9.out⟩
theorem core {w : World} (s : ByteArray) (hs : s.size ≤ maxLen) :
    Calls Try.prog 4 #[.string s] w fun r w' => r = .returned (.bool true) ∧ Below w.heap.size w w' := by
  cases h : dec (nbs s) with
  | none => exact coreN s hs h
  | some p => exact coreS s hs p.1 p.2 h

/-! ### the row -/
set_option maxRecDepth 100000 in
theorem lifted (os : Os) (started : os.Started) (H : Type) (enc : TypeId × Value → H) :
    ReturnsInHanded {} Try.checked os 4 .any (Rows.entryDecodesSpec.pre6 enc Try.prog Try.f4 Rows.entryDecodesRow.domain false) (Rows.entryDecodesSpec.post enc Try.prog Try.f4 false true false false) := by
  refine returnsInHanded_of_change (C := Try.checked) own started (by kernel_rfl) Try.func4
    (ChangeSpec.witness6 (enc := enc) (C := Try.checked) false ⟨#[], #[.string ByteArray.empty], []⟩ 8 (by kernel_rfl) (by kernel_rfl) (by kernel_rfl) (by kernel_rfl)) ?_
  intro W base args ds gs before hval0 hW hcnd _
  have hval : ∀ (j : Nat) t v, Try.f4.params[j]? = some t → args[j]? = some v → Value.okWide Try.prog W .any base t v := hval0
  have hW' := hW
  obtain ⟨p, q, hA0, hV, rfl, hfz, hnd⟩ := hW
  have hA : DataW.TrodAll enc Try.prog W 0 (fun _ => true) true Try.f4.params.toList args.toList ds p := hA0
  rw [Try.params4] at hA hval
  obtain ⟨v0, vs0, d0, ds0, p0, q0, hargs, rfl, rfl, h0, r0⟩ := trodAll_cons hA
  obtain ⟨rfl, rfl, rfl⟩ := trodAll_nil r0
  obtain rfl : args = #[v0] := by cases args; simp_all
  obtain ⟨rfl, rfl⟩ := trodVars_none hV
  obtain ⟨a0, rfl, rfl, rfl, w0⟩ := open_string Try.underlying9 (hval 0 9 v0 rfl rfl) h0
  clear hA0 hval0
  refine (core (w := W) a0 w0).mono fun e W' ⟨he, bel⟩ => ?_
  subst he
  exact ⟨_, rfl, _, _, _, [], _, [], hW', trodAll_mk1 (shut_bool Try.underlying4 _), (trodAll_cons_mk (shut_string Try.underlying9 w0) trodAll_mk0), rfl, bel.frame _, fun h => by cases h⟩

theorem over : Rows.entryDecodesRow.holds Try.pinned (OpenSpec.ofChange Rows.entryDecodesSpec) :=
  OpenClaim.holds_of_wide 4 Try.f4 rfl rfl rfl rfl rfl rfl rfl ⟨rfl, rfl, rfl, rfl, rfl⟩ rfl rfl rfl rfl rfl (by kernel_rfl) Try.func4 (by kernel_rfl)
    (of_decide_eq_true (by kernel_rfl)) (by unfold Func.isWrapper; first | (rw [if_pos (by decide +kernel)]; kernel_rfl) | (rw [if_neg (by decide +kernel)]; exact ⟨rfl, rfl⟩))
    (fun os started H enc _ => lifted os started H enc)

/-- the statement -/
theorem proved : Rows.EntryDecodesSaid := over
#print axioms proved
end Go.Proofs.Ytlcaelfkgillmaa.entryDecodes
