/- For every event, the law EntryChecks returns true, so which events are right, and each one's bytes, are as the document says: under no condition. -/
import Derived.Test.YtlcaelfkgillmaaOd
import Derived.Test.YtlcaelfkgillmaaNk
import Derived.ShutString
import Derived.ChangeOld
import Derived.Below
namespace Go.Proofs.Ytlcaelfkgillmaa.entryChecks
open Go.ChangeShapes Go.WideShapes Go.ChangeAt Go.RowKit
open Go.ChangeMaps (open_string shut_string)
open En Ba Re

theorem own : ownKnob Try.prog.godebug = none := by kernel_rfl
theorem laidOut : laidOutB Try.prog = true := by kernel_rfl

theorem both (e : Ev) : ∃ (L : List Nat) (x : Int), (∀ u, Calls Try.prog 9 #[evv e] u fun r w' => r = .returned (.tuple #[.string (bs L), .int .i64 x]) ∧ Below u.heap.size u w') ∧ (∀ u, Calls Try.prog 10 #[evv e] u fun r w' => r = .returned (.tuple #[.string (bs L), .int .i64 x]) ∧ Below u.heap.size u w') ∧ (∀ u, Calls Try.prog 11 #[evv e] u fun r w' => r = .returned (.int .i64 x) ∧ Below u.heap.size u w') ∧ (∀ u, Calls Try.prog 12 #[evv e] u fun r w' => r = .returned (.int .i64 x) ∧ Below u.heap.size u w') := by
  by_cases h : chk e = 0
  · refine ⟨enc e, 0, fun u => encode_ok e u h, fun u => rencode_ok e u h, fun u => ?_, fun u => ?_⟩
    · rw [← h]; exact check_any e u
    · rw [← h]; exact rcheck_any e u
  · have h' : (chk e != 0) = true := by simpa using h
    exact ⟨[], chk e, fun u => encode_no e u _ rfl h', fun u => rencode_no e u _ rfl h', fun u => check_any e u, fun u => rcheck_any e u⟩
set_option maxRecDepth 100000 in
set_option maxHeartbeats 6400000 in
theorem core {w : World} (e : Ev) :
    Calls Try.prog 3 #[evv e] w fun r w' => r = .returned (.bool true) ∧ Below w.heap.size w w' := by
  obtain ⟨L, x, EN, RN, CH, RC⟩ := both e
  have EN := hide EN
  have RN := hide RN
  have CH := hide CH
  have RC := hide RC
  have B0 := hide (below_alloc w (.cells (evc e) 23))
  have H0 := hide (heap_new w (.cells (evc e) 23))
  obtain ⟨k, g, c, a, v, m, s, o⟩ := e
  unfold evv evc at EN RN CH RC ⊢
  simp only [evc] at B0 H0
  simp only at EN RN CH RC ⊢
  have e1 : ((bs L).toList == (bs L).toList) = true := beq_self_eq_true _
  have e2 : (x == x) = true := beq_self_eq_true _
  go_enter Try.func3, Try.ntmps3
  go_wp2_with fail
  generalize w.alloc (.cells #[.int .i64 k, .int .i64 g, .int .i64 c, .int .i64 a, .int .i64 v, .int .i64 m, .bool s, .bool o] 23) = W at H0 B0 ⊢
  generalize w.heap.size = N at H0 ⊢
  refine (EN.out _).mono ?_
  rintro r w1 ⟨rfl, b1⟩
  have B1 := hide (btr B0.out b1)
  have H1 := hide (heap_below H0.out b1)
  clear b1 B0 H0 EN
  have y0 : w1.cell? ⟨N, 0, none⟩ = some (.int .i64 k) := cell_of H1.out 0
  have y1 : w1.cell? ⟨N, 1, none⟩ = some (.int .i64 g) := cell_of H1.out 1
  have y2 : w1.cell? ⟨N, 2, none⟩ = some (.int .i64 c) := cell_of H1.out 2
  have y3 : w1.cell? ⟨N, 3, none⟩ = some (.int .i64 a) := cell_of H1.out 3
  have y4 : w1.cell? ⟨N, 4, none⟩ = some (.int .i64 v) := cell_of H1.out 4
  have y5 : w1.cell? ⟨N, 5, none⟩ = some (.int .i64 m) := cell_of H1.out 5
  have y6 : w1.cell? ⟨N, 6, none⟩ = some (.bool s) := cell_of H1.out 6
  have y7 : w1.cell? ⟨N, 7, none⟩ = some (.bool o) := cell_of H1.out 7
  go_wp2_with fail
  refine (RN.out _).mono ?_
  rintro r w2 ⟨rfl, b2⟩
  have B2 := hide (btr B1.out b2)
  have H2 := hide (heap_below H1.out b2)
  clear b2 B1 H1 RN y0 y1 y2 y3 y4 y5 y6 y7
  have x0 : w2.cell? ⟨N, 0, none⟩ = some (.int .i64 k) := cell_of H2.out 0
  have x1 : w2.cell? ⟨N, 1, none⟩ = some (.int .i64 g) := cell_of H2.out 1
  have x2 : w2.cell? ⟨N, 2, none⟩ = some (.int .i64 c) := cell_of H2.out 2
  have x3 : w2.cell? ⟨N, 3, none⟩ = some (.int .i64 a) := cell_of H2.out 3
  have x4 : w2.cell? ⟨N, 4, none⟩ = some (.int .i64 v) := cell_of H2.out 4
  have x5 : w2.cell? ⟨N, 5, none⟩ = some (.int .i64 m) := cell_of H2.out 5
  have x6 : w2.cell? ⟨N, 6, none⟩ = some (.bool s) := cell_of H2.out 6
  have x7 : w2.cell? ⟨N, 7, none⟩ = some (.bool o) := cell_of H2.out 7
  go_wp2_with fail
  go_region_held3 (fun w' => w'.cell? ⟨N, 0, none⟩ = some (.int .i64 k) ∧ w'.cell? ⟨N, 1, none⟩ = some (.int .i64 g) ∧ w'.cell? ⟨N, 2, none⟩ = some (.int .i64 c) ∧ w'.cell? ⟨N, 3, none⟩ = some (.int .i64 a) ∧ w'.cell? ⟨N, 4, none⟩ = some (.int .i64 v) ∧ w'.cell? ⟨N, 5, none⟩ = some (.int .i64 m) ∧ w'.cell? ⟨N, 6, none⟩ = some (.bool s) ∧ w'.cell? ⟨N, 7, none⟩ = some (.bool o))
    (first
      | with_reducible assumption
      | (go_split_ands; refine ⟨?_, ?_, ?_, ?_, ?_, ?_, ?_, ?_⟩ <;> (with_reducible (refine cellB ?_ c5)) <;> with_reducible assumption)
      | (go_split_ands; refine ⟨?_, ?_, ?_, ?_, ?_, ?_, ?_, ?_⟩ <;> (with_reducible (refine cellB ?_ c6)) <;> with_reducible assumption)
      | (go_split_ands; refine ⟨?_, ?_, ?_, ?_, ?_, ?_, ?_, ?_⟩ <;> (with_reducible (refine cellB ?_ c7)) <;> with_reducible assumption)
      | go_keep)
    (first
      | (go_at_call 11; refine (CH.out _).mono ?_; rintro r w5 ⟨rfl, c5⟩)
      | (go_at_call 12; refine (RC.out _).mono ?_; rintro r w6 ⟨rfl, c6⟩)
      | (go_at_call 13; refine (exit_any _).mono ?_; rintro r w7 ⟨rfl, c7⟩))
  have B9 := hide (btr B2.out (btr (bdrew1 _) (btr c5 (btr c6 c7))))
  go_wp2_with fail
  go_ret
  exact ⟨rfl, B9.out⟩

/-! ### the row -/
set_option maxRecDepth 100000 in
theorem lifted (os : Os) (started : os.Started) (H : Type) (enc : TypeId × Value → H) :
    ReturnsInHanded {} Try.checked os 3 .any (Rows.entryChecksSpec.pre6 enc Try.prog Try.f3 Rows.entryChecksRow.domain false) (Rows.entryChecksSpec.post enc Try.prog Try.f3 false true false false) := by
  refine returnsInHanded_of_change (C := Try.checked) own started (by kernel_rfl) Try.func3
    (ChangeSpec.witness6 (enc := enc) (C := Try.checked) false ⟨#[], #[.agg #[.int .i64 0, .int .i64 0, .int .i64 0, .int .i64 0, .int .i64 0, .int .i64 0, .bool false, .bool false]], []⟩ 8 (by kernel_rfl) (by kernel_rfl) (by kernel_rfl) (by kernel_rfl)) ?_
  intro W base args ds gs before hval0 hW hcnd _
  have hval : ∀ (j : Nat) t v, Try.f3.params[j]? = some t → args[j]? = some v → Value.okWide Try.prog W .any base t v := hval0
  have hW' := hW
  obtain ⟨p, q, hA0, hV, rfl, hfz, hnd⟩ := hW
  have hA : DataW.TrodAll enc Try.prog W 0 (fun _ => true) true Try.f3.params.toList args.toList ds p := hA0
  rw [Try.params3] at hA hval
  obtain ⟨v0, vs0, d0, ds0, p0, q0, hargs, rfl, rfl, h0, r0⟩ := trodAll_cons hA
  obtain ⟨rfl, rfl, rfl⟩ := trodAll_nil r0
  obtain rfl : args = #[v0] := by cases args; simp_all
  obtain ⟨rfl, rfl⟩ := trodVars_none hV
  have k0 := h0
  have lt0 : ∀ x ∈ p0, x.block < W.heap.size := by obtain ⟨m, hm⟩ := k0; exact DataW.trod_lt m _ _ _ hm
  obtain ⟨x0, rfl⟩ := h0.elim fun _ hf => ev_open hf
  clear hA0 hval0
  refine (core (w := W) x0).mono fun e W' ⟨he, bel⟩ => ?_
  subst he
  exact ⟨_, rfl, _, _, _, [], _, [], hW', trodAll_mk1 (shut_bool Try.underlying4 _), (trodAll_cons_mk (Below.trod laidOut (by kernel_rfl) (of_decide_eq_true (by kernel_rfl)) k0 bel lt0) trodAll_mk0), rfl, bel.frame _, fun h => by cases h⟩

theorem over : Rows.entryChecksRow.holds Try.pinned (OpenSpec.ofChange Rows.entryChecksSpec) :=
  OpenClaim.holds_of_wide 3 Try.f3 rfl rfl rfl rfl rfl rfl rfl ⟨rfl, rfl, rfl, rfl, rfl⟩ rfl rfl rfl rfl rfl (by kernel_rfl) Try.func3 (by kernel_rfl)
    (of_decide_eq_true (by kernel_rfl)) (by unfold Func.isWrapper; first | (rw [if_pos (by decide +kernel)]; kernel_rfl) | (rw [if_neg (by decide +kernel)]; exact ⟨rfl, rfl⟩))
    (fun os started H enc _ => lifted os started H enc)

/-- the statement -/
theorem proved : Rows.EntryChecksSaid := over
#print axioms proved
end Go.Proofs.Ytlcaelfkgillmaa.entryChecks
