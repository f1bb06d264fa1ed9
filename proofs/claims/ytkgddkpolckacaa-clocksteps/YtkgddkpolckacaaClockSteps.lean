/- For every list of steps, the law ClockSteps returns true, so each of three clocks answers, step by step, as the document's clock does, and what is done to one is not seen by another: under no condition. -/
import Derived.Test.YtkgddkpolckacaaSb
import Derived.Deep.Slices
import Derived.ShutString
import Derived.ChangeOld
import Derived.Below
namespace Go.Proofs.Ytkgddkpolckacaa.clockSteps
open Go.ChangeShapes Go.WideShapes Go.ChangeAt Go.RowKit
open Ck

theorem own : ownKnob Try.prog.godebug = none := by kernel_rfl
theorem laidOut : laidOutB Try.prog = true := by kernel_rfl

/-- the number in a cell -/
def numAt (w : World) (a : Addr) : Int := match w.cell? a with | some (.int _ n) => n | _ => 0

theorem fields : ∃ fs : Array Field, Try.prog.underlying 32 = some (.struct fs) ∧ fs.size = 5 ∧ ∀ j, j < 5 → ∃ f, fs[j]? = some f ∧ f.offset = j ∧ f.type = 3 := by
  refine ⟨_, Try.underlying32, rfl, fun j hj => ?_⟩
  match j, hj with
  | 0, _ => exact ⟨_, rfl, rfl, rfl⟩
  | 1, _ => exact ⟨_, rfl, rfl, rfl⟩
  | 2, _ => exact ⟨_, rfl, rfl, rfl⟩
  | 3, _ => exact ⟨_, rfl, rfl, rfl⟩
  | 4, _ => exact ⟨_, rfl, rfl, rfl⟩

theorem cells_step : Try.prog.cellsOf 32 = 5 := by kernel_rfl
theorem cells_int : Try.prog.cellsOf 3 = 1 := by kernel_rfl

theorem steps_open {H : Type} {enc : TypeId × Value → H} {w : World} {fuel : Nat} {oa : Option Addr} {len cap : Nat} {x : DataW H × List MemPlace}
    (h : DataW.trod enc Try.prog w 0 (fun _ => true) true fuel 22 [.slice oa len cap] = some x) : (∃ V, StepsAt w oa len V) ∧ len ≤ maxLen := by
  rcases Go.Deep.open_slice Try.underlying22 h with ⟨hcs, _⟩ | ⟨a, l, c, m, n, D, Pl, hcs, _, hl, hm, hmm, _, hel⟩
  · simp at hcs
    obtain ⟨rfl, rfl, rfl⟩ := hcs
    exact ⟨⟨fun _ _ => 0, fun i hi => absurd hi (Nat.not_lt_zero _)⟩, Nat.zero_le _⟩
  · simp at hcs
    obtain ⟨rfl, rfl, rfl⟩ := hcs
    have hmc : m = cap := by simpa using hmm
    subst hmc
    refine ⟨⟨fun i j => numAt w ((a.add (i * 5)).add j), ?_⟩, by omega⟩
    obtain ⟨fs, hu, hsz, hf⟩ := fields
    have key : ∀ i, i < len → ∀ j, j < 5 → ∃ v, w.cell? ((a.add (i * 5)).add j) = some (.int .i64 v) := by
      intro i hi j hj
      obtain ⟨cs', h1, h2⟩ := hel i (by omega)
      rw [cells_step] at h1
      obtain ⟨_, hlen, hcell⟩ := World.cells?_some h1
      obtain ⟨xs, k, _, _, _, hxl, hff⟩ := DataW.trod_struct hu h2
      obtain ⟨f, hfj, ho, ht⟩ := hf j hj
      have h3 := hff j f hfj
      rw [ho, ht, cells_int] at h3
      have hx : ∃ y, xs[j]? = some y := ⟨xs[j]'(by omega), by simp⟩
      obtain ⟨y, hy⟩ := hx
      rw [hy] at h3
      obtain ⟨v, hv, _⟩ := DataW.trod_int Try.underlying3 h3
      refine ⟨v, ?_⟩
      have h4 := hcell j hj
      have h5 : cs'[j]? = some (.int .i64 v) := by
        have : ((cs'.drop j).take 1)[0]? = some (.int .i64 v) := by rw [hv]; rfl
        simpa using this
      rw [h5] at h4
      exact h4
    intro i hi
    have hspot : a.spot = none := by
      obtain ⟨v, hv⟩ := key 0 (by omega) 0 (by decide)
      have := World.cell?_spot hv
      simpa [Addr.add] using this
    obtain ⟨b, off, spot⟩ := a
    simp at hspot
    subst hspot
    refine ⟨b, off, rfl, fun j hj => ?_⟩
    obtain ⟨v, hv⟩ := key i hi j hj
    have e : numAt w ((Addr.add ⟨b, off, none⟩ (i * 5)).add j) = v := by simp [numAt, hv]
    show _ = some (Value.int .i64 (numAt w ((Addr.add ⟨b, off, none⟩ (i * 5)).add j)))
    rw [e]
    rw [Addr.add_lit, Addr.add_lit] at hv
    exact hv

set_option maxRecDepth 100000 in
set_option maxHeartbeats 1600000 in
theorem long_walk (oa : Option Addr) (len c : Nat) (w : World) (hl : 300 < len) (hm : len ≤ maxLen) :
    Calls Try.prog 3 #[.slice oa len c] w fun r w' => r = .returned (.bool true) ∧ Below w.heap.size w w' := by
  unfold maxLen at hm
  have hl' : decide ((300 : Int) < (len : Int)) = true := by simp; omega
  go_enter Try.func3, Try.ntmps3
  go_wp2_with (go_at_call 9; refine (new_any _).mono ?_; rintro r w' ⟨rfl, rfl⟩)
  refine (joins_any _).mono ?_
  rintro r w2 ⟨rfl, hb⟩
  have HB := hide hb
  clear hb
  go_wp2_with fail
  go_ret
  exact ⟨rfl, btr (btr (btr (btr (below_alloc _ _) (below_alloc _ _)) (below_alloc _ _)) (below_alloc _ _)) HB.out⟩

/-! ### the row -/
set_option maxRecDepth 100000 in
theorem lifted (os : Os) (started : os.Started) (H : Type) (enc : TypeId × Value → H) :
    ReturnsInHanded {} Try.checked os 3 .any (Rows.clockStepsSpec.pre6 enc Try.prog Try.f3 Rows.clockStepsRow.domain false) (Rows.clockStepsSpec.post enc Try.prog Try.f3 false true false false) := by
  refine returnsInHanded_of_change (C := Try.checked) own started (by kernel_rfl) Try.func3
    (ChangeSpec.witness6 (enc := enc) (C := Try.checked) false ⟨#[], #[.slice none 0 0], []⟩ 8 (by kernel_rfl) (by kernel_rfl) (by kernel_rfl) (by kernel_rfl)) ?_
  intro W base args ds gs before hval0 hW hcnd _
  have hval : ∀ (j : Nat) t v, Try.f3.params[j]? = some t → args[j]? = some v → Value.okWide Try.prog W .any base t v := hval0
  have hW' := hW
  obtain ⟨p, q, hA0, hV, rfl, hfz, hnd⟩ := hW
  have hA : DataW.TrodAll enc Try.prog W 0 (fun _ => true) true Try.f3.params.toList args.toList ds p := hA0
  rw [Try.params3] at hA hval
  obtain ⟨v0, vs0, d0, ds0, p0, q0, hargs, rfl, rfl, h0, r0⟩ := trodAll_cons hA
  obtain ⟨rfl, rfl, rfl⟩ := trodAll_nil r0
  obtain rfl : args = #[v0] := by cases args; simp_all
  obtain ⟨rfl, rfl⟩ := trodVars_none hV
  obtain ⟨a0, len0, cap0, rfl⟩ := okWide_slice Try.underlying22 (hval 0 22 v0 rfl rfl)
  have k0 := h0
  have lt0 : ∀ x ∈ p0, x.block < W.heap.size := by obtain ⟨m, hm⟩ := k0; exact DataW.trod_lt m _ _ _ hm
  obtain ⟨⟨V, hS⟩, hM⟩ : (∃ V, StepsAt W a0 len0 V) ∧ len0 ≤ maxLen := by
    obtain ⟨fuel, hf⟩ := h0
    exact steps_open hf
  have walk : Calls Try.prog 3 #[.slice a0 len0 cap0] W fun r w' => r = .returned (.bool true) ∧ Below W.heap.size W w' := by
    by_cases hl : len0 ≤ 300
    · exact steps_walk a0 len0 cap0 V W hS hl
    · exact long_walk a0 len0 cap0 W (by omega) hM
  clear hA0 hval0
  refine walk.mono fun e W' ⟨he, bel⟩ => ?_
  subst he
  exact ⟨_, rfl, _, _, _, [], _, [], hW', trodAll_mk1 (shut_bool Try.underlying4 _), (trodAll_cons_mk (Below.trod laidOut (by kernel_rfl) (of_decide_eq_true (by kernel_rfl)) k0 bel lt0) trodAll_mk0), rfl, bel.frame _, fun h => by cases h⟩

theorem over : Rows.clockStepsRow.holds Try.pinned (OpenSpec.ofChange Rows.clockStepsSpec) :=
  OpenClaim.holds_of_wide 3 Try.f3 rfl rfl rfl rfl rfl rfl rfl ⟨rfl, rfl, rfl, rfl, rfl⟩ rfl rfl rfl rfl rfl (by kernel_rfl) Try.func3 (by kernel_rfl)
    (of_decide_eq_true (by kernel_rfl)) (by unfold Func.isWrapper; first | (rw [if_pos (by decide +kernel)]; kernel_rfl) | (rw [if_neg (by decide +kernel)]; exact ⟨rfl, rfl⟩))
    (fun os started H enc _ => lifted os started H enc)

/-- the statement -/
theorem proved : Rows.ClockStepsSaid := over
#print axioms proved
end Go.Proofs.Ytkgddkpolckacaa.clockSteps
