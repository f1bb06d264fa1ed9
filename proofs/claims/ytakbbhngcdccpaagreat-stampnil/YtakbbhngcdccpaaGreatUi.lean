/- Package watch, over this seat's program: of who has no tid; bad arguments; Tid. -/
import Derived.Test.YtakbbhngcdccpaaGreatUg
namespace Go.Proofs.YtakbbhngcdccpaaGreat
open Go.ChangeShapes Go.WideShapes Go.ChangeAt Go.RowKit
namespace Wa
open Ck

section
variable {Y : Nat → Prop} {B : Nat} {w : World} {st : Wst} {h : Nat → Option (List Int)}
theorem know_none (s : WW Y B w st h) (g : Int) (hg : (Lit.int .i64 g).wf = true) (hf : st.f g = none) (v : Value) : Calls Tryz.prog 75 #[.pointer (some ⟨B, 0, none⟩), .int .i64 g, v] w fun r w' => r = .returned (.int .i64 6) ∧ Below w.heap.size w w' := by
  obtain ⟨mb, D, s⟩ := s
  have FN := hide (find_none s g hg hf)
  unfold mZ at FN
  clear s hg hf
  go_enter Tryz.func75, Tryz.ntmps75
  go_wp2_with fail
  refine FN.out.mono ?_
  rintro r w1 ⟨rfl, b1⟩
  have B1 := hide (btr b1 (below_alloc w1 (.cells #[.int .i64 0, .pointer none] 71)))
  clear b1
  go_wp2_with fail
  go_ret
  exact ⟨rfl, B1.out⟩
theorem tell_none (s : WW Y B w st h) (g : Int) (hg : (Lit.int .i64 g).wf = true) (hf : st.f g = none) : Calls Tryz.prog 80 #[.pointer (some ⟨B, 0, none⟩), .int .i64 g] w fun r w' => r = .returned (.tuple #[.pointer none, .int .i64 6]) ∧ Below w.heap.size w w' := by
  obtain ⟨mb, D, s⟩ := s
  have FN := hide (find_none s g hg hf)
  unfold mZ at FN
  clear s hg hf
  go_enter Tryz.func80, Tryz.ntmps80
  go_wp2_with fail
  refine FN.out.mono ?_
  rintro r w1 ⟨rfl, b1⟩
  have B1 := hide (btr b1 (below_alloc w1 (.cells #[.int .i64 0, .pointer none] 71)))
  clear b1
  go_wp2_with fail
  go_ret2
  exact ⟨rfl, B1.out⟩
theorem clock_none (s : WW Y B w st h) (g : Int) (hg : (Lit.int .i64 g).wf = true) (hf : st.f g = none) : Calls Tryz.prog 76 #[.pointer (some ⟨B, 0, none⟩), .int .i64 g] w fun r w' => r = .returned (.tuple #[.pointer none, .bool false]) ∧ Below w.heap.size w w' := by
  obtain ⟨mb, D, s⟩ := s
  have FN := hide (find_none s g hg hf)
  unfold mZ at FN
  clear s hg hf
  go_enter Tryz.func76, Tryz.ntmps76
  go_wp2_with fail
  refine FN.out.mono ?_
  rintro r w1 ⟨rfl, b1⟩
  have B1 := hide (btr b1 (below_alloc w1 (.cells #[.int .i64 0, .pointer none] 71)))
  clear b1
  go_wp2_with fail
  go_ret2
  exact ⟨rfl, B1.out⟩
theorem tid_none (s : WW Y B w st h) (g : Int) (hg : (Lit.int .i64 g).wf = true) (hf : st.f g = none) : Calls Tryz.prog 14 #[.pointer (some ⟨B, 0, none⟩), .int .i64 g] w fun r w' => r = .returned (.tuple #[.int .i64 0, .bool false]) ∧ Below w.heap.size w w' := by
  obtain ⟨mb, D, s⟩ := s
  have FN := hide (find_none s g hg hf)
  unfold mZ at FN
  clear s hg hf
  go_enter Tryz.func14, Tryz.ntmps14
  go_wp2_with fail
  refine FN.out.mono ?_
  rintro r w1 ⟨rfl, b1⟩
  have B1 := hide (btr b1 (below_alloc w1 (.cells #[.int .i64 0, .pointer none] 71)))
  clear b1
  go_wp2_with fail
  go_ret2
  exact ⟨rfl, B1.out⟩
theorem retire_none (s : WW Y B w st h) (g : Int) (hg : (Lit.int .i64 g).wf = true) (hf : st.f g = none) : Calls Tryz.prog 21 #[.pointer (some ⟨B, 0, none⟩), .int .i64 g] w fun r w' => r = .returned (.int .i64 6) ∧ Below w.heap.size w w' := by
  obtain ⟨mb, D, s⟩ := s
  have FN := hide (find_none s g hg hf)
  unfold mZ at FN
  clear s hg hf
  go_enter Tryz.func21, Tryz.ntmps21
  go_wp2_with fail
  refine FN.out.mono ?_
  rintro r w1 ⟨rfl, b1⟩
  have B1 := hide (btr b1 (below_alloc w1 (.cells #[.int .i64 0, .pointer none] 71)))
  clear b1
  go_wp2_with fail
  go_ret
  exact ⟨rfl, B1.out⟩
theorem can_none (s : WW Y B w st h) (g : Int) (hg : (Lit.int .i64 g).wf = true) (hf : st.f g = none) : Calls Tryz.prog 16 #[.pointer (some ⟨B, 0, none⟩), .int .i64 g] w fun r w' => r = .returned (.bool false) ∧ Below w.heap.size w w' := by
  obtain ⟨mb, D, s⟩ := s
  have FN := hide (find_none s g hg hf)
  unfold mZ at FN
  clear s hg hf
  go_enter Tryz.func16, Tryz.ntmps16
  go_wp2_with fail
  refine FN.out.mono ?_
  rintro r w1 ⟨rfl, b1⟩
  have B1 := hide (btr b1 (below_alloc w1 (.cells #[.int .i64 0, .pointer none] 71)))
  clear b1
  go_wp2_with fail
  go_region
  have B2 := hide (btr B1.out (Ba.bdrew1 _))
  go_wp2_with fail
  go_ret
  exact ⟨rfl, B2.out⟩
theorem tid_some (s : WW Y B w st h) (g : Int) (hg : (Lit.int .i64 g).wf = true) (t b : Nat) (hf : st.f g = some (t, b)) : Calls Tryz.prog 14 #[.pointer (some ⟨B, 0, none⟩), .int .i64 g] w fun r w' => r = .returned (.tuple #[.int .i64 (t : Int), .bool true]) ∧ Below w.heap.size w w' := by
  obtain ⟨mb, D, s⟩ := s
  have FN := hide (find_some s g hg t b hf)
  unfold mV at FN
  clear s hg hf
  go_enter Tryz.func14, Tryz.ntmps14
  go_wp2_with fail
  refine FN.out.mono ?_
  rintro r w1 ⟨rfl, b1⟩
  have B1 := hide (btr b1 (below_alloc w1 (.cells #[.int .i64 (t : Int), .pointer (some ⟨b, 0, none⟩)] 71)))
  clear b1
  go_wp2_with fail
  go_ret2
  exact ⟨rfl, B1.out⟩
theorem spawn_none (s : WW Y B w st h) (p c : Int) (hp : (Lit.int .i64 p).wf = true) (hfp : st.f p = none) : Calls Tryz.prog 57 #[.pointer (some ⟨B, 0, none⟩), .int .i64 p, .int .i64 c] w fun r w' => r = .returned (.tuple #[.int .i64 0, .int .i64 6]) ∧ Below w.heap.size w w' := by
  obtain ⟨mb, D, s⟩ := s
  have FN := hide (find_none s p hp hfp)
  unfold mZ at FN
  clear s hp hfp
  go_enter Tryz.func57, Tryz.ntmps57
  go_wp2_with fail
  refine FN.out.mono ?_
  rintro r w1 ⟨rfl, b1⟩
  have B1 := hide (btr b1 (below_alloc w1 (.cells #[.int .i64 0, .pointer none] 71)))
  clear b1
  go_wp2_with fail
  go_ret2
  exact ⟨rfl, B1.out⟩
theorem spawn_arg (s : WW Y B w st h) (p c : Int) (hp : (Lit.int .i64 p).wf = true) (hc : (Lit.int .i64 c).wf = true) (tp bp : Nat) (hfp : st.f p = some (tp, bp)) (hq : c < 0 ∨ (st.f c).isSome = true) : Calls Tryz.prog 57 #[.pointer (some ⟨B, 0, none⟩), .int .i64 p, .int .i64 c] w fun r w' => r = .returned (.tuple #[.int .i64 0, .int .i64 1]) ∧ Below w.heap.size w w' := by
  obtain ⟨mb, D, s⟩ := s
  have F1 := hide (find_some s p hp tp bp hfp)
  unfold mV at F1
  cases hfc : st.f c with
  | none =>
    have F2 := hide (fun u (q : Below w.heap.size w u) => find_none (s.below q) c hc hfc)
    unfold mZ at F2
    have hc0 : c < 0 := by
      rcases hq with q | q
      · exact q
      · rw [hfc] at q; cases q
    have d0 : decide (c < 0) = true := decide_eq_true hc0
    clear s hp hc hfc hq hc0 hfp
    go_enter Tryz.func57, Tryz.ntmps57
    go_wp2_with fail
    refine F1.out.mono ?_
    rintro r w1 ⟨rfl, b1⟩
    have B1 := hide (btr b1 (below_alloc w1 (.cells #[.int .i64 (tp : Int), .pointer (some ⟨bp, 0, none⟩)] 71)))
    have F2' := hide (F2.out _ B1.out)
    clear b1 F1 F2
    go_wp2_with fail
    refine F2'.out.mono ?_
    rintro r w2 ⟨rfl, b2⟩
    have B2 := hide (btr (btr B1.out b2) (below_alloc w2 (.cells #[.int .i64 0, .pointer none] 71)))
    clear b2 F2'
    go_wp2_with fail
    go_ret2
    exact ⟨rfl, B2.out⟩
  | some x =>
    obtain ⟨tc, bc⟩ := x
    have F2 := hide (fun u (q : Below w.heap.size w u) => find_some (s.below q) c hc tc bc hfc)
    unfold mV at F2
    clear s hp hc hfc hq hfp
    go_enter Tryz.func57, Tryz.ntmps57
    go_wp2_with fail
    refine F1.out.mono ?_
    rintro r w1 ⟨rfl, b1⟩
    have B1 := hide (btr b1 (below_alloc w1 (.cells #[.int .i64 (tp : Int), .pointer (some ⟨bp, 0, none⟩)] 71)))
    have F2' := hide (F2.out _ B1.out)
    clear b1 F1 F2
    go_wp2_with fail
    refine F2'.out.mono ?_
    rintro r w2 ⟨rfl, b2⟩
    have B2 := hide (btr (btr B1.out b2) (below_alloc w2 (.cells #[.int .i64 (tc : Int), .pointer (some ⟨bc, 0, none⟩)] 71)))
    clear b2 F2'
    go_wp2_with fail
    go_ret2
    exact ⟨rfl, B2.out⟩
end
end Wa
end Go.Proofs.YtakbbhngcdccpaaGreat
