/- Package watch, over this seat's program: Epoch of somebody and of nobody. -/
import Derived.Test.YtakbbhngcdccpaaGreatUi
namespace Go.Proofs.YtakbbhngcdccpaaGreat
open Go.ChangeShapes Go.WideShapes Go.ChangeAt Go.RowKit
namespace Wa
open Ck

/-- the epoch of a tid at a number; 0 is None -/
def epk (t c : Int) : Int := if 0 ≤ t ∧ t < 256 ∧ 1 ≤ c ∧ c ≤ 1048576 then (t + 1) * 4294967296 + c else 0
theorem pack_fst (t c : Int) (w : World) : Calls Tryz.prog 114 #[.int .i64 t, .int .i64 c] w fun r w' => (∃ e, r = .returned (.tuple #[.int .u64 (epk t c), .int .i64 e])) ∧ w' = w := by
  unfold epk
  by_cases h : 0 ≤ t ∧ t < 256 ∧ 1 ≤ c ∧ c ≤ 1048576
  · rw [if_pos h]
    refine (Ep.pack_ok t c h.1 h.2.1 h.2.2.1 h.2.2.2 w).mono ?_
    rintro r w' ⟨rfl, rfl⟩
    exact ⟨⟨_, rfl⟩, rfl⟩
  · rw [if_neg h]
    refine (Ep.pack_no t c (by omega) w).mono ?_
    rintro r w' ⟨rfl, rfl⟩
    exact ⟨⟨_, rfl⟩, rfl⟩
theorem cepoch_some (b : Nat) (l : List Int) (t : Nat) (w : World) (hc : CK w b l) : Calls Tryz.prog 102 #[.pointer (some ⟨b, 0, none⟩), .int .i64 (t : Int)] w fun r w' => r = .returned (.int .u64 (epk (t : Int) (nth l t))) ∧ w' = w := by
  have GN := hide (get_any b l (t : Int) w hc)
  rw [gt_nat] at GN
  have PN := hide (fun u => pack_fst (t : Int) (nth l t) u)
  generalize epk (t : Int) (nth l t) = ev at *
  generalize nth l t = v at *
  generalize (t : Int) = ti at *
  go_enter Tryz.func102, Tryz.ntmps102
  go_wp2_with fail
  refine GN.out.mono ?_
  rintro r w1 ⟨rfl, e1⟩
  obtain rfl := e1.symm
  go_wp2_with fail
  refine (PN.out _).mono ?_
  rintro r w1 ⟨⟨e, rfl⟩, e1⟩
  obtain rfl := e1.symm
  go_wp2_with fail
  go_ret
  exact ⟨rfl, rfl⟩
section
variable {Y : Nat → Prop} {B : Nat} {w : World} {st : Wst} {h : Nat → Option (List Int)}
theorem epoch_none (s : WW Y B w st h) (g : Int) (hg : (Lit.int .i64 g).wf = true) (hf : st.f g = none) : Calls Tryz.prog 77 #[.pointer (some ⟨B, 0, none⟩), .int .i64 g] w fun r w' => r = .returned (.int .u64 0) ∧ Below w.heap.size w w' := by
  obtain ⟨mb, D, s⟩ := s
  have FN := hide (find_none s g hg hf)
  unfold mZ at FN
  clear s hg hf
  go_enter Tryz.func77, Tryz.ntmps77
  go_wp2_with fail
  refine FN.out.mono ?_
  rintro r w1 ⟨rfl, b1⟩
  have B1 := hide b1
  clear b1
  go_wp2_with fail
  refine (cepoch_nil _).mono ?_
  rintro r w2 ⟨rfl, rfl⟩
  go_wp2_with fail
  go_ret
  exact ⟨rfl, btr B1.out (below_alloc _ _)⟩
theorem epoch_some (s : WW Y B w st h) (g : Int) (hg : (Lit.int .i64 g).wf = true) (t b : Nat) (l : List Int) (hf : st.f g = some (t, b)) (hb : h b = some l) : Calls Tryz.prog 77 #[.pointer (some ⟨B, 0, none⟩), .int .i64 g] w fun r w' => r = .returned (.int .u64 (epk (t : Int) (nth l t))) ∧ Below w.heap.size w w' := by
  obtain ⟨mb, D, s⟩ := s
  have FN := hide (find_some s g hg t b hf)
  unfold mV at FN
  have CK0 := hide (s.cx.get (hx_at hb)).1
  have GE := hide (fun u (q : Below w.heap.size w u) => cepoch_some b l t u (CK0.out.below q))
  clear s hg hf hb CK0
  generalize epk (t : Int) (nth l t) = ev at *
  go_enter Tryz.func77, Tryz.ntmps77
  go_wp2_with fail
  refine FN.out.mono ?_
  rintro r w1 ⟨rfl, b1⟩
  have B1 := hide b1
  clear b1
  go_wp2_with fail
  refine (GE.out _ (btr B1.out (below_alloc _ _))).mono ?_
  rintro r w2 ⟨rfl, rfl⟩
  go_wp2_with fail
  go_ret
  exact ⟨rfl, btr B1.out (below_alloc _ _)⟩
end
end Wa
end Go.Proofs.YtakbbhngcdccpaaGreat
