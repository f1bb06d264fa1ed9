/- The laws' own does(): sends, waits, closings, drops, over this seat's program. -/
import Derived.Test.YtapabnakbaoijaaKc
namespace Go.Proofs.Ytapabnakbaoijaa
open Go.ChangeShapes Go.WideShapes Go.ChangeAt Go.RowKit
namespace Rp
open Ba Pe _root_.Go.Proofs.Ytapabnakbaoijaa.Pi

set_option maxRecDepth 100000 in
set_option maxHeartbeats 6400000 in
theorem does_send (B G : Nat) (F R : Nat → Prop) (st : St) (what : Int) (x : Wt) (w : World) (h : Pp w B F st) (r : Rr w G R st) (ap : ∀ x, F x → ¬ R x) (hs : st.sent < 1000000000) (hg : st.got < 1000000000) (hw : what = 0 ∨ what = 1) :
    Calls Try.prog 11 #[.pointer (some ⟨B, 0, none⟩), .pointer (some ⟨G, 0, none⟩), (.agg #[.int .i64 what, .int .i64 x.g, .int .i64 x.c, .int .i64 x.v])] w fun r w' => r = .returned (.bool true) ∧ Two w w' B G F R (sendS st x.v) := by
  have BA := hide (below_alloc w (.cells #[.int .i64 what, .int .i64 x.g, .int .i64 x.c, .int .i64 x.v] 34))
  have XN := hide (heap_new w (.cells #[.int .i64 what, .int .i64 x.g, .int .i64 x.c, .int .i64 x.v] 34))
  have P1 := hide (h.below BA.out)
  have HR := hide r
  have AP := hide ap
  have NF : Hid (¬ F w.heap.size) := fun e => Nat.lt_irrefl _ (h.bd _ e)
  have NR : Hid (¬ R w.heap.size) := fun e => Nat.lt_irrefl _ (r.bd _ e)
  have SD := hide (send_any B F st x.v _ P1.out hs hg)
  clear h r ap
  have fin : ∀ (c : World) (F' : Nat → Prop), Half w c B G F R F' st (sendS st x.v) → Calls Try.prog 27 #[.pointer (some ⟨G, 0, none⟩), .int .i64 x.v] c fun r w' => r = .returned (.tuple #[gv (sendG st), .int .i64 (sendE st)]) ∧ KF R c w' ∧ Two w w' B G F R (sendS st x.v) := by
    intro c F' hf
    refine (rsend_any G R st x.v c hf.r hs hg).mono ?_
    rintro r w1 ⟨rfl, k1, R1, n1, p1⟩
    exact ⟨rfl, k1, hf.both k1 n1 p1⟩
  have FIN := hide fin
  have GT := hide fun u => got_any (sendG st) u
  clear fin
  generalize sendG st = g at SD FIN GT
  generalize sendE st = e at SD FIN
  obtain ⟨rd, ok, wk, v, ⟨mg, mc, mv⟩⟩ := g
  unfold gv at SD FIN GT
  rcases hw with rfl | rfl
  · skip
    go_enter Try.func11, Try.ntmps11
    go_wp2_with fail
    refine SD.out.mono ?_
    rintro r w2 ⟨rfl, k2, F2, n2, p2⟩
    have H2 := hide ((Half.mk' BA.out HR.out AP.out k2 n2 p2).below (below_alloc w2 (.cells #[.bool rd, .bool ok, .bool wk, .int .i64 v, .int .i64 mg, .int .i64 mc, .int .i64 mv] 49)))
    have X2 := hide (heap_below (k2.heap XN.out NF.out) (below_alloc w2 (.cells #[.bool rd, .bool ok, .bool wk, .int .i64 v, .int .i64 mg, .int .i64 mc, .int .i64 mv] 49)))
    have A2 := hide (heap_new w2 (.cells #[.bool rd, .bool ok, .bool wk, .int .i64 v, .int .i64 mg, .int .i64 mc, .int .i64 mv] 49))
    have NA2 : Hid (¬ R w2.heap.size) := fun e => by
      have h1 := HR.out.bd _ e
      have h2 := k2.size
      rw [World.size_alloc] at h2
      omega
    have q3 : (w2.alloc (.cells #[.bool rd, .bool ok, .bool wk, .int .i64 v, .int .i64 mg, .int .i64 mc, .int .i64 mv] 49)).cell? ⟨w.heap.size, 3, none⟩ = some (.int .i64 x.v) := cell_of X2.out 3
    clear k2 n2 p2
    go_wp2_with fail
    generalize w2.alloc (.cells #[.bool rd, .bool ok, .bool wk, .int .i64 v, .int .i64 mg, .int .i64 mc, .int .i64 mv] 49) = W2 at H2 X2 A2 q3 ⊢
    generalize w2.heap.size = A at A2 NA2 ⊢
    refine (FIN.out _ _ H2.out).mono ?_
    rintro r w3 ⟨rfl, k3, t3⟩
    have T3 := hide (t3.below (below_alloc w3 (.cells #[.bool rd, .bool ok, .bool wk, .int .i64 v, .int .i64 mg, .int .i64 mc, .int .i64 mv] 68)))
    have A3 := hide (heap_below (k3.heap A2.out NA2.out) (below_alloc w3 (.cells #[.bool rd, .bool ok, .bool wk, .int .i64 v, .int .i64 mg, .int .i64 mc, .int .i64 mv] 68)))
    have Q3 := hide (heap_new w3 (.cells #[.bool rd, .bool ok, .bool wk, .int .i64 v, .int .i64 mg, .int .i64 mc, .int .i64 mv] 68))
    clear k3 t3 A2 X2 H2 q3
    go_wp2_with fail
    generalize w3.alloc (.cells #[.bool rd, .bool ok, .bool wk, .int .i64 v, .int .i64 mg, .int .i64 mc, .int .i64 mv] 68) = W3 at T3 A3 Q3 ⊢
    generalize w3.heap.size = Q at Q3 ⊢
    have a0 : W3.cell? ⟨A, 0, none⟩ = some (.bool rd) := cell_of A3.out 0
    have c0 : W3.cell? ⟨Q, 0, none⟩ = some (.bool rd) := cell_of Q3.out 0
    have a1 : W3.cell? ⟨A, 1, none⟩ = some (.bool ok) := cell_of A3.out 1
    have c1 : W3.cell? ⟨Q, 1, none⟩ = some (.bool ok) := cell_of Q3.out 1
    have a2 : W3.cell? ⟨A, 2, none⟩ = some (.bool wk) := cell_of A3.out 2
    have c2 : W3.cell? ⟨Q, 2, none⟩ = some (.bool wk) := cell_of Q3.out 2
    have a3 : W3.cell? ⟨A, 3, none⟩ = some (.int .i64 v) := cell_of A3.out 3
    have c3 : W3.cell? ⟨Q, 3, none⟩ = some (.int .i64 v) := cell_of Q3.out 3
    have a4 : W3.cell? ⟨A, 4, none⟩ = some (.int .i64 mg) := cell_of A3.out 4
    have c4 : W3.cell? ⟨Q, 4, none⟩ = some (.int .i64 mg) := cell_of Q3.out 4
    have a5 : W3.cell? ⟨A, 5, none⟩ = some (.int .i64 mc) := cell_of A3.out 5
    have c5 : W3.cell? ⟨Q, 5, none⟩ = some (.int .i64 mc) := cell_of Q3.out 5
    have a6 : W3.cell? ⟨A, 6, none⟩ = some (.int .i64 mv) := cell_of A3.out 6
    have c6 : W3.cell? ⟨Q, 6, none⟩ = some (.int .i64 mv) := cell_of Q3.out 6
    go_region_held3 (fun w' => w'.cell? ⟨A, 0, none⟩ = some (.bool rd) ∧ w'.cell? ⟨A, 1, none⟩ = some (.bool ok) ∧ w'.cell? ⟨A, 2, none⟩ = some (.bool wk) ∧ w'.cell? ⟨A, 3, none⟩ = some (.int .i64 v) ∧ w'.cell? ⟨A, 4, none⟩ = some (.int .i64 mg) ∧ w'.cell? ⟨A, 5, none⟩ = some (.int .i64 mc) ∧ w'.cell? ⟨A, 6, none⟩ = some (.int .i64 mv) ∧ w'.cell? ⟨Q, 0, none⟩ = some (.bool rd) ∧ w'.cell? ⟨Q, 1, none⟩ = some (.bool ok) ∧ w'.cell? ⟨Q, 2, none⟩ = some (.bool wk) ∧ w'.cell? ⟨Q, 3, none⟩ = some (.int .i64 v) ∧ w'.cell? ⟨Q, 4, none⟩ = some (.int .i64 mg) ∧ w'.cell? ⟨Q, 5, none⟩ = some (.int .i64 mc) ∧ w'.cell? ⟨Q, 6, none⟩ = some (.int .i64 mv))
      (first
        | go_keep
        | (go_split_ands
           refine ⟨?_, ?_, ?_, ?_, ?_, ?_, ?_, ?_, ?_, ?_, ?_, ?_, ?_, ?_⟩ <;> (refine cellB ?_ k4; assumption)))
      ((go_at_call 28; refine (GT.out _).mono ?_; rintro r w4 ⟨rfl, k4⟩))
    have T4 := hide (T3.out.below (btr (bdrew1 _) k4))
    clear k4
    go_wp2_with fail
    go_ret
    exact ⟨rfl, T4.out⟩
  · skip
    go_enter Try.func11, Try.ntmps11
    go_wp2_with fail
    refine SD.out.mono ?_
    rintro r w2 ⟨rfl, k2, F2, n2, p2⟩
    have H2 := hide ((Half.mk' BA.out HR.out AP.out k2 n2 p2).below (below_alloc w2 (.cells #[.bool rd, .bool ok, .bool wk, .int .i64 v, .int .i64 mg, .int .i64 mc, .int .i64 mv] 49)))
    have X2 := hide (heap_below (k2.heap XN.out NF.out) (below_alloc w2 (.cells #[.bool rd, .bool ok, .bool wk, .int .i64 v, .int .i64 mg, .int .i64 mc, .int .i64 mv] 49)))
    have A2 := hide (heap_new w2 (.cells #[.bool rd, .bool ok, .bool wk, .int .i64 v, .int .i64 mg, .int .i64 mc, .int .i64 mv] 49))
    have NA2 : Hid (¬ R w2.heap.size) := fun e => by
      have h1 := HR.out.bd _ e
      have h2 := k2.size
      rw [World.size_alloc] at h2
      omega
    have q3 : (w2.alloc (.cells #[.bool rd, .bool ok, .bool wk, .int .i64 v, .int .i64 mg, .int .i64 mc, .int .i64 mv] 49)).cell? ⟨w.heap.size, 3, none⟩ = some (.int .i64 x.v) := cell_of X2.out 3
    clear k2 n2 p2
    go_wp2_with fail
    generalize w2.alloc (.cells #[.bool rd, .bool ok, .bool wk, .int .i64 v, .int .i64 mg, .int .i64 mc, .int .i64 mv] 49) = W2 at H2 X2 A2 q3 ⊢
    generalize w2.heap.size = A at A2 NA2 ⊢
    refine (FIN.out _ _ H2.out).mono ?_
    rintro r w3 ⟨rfl, k3, t3⟩
    have T3 := hide (t3.below (below_alloc w3 (.cells #[.bool rd, .bool ok, .bool wk, .int .i64 v, .int .i64 mg, .int .i64 mc, .int .i64 mv] 68)))
    have A3 := hide (heap_below (k3.heap A2.out NA2.out) (below_alloc w3 (.cells #[.bool rd, .bool ok, .bool wk, .int .i64 v, .int .i64 mg, .int .i64 mc, .int .i64 mv] 68)))
    have Q3 := hide (heap_new w3 (.cells #[.bool rd, .bool ok, .bool wk, .int .i64 v, .int .i64 mg, .int .i64 mc, .int .i64 mv] 68))
    clear k3 t3 A2 X2 H2 q3
    go_wp2_with fail
    generalize w3.alloc (.cells #[.bool rd, .bool ok, .bool wk, .int .i64 v, .int .i64 mg, .int .i64 mc, .int .i64 mv] 68) = W3 at T3 A3 Q3 ⊢
    generalize w3.heap.size = Q at Q3 ⊢
    have a0 : W3.cell? ⟨A, 0, none⟩ = some (.bool rd) := cell_of A3.out 0
    have c0 : W3.cell? ⟨Q, 0, none⟩ = some (.bool rd) := cell_of Q3.out 0
    have a1 : W3.cell? ⟨A, 1, none⟩ = some (.bool ok) := cell_of A3.out 1
    have c1 : W3.cell? ⟨Q, 1, none⟩ = some (.bool ok) := cell_of Q3.out 1
    have a2 : W3.cell? ⟨A, 2, none⟩ = some (.bool wk) := cell_of A3.out 2
    have c2 : W3.cell? ⟨Q, 2, none⟩ = some (.bool wk) := cell_of Q3.out 2
    have a3 : W3.cell? ⟨A, 3, none⟩ = some (.int .i64 v) := cell_of A3.out 3
    have c3 : W3.cell? ⟨Q, 3, none⟩ = some (.int .i64 v) := cell_of Q3.out 3
    have a4 : W3.cell? ⟨A, 4, none⟩ = some (.int .i64 mg) := cell_of A3.out 4
    have c4 : W3.cell? ⟨Q, 4, none⟩ = some (.int .i64 mg) := cell_of Q3.out 4
    have a5 : W3.cell? ⟨A, 5, none⟩ = some (.int .i64 mc) := cell_of A3.out 5
    have c5 : W3.cell? ⟨Q, 5, none⟩ = some (.int .i64 mc) := cell_of Q3.out 5
    have a6 : W3.cell? ⟨A, 6, none⟩ = some (.int .i64 mv) := cell_of A3.out 6
    have c6 : W3.cell? ⟨Q, 6, none⟩ = some (.int .i64 mv) := cell_of Q3.out 6
    go_region_held3 (fun w' => w'.cell? ⟨A, 0, none⟩ = some (.bool rd) ∧ w'.cell? ⟨A, 1, none⟩ = some (.bool ok) ∧ w'.cell? ⟨A, 2, none⟩ = some (.bool wk) ∧ w'.cell? ⟨A, 3, none⟩ = some (.int .i64 v) ∧ w'.cell? ⟨A, 4, none⟩ = some (.int .i64 mg) ∧ w'.cell? ⟨A, 5, none⟩ = some (.int .i64 mc) ∧ w'.cell? ⟨A, 6, none⟩ = some (.int .i64 mv) ∧ w'.cell? ⟨Q, 0, none⟩ = some (.bool rd) ∧ w'.cell? ⟨Q, 1, none⟩ = some (.bool ok) ∧ w'.cell? ⟨Q, 2, none⟩ = some (.bool wk) ∧ w'.cell? ⟨Q, 3, none⟩ = some (.int .i64 v) ∧ w'.cell? ⟨Q, 4, none⟩ = some (.int .i64 mg) ∧ w'.cell? ⟨Q, 5, none⟩ = some (.int .i64 mc) ∧ w'.cell? ⟨Q, 6, none⟩ = some (.int .i64 mv))
      (first
        | go_keep
        | (go_split_ands
           refine ⟨?_, ?_, ?_, ?_, ?_, ?_, ?_, ?_, ?_, ?_, ?_, ?_, ?_, ?_⟩ <;> (refine cellB ?_ k4; assumption)))
      ((go_at_call 28; refine (GT.out _).mono ?_; rintro r w4 ⟨rfl, k4⟩))
    have T4 := hide (T3.out.below (btr (bdrew1 _) k4))
    clear k4
    go_wp2_with fail
    go_ret
    exact ⟨rfl, T4.out⟩
end Rp
end Go.Proofs.Ytapabnakbaoijaa
