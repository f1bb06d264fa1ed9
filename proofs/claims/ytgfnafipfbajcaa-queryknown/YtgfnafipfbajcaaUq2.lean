/- Package query, over this seat's program: between, asked. -/
import Derived.Test.YtgfnafipfbajcaaUq1
import Derived.Test.YtgfnafipfbajcaaEp
namespace Go.Proofs.Ytgfnafipfbajcaa
open Go.ChangeShapes Go.WideShapes Go.ChangeAt Go.RowKit
namespace Qu
open Ba Rk
open Ep (tidOf clkOf ownB)

set_option maxHeartbeats 400000 in
theorem qbtid (e l m : Int) (a0 : 0 ≤ e) (a1 : e ≤ 18446744073709551615) (w : World) :
    Calls Try.prog 19 #[.func (.func 26) #[.int .u64 e] #[], .int .i64 l, .int .i64 m] w fun r w' => r = .returned (.bool (decide (l ≤ tidOf e) && decide (tidOf e ≤ m))) ∧ w' = w := by
  by_cases h1 : l ≤ tidOf e <;> by_cases h2 : tidOf e ≤ m
  all_goals
    go_enter Try.func19, Try.ntmps19
    go_wp2_with (go_at_call 26; refine (Ep.tid_any e a0 a1 _).mono ?_; rintro r w' ⟨rfl, rfl⟩)
    go_ret
    simp [h1, h2]
set_option maxHeartbeats 400000 in
theorem qbclk (e l m : Int) (a0 : 0 ≤ e) (a1 : e ≤ 18446744073709551615) (w : World) :
    Calls Try.prog 19 #[.func (.func 15) #[.int .u64 e] #[], .int .i64 l, .int .i64 m] w fun r w' => r = .returned (.bool (decide (l ≤ clkOf e) && decide (clkOf e ≤ m))) ∧ w' = w := by
  by_cases h1 : l ≤ clkOf e <;> by_cases h2 : clkOf e ≤ m
  all_goals
    go_enter Try.func19, Try.ntmps19
    go_wp2_with (go_at_call 15; refine (Ep.clk_any e a0 a1 _).mono ?_; rintro r w' ⟨rfl, rfl⟩)
    go_ret
    simp [h1, h2]
/-- the record of an event that can be asked for -/
def ask (rs : List Rd) (x : Ex) (y : Sx) : Option Rd := if x.k = 13 then none else if ownB y.e then fd rs x.g else none
theorem mkf : ∀ (fn : Fn) (first cap : Array Value) (w : World), (Instr.makeFunc fn first cap).run Try.prog w = .ok (.func fn first cap) w := fun _ _ _ _ => rfl
set_option maxRecDepth 100000 in
set_option maxHeartbeats 3200000 in
theorem asked_any (oe os od : Option Addr) (ce cs cd : Nat) (es : List Ex) (ss : List Sx) (rs : List Rd) (k : Nat) (x : Ex) (y : Sx) (w : World) (h : LG w oe os od es ss rs) (hx : es[k]? = some x) (hy : ss[k]? = some y) (hl : rs.length ≤ 100000) :
    Calls Try.prog 18 #[.agg #[.slice oe es.length ce, .slice os ss.length cs, .slice od rs.length cd], .int .i64 (k : Int)] w fun r w' => r = .returned (.tuple #[rv (fdR (ask rs x y)), .bool (ask rs x y).isSome]) ∧ Below w.heap.size w w' := by
  have RCA := hide fun u le ls (hu : RO u od rs) => record_any oe os od le ce ls cs cd rs x.g u hu hl
  have hke := (List.getElem?_eq_some_iff.1 hx).1
  have hks := (List.getElem?_eq_some_iff.1 hy).1
  obtain ⟨le, hle⟩ : ∃ le, es.length = le := ⟨_, rfl⟩
  obtain ⟨ls, hls⟩ : ∃ ls, ss.length = ls := ⟨_, rfl⟩
  obtain ⟨ld, hld⟩ : ∃ ld, rs.length = ld := ⟨_, rfl⟩
  rw [hle] at hke ⊢
  rw [hls] at hks ⊢
  rw [hld] at RCA ⊢
  have hke' : (k : Int) < (le : Int) := by omega
  have hks' : (k : Int) < (ls : Int) := by omega
  have b1 := below_alloc w (.cells #[.slice oe le ce, .slice os ls cs, .slice od ld cd] 26)
  have b2 := below_alloc (w.alloc (.cells #[.slice oe le ce, .slice os ls cs, .slice od ld cd] 26)) (.cells #[.int .i64 0, .int .i64 0, .int .i64 0, .bool false, .int .i64 0, .int .i64 0] 45)
  have h1 := heap_below (heap_new w (.cells #[.slice oe le ce, .slice os ls cs, .slice od ld cd] 26)) b2
  have h2 := heap_new (w.alloc (.cells #[.slice oe le ce, .slice os ls cs, .slice od ld cd] 26)) (.cells #[.int .i64 0, .int .i64 0, .int .i64 0, .bool false, .int .i64 0, .int .i64 0] 45)
  rw [World.size_alloc] at h2
  have s2 : ((w.alloc (.cells #[.slice oe le ce, .slice os ls cs, .slice od ld cd] 26)).alloc (.cells #[.int .i64 0, .int .i64 0, .int .i64 0, .bool false, .int .i64 0, .int .i64 0] 45)).heap.size = w.heap.size + 2 := by rw [World.size_alloc, World.size_alloc]
  have L2 := h.below (btr b1 b2)
  have MK := mkf
  obtain ⟨xk, xg, xc, xa, xv, xm, xs, xo⟩ := x
  have b3 := below_alloc ((w.alloc (.cells #[.slice oe le ce, .slice os ls cs, .slice od ld cd] 26)).alloc (.cells #[.int .i64 0, .int .i64 0, .int .i64 0, .bool false, .int .i64 0, .int .i64 0] 45)) (.cells #[.int .i64 xk, .int .i64 xg, .int .i64 xc, .int .i64 xa, .int .i64 xv, .int .i64 xm, .bool xs, .bool xo] 50)
  have h3 := heap_new ((w.alloc (.cells #[.slice oe le ce, .slice os ls cs, .slice od ld cd] 26)).alloc (.cells #[.int .i64 0, .int .i64 0, .int .i64 0, .bool false, .int .i64 0, .int .i64 0] 45)) (.cells #[.int .i64 xk, .int .i64 xg, .int .i64 xc, .int .i64 xa, .int .i64 xv, .int .i64 xm, .bool xs, .bool xo] 50)
  rw [s2] at h3
  have H1 := hide (heap_below h1 b3)
  have H2 := hide (heap_below h2 b3)
  have H3 := hide h3
  have BB := hide (btr (btr b1 b2) b3)
  have LL := hide (L2.below b3)
  obtain ⟨sb, so, eos, t0, -, -, -, e0, e1⟩ := LL.out.st.read hy
  subst eos
  obtain ⟨sb', so', eos', u0, -⟩ := h.st.read hy
  cases eos'
  have BT := hide fun u => qbtid y.e 0 255 e0 e1 u
  rw [Ep.own_tid] at BT
  unfold ask
  generalize y.e = ye at *
  obtain ⟨eb, eo, eoe, c0, c1, c2, c3, c4, c5, c6, c7⟩ := h.ev.read hx
  subst eoe
  simp only at *
  have hebl : eb < w.heap.size := World.block_lt_of_cell? w _ c0
  have hsbl : sb < w.heap.size := World.block_lt_of_cell? w _ u0
  clear b1 b2 b3 h1 h2 h3 L2 s2 hx hy hle hls hld h
  by_cases k13 : xk = 13
  · rw [if_pos k13]
    subst k13
    unfold rv fdR zr
    simp only [Option.getD_none]
    go_enter Try.func18, Try.ntmps18
    go_wp2_with fail
    exact bodyPost_ret (results_row2 Try.results18 _ _ _ _ _ rfl rfl (loadVar_r H2.out rfl)) rfl ⟨rfl, BB.out⟩
  · rw [if_neg k13]
    have k13' : (xk == 13) = false := beq_eq_false_iff_ne.2 k13
    generalize ownB ye = q at BT ⊢
    cases q
    · rw [if_neg (by decide)]
      unfold rv fdR zr
      simp only [Option.getD_none]
      go_enter Try.func18, Try.ntmps18
      go_wp2_with fail
      generalize ((w.alloc (.cells #[.slice (some ⟨eb, eo, none⟩) le ce, .slice (some ⟨sb, so, none⟩) ls cs, .slice od ld cd] 26)).alloc (.cells #[.int .i64 0, .int .i64 0, .int .i64 0, .bool false, .int .i64 0, .int .i64 0] 45)).alloc (.cells #[.int .i64 xk, .int .i64 xg, .int .i64 xc, .int .i64 xa, .int .i64 xv, .int .i64 xm, .bool xs, .bool xo] 50) = W at *
      refine (BT.out _).mono ?_
      rintro r w1 ⟨rfl, e2⟩
      obtain rfl := e2.symm
      have z0 : W.cell? ⟨w.heap.size + 1, 0, none⟩ = some (.int .i64 0) := cell_of H2.out 0
      have z1 : W.cell? ⟨w.heap.size + 1, 1, none⟩ = some (.int .i64 0) := cell_of H2.out 1
      have z2 : W.cell? ⟨w.heap.size + 1, 2, none⟩ = some (.int .i64 0) := cell_of H2.out 2
      have z3 : W.cell? ⟨w.heap.size + 1, 3, none⟩ = some (.bool false) := cell_of H2.out 3
      have z4 : W.cell? ⟨w.heap.size + 1, 4, none⟩ = some (.int .i64 0) := cell_of H2.out 4
      have z5 : W.cell? ⟨w.heap.size + 1, 5, none⟩ = some (.int .i64 0) := cell_of H2.out 5
      have y0 := frozen_of H2.out 0
      have y1 := frozen_of H2.out 1
      have y2 := frozen_of H2.out 2
      have y3 := frozen_of H2.out 3
      have y4 := frozen_of H2.out 4
      have y5 := frozen_of H2.out 5
      go_wp2_with fail
      exact bodyPost_ret (results_row2 Try.results18 _ _ _ _ _ rfl rfl (loadVar_r (six_set H2.out _ _ _ _ _ _) rfl)) rfl ⟨rfl, below_six BB.out (by omega) _ _ _ _ _ _⟩
    · rw [if_pos rfl]
      generalize fd rs xg = O at RCA ⊢
      unfold rv at RCA ⊢
      generalize (O.isSome) = oks at RCA ⊢
      generalize fdR O = X at RCA ⊢
      obtain ⟨Xg, Xt, Xf, Xb, Xl, Xc⟩ := X
      simp only at RCA ⊢
      go_enter Try.func18, Try.ntmps18
      go_wp2_with fail
      generalize ((w.alloc (.cells #[.slice (some ⟨eb, eo, none⟩) le ce, .slice (some ⟨sb, so, none⟩) ls cs, .slice od ld cd] 26)).alloc (.cells #[.int .i64 0, .int .i64 0, .int .i64 0, .bool false, .int .i64 0, .int .i64 0] 45)).alloc (.cells #[.int .i64 xk, .int .i64 xg, .int .i64 xc, .int .i64 xa, .int .i64 xv, .int .i64 xm, .bool xs, .bool xo] 50) = W at *
      refine (BT.out _).mono ?_
      rintro r w1 ⟨rfl, e2⟩
      obtain rfl := e2.symm
      have x0 : W.cell? ⟨w.heap.size, 0, none⟩ = some (.slice (some ⟨eb, eo, none⟩) le ce) := cell_of H1.out 0
      have x1 : W.cell? ⟨w.heap.size, 1, none⟩ = some (.slice (some ⟨sb, so, none⟩) ls cs) := cell_of H1.out 1
      have x2 : W.cell? ⟨w.heap.size, 2, none⟩ = some (.slice od ld cd) := cell_of H1.out 2
      have v1 : W.cell? ⟨w.heap.size + 2, 1, none⟩ = some (.int .i64 xg) := cell_of H3.out 1
      go_wp2_with fail
      refine (RCA.out _ _ _ LL.out.rc).mono ?_
      rintro r w2 ⟨rfl, bb⟩
      have B2 := hide (btr BB.out bb)
      have Z2 := hide (heap_below H2.out bb)
      have z0 : w2.cell? ⟨w.heap.size + 1, 0, none⟩ = some (.int .i64 0) := cell_of Z2.out 0
      have z1 : w2.cell? ⟨w.heap.size + 1, 1, none⟩ = some (.int .i64 0) := cell_of Z2.out 1
      have z2 : w2.cell? ⟨w.heap.size + 1, 2, none⟩ = some (.int .i64 0) := cell_of Z2.out 2
      have z3 : w2.cell? ⟨w.heap.size + 1, 3, none⟩ = some (.bool false) := cell_of Z2.out 3
      have z4 : w2.cell? ⟨w.heap.size + 1, 4, none⟩ = some (.int .i64 0) := cell_of Z2.out 4
      have z5 : w2.cell? ⟨w.heap.size + 1, 5, none⟩ = some (.int .i64 0) := cell_of Z2.out 5
      have y0 := frozen_of Z2.out 0
      have y1 := frozen_of Z2.out 1
      have y2 := frozen_of Z2.out 2
      have y3 := frozen_of Z2.out 3
      have y4 := frozen_of Z2.out 4
      have y5 := frozen_of Z2.out 5
      clear bb
      go_wp2_with fail
      exact bodyPost_ret (results_row2 Try.results18 _ _ _ _ _ rfl rfl (loadVar_r (six_set Z2.out _ _ _ _ _ _) rfl)) rfl ⟨rfl, below_six B2.out (by omega) _ _ _ _ _ _⟩
end Qu
end Go.Proofs.Ytgfnafipfbajcaa
