/- Layer 27 (walk), over this seat's program: follow. -/
import Derived.Test.YtgmkknaagbjcmaaFw1
import Derived.Deep.DeepCutAuto
namespace Go.Proofs.Ytgmkknaagbjcmaa
open Go.ChangeShapes Go.WideShapes Go.ChangeAt Go.RowKit
namespace Fw
open Ba Fl

def skip (e : Ev) : Bool := decide (e.k = 13) || decide (e.g < 0) || decide (512 ≤ e.g)
def ft (t : Int) (e : Ev) : Int := if skip e = true then t else (t + e.k % 4) % 4
def fx (x t : Int) (e : Ev) : Int := if skip e = true then x else x + dx (ft t e) * (1 + e.g % 4)
def fy (y t : Int) (e : Ev) : Int := if skip e = true then y else y + dy (ft t e) * (1 + e.g % 4)
theorem dx_bd (t : Int) : -1 ≤ dx t ∧ dx t ≤ 1 := by unfold dx; split <;> (try split) <;> (try split) <;> omega
theorem dy_bd (t : Int) : -1 ≤ dy t ∧ dy t ≤ 1 := by unfold dy; split <;> (try split) <;> (try split) <;> omega
theorem dmul (d s : Int) (h : -1 ≤ d ∧ d ≤ 1) (hs : 1 ≤ s ∧ s ≤ 4) : -4 ≤ d * s ∧ d * s ≤ 4 := by
  rcases (by omega : d = -1 ∨ d = 0 ∨ d = 1) with rfl | rfl | rfl <;> omega
theorem ft_bd {t : Int} (e : Ev) (h : 0 ≤ t ∧ t < 4) : 0 ≤ ft t e ∧ ft t e < 4 := by unfold ft; split <;> omega
theorem fx_bd (x t : Int) (e : Ev) : x - 4 ≤ fx x t e ∧ fx x t e ≤ x + 4 := by
  unfold fx; split
  · omega
  · have := dmul (dx (ft t e)) (1 + e.g % 4) (dx_bd _) (by omega); omega
theorem fy_bd (y t : Int) (e : Ev) : y - 4 ≤ fy y t e ∧ fy y t e ≤ y + 4 := by
  unfold fy; split
  · omega
  · have := dmul (dy (ft t e)) (1 + e.g % 4) (dy_bd _) (by omega); omega
theorem keepW {u u' : World} {P a b : Nat} {t : Int} (h : WA u P a b t) (hb : Below u.heap.size u u') : WA u' P a b t := heap_below h hb
theorem WA.set1 {w : World} {P a b : Nat} {t : Int} (h : WA w P a b t) (t' : Int) : WA (w.setCell ⟨P, 1, none⟩ (.int .i64 t')) P a b t' := Ba.heap_setCell_same h _
theorem WA.set0 {w : World} {P a b : Nat} {t : Int} (h : WA w P a b t) (a' b' : Nat) : WA (w.setCell ⟨P, 0, none⟩ (.complex .f64 a' b')) P a' b' t := Ba.heap_setCell_same h _
/-- behind follow -/
def FoR (w : World) (P : Nat) (x y t : Int) (e : Ev) (w' : World) : Prop := ∃ a' b', WA w' P a' b' (ft t e) ∧ Hi a' (fx x t e) ∧ Hi b' (fy y t e) ∧ KB P w w'
set_option maxHeartbeats 1600000 in
theorem follow_skip (P a b : Nat) (x y t : Int) (e : Ev) (w : World) (h : WA w P a b t) (ha : Hi a x) (hb : Hi b y) (hs : skip e = true) :
    Calls Try.prog 21 #[.pointer (some ⟨P, 0, none⟩), evv e] w fun r w' => r = .returned (.tuple #[]) ∧ FoR w P x y t e w' := by
  have FIN : Hid (FoR w P x y t e (w.alloc (.cells (evc e) 54))) := ⟨a, b, by unfold ft; rw [if_pos hs]; exact keepW h (below_alloc _ _), by unfold fx; rw [if_pos hs]; exact ha, by unfold fy; rw [if_pos hs]; exact hb, KB.of (below_alloc _ _)⟩
  unfold evv evc at *
  obtain ⟨k, g, c, a0, v, m, s, o⟩ := e
  unfold skip at hs
  simp only at hs FIN ⊢
  have key : ∀ p q r : Bool, (k == 13) = p → decide (g < 0) = q → decide (512 ≤ g) = r → (p || q || r) = true → Calls Try.prog 21 #[.pointer (some ⟨P, 0, none⟩), .agg #[.int .i64 k, .int .i64 g, .int .i64 c, .int .i64 a0, .int .i64 v, .int .i64 m, .bool s, .bool o]] w fun r w' => r = .returned (.tuple #[]) ∧ FoR w P x y t ⟨k, g, c, a0, v, m, s, o⟩ w' := by
    intro p q r hp hq hr hpq
    cases p
    · cases q
      · cases r
        · cases hpq
        · go_enter Try.func21, Try.ntmps21
          go_wp2_with fail
          exact bodyPost_ret (results_none rfl _ _ _) rfl ⟨rfl, FIN.out⟩
      · go_enter Try.func21, Try.ntmps21
        go_wp2_with fail
        exact bodyPost_ret (results_none rfl _ _ _) rfl ⟨rfl, FIN.out⟩
    · go_enter Try.func21, Try.ntmps21
      go_wp2_with fail
      exact bodyPost_ret (results_none rfl _ _ _) rfl ⟨rfl, FIN.out⟩
  refine key _ _ _ rfl rfl rfl ?_
  simpa using hs
set_option maxHeartbeats 3200000 in
theorem follow_go (P a b : Nat) (x y t : Int) (e : Ev) (w : World) (h : WA w P a b t) (ha : Hi a x) (hb : Hi b y) (hs : skip e = false) (ht : 0 ≤ t ∧ t < 4) (hx : x.natAbs ≤ 10000) (hy : y.natAbs ≤ 10000) :
    Calls Try.prog 21 #[.pointer (some ⟨P, 0, none⟩), evv e] w fun r w' => r = .returned (.tuple #[]) ∧ FoR w P x y t e w' := by
  have hs' : ¬ skip e = true := by rw [hs]; simp
  have FT : Hid (ft t e = (t + e.k % 4) % 4) := by show _ = _; unfold ft; rw [if_neg hs']
  have FX : Hid (fx x t e = x + dx ((t + e.k % 4) % 4) * (1 + e.g % 4)) := by show _ = _; unfold fx; rw [if_neg hs', FT.out]
  have FY : Hid (fy y t e = y + dy ((t + e.k % 4) % 4) * (1 + e.g % 4)) := by show _ = _; unfold fy; rw [if_neg hs', FT.out]
  obtain ⟨k, g, c, a0, v, m, s, o⟩ := e
  unfold evv evc
  unfold skip at hs
  simp only at hs FT FX FY ⊢
  simp only [Bool.or_eq_false_iff, decide_eq_false_iff_not] at hs
  obtain ⟨⟨h13, hg0⟩, hg5⟩ := hs
  have d1 : (k == 13) = false := by simp [h13]
  have d2 : decide (g < 0) = false := by simp; omega
  have d3 : decide (512 ≤ g) = false := by simp; omega
  obtain ⟨q, hq⟩ : ∃ q, g.tmod 4 = q := ⟨_, rfl⟩
  have hq2 : g % 4 = q := by rw [← hq, Int.tmod_eq_emod_of_nonneg (by omega)]
  rw [hq2] at FX FY
  have hqb : 0 ≤ q ∧ q < 4 := by omega
  have wq : IntKind.i64.wrap q = q := wrap_id (by omega) (by omega)
  have wq1 : IntKind.i64.wrap (1 + q) = 1 + q := wrap_id (by omega) (by omega)
  clear hq2
  obtain ⟨j, hj⟩ : ∃ j, k % 4 = j := ⟨_, rfl⟩
  have RK := hide (fun u => rest_any k u)
  rw [hj] at RK FT FX FY
  have hjb : 0 ≤ j ∧ j < 4 := by omega
  have wj : IntKind.i64.wrap (t + j) = t + j := wrap_id (by omega) (by omega)
  have RT := hide (fun u => rest_any (t + j) u)
  obtain ⟨t', ht'⟩ : ∃ t', (t + j) % 4 = t' := ⟨_, rfl⟩
  rw [ht'] at RT FT FX FY
  have htb : 0 ≤ t' ∧ t' < 4 := by omega
  have e4 : t' % 4 = t' := by omega
  -- the numbers
  have D1 := tw_hi t'
  have SF := Hi.ofInt (n := 1 + q) (by omega)
  have := dx_bd t'
  have := dy_bd t'
  obtain ⟨re, im, M1, M2, M3⟩ := cmul D1.1 D1.2 SF Hi.zero (by omega) (by omega) (by omega) (by decide)
  rw [show dx t' * (1 + q) - dy t' * 0 = dx t' * (1 + q) from by omega] at M2
  rw [show dx t' * 0 + dy t' * (1 + q) = dy t' * (1 + q) from by omega] at M3
  have b1 := dmul (dx t') (1 + q) (dx_bd _) (by omega)
  have b2 := dmul (dy t') (1 + q) (dy_bd _) (by omega)
  obtain ⟨a', b', A1, A2, A3⟩ := cadd ha hb M2 M3 (by omega) (by omega)
  have MUL : ∀ u, (binOp .mul 28 (.complex .f64 (tw t').1 (tw t').2) (.complex .f64 (floatOfInt .f64 (1 + q)) 0)).run Try.prog u = .ok (.complex .f64 re im) u := fun u => run_complex_mul u _ _ _ _ _ _ _ M1
  have ADD : ∀ u, (binOp .add 28 (.complex .f64 a b) (.complex .f64 re im)).run Try.prog u = .ok (.complex .f64 a' b') u := fun u => run_complex_sum u .add (.inl rfl) _ _ _ _ _ _ _ _ A1
  have DI := hide (fun (u : World) (hu : WA u P a b t') => dir_any P a b t' u hu)
  rw [e4] at DI
  have HX := hide (show Hi a' (fx x t ⟨k, g, c, a0, v, m, s, o⟩) by rw [FX.out]; exact A2)
  have HY := hide (show Hi b' (fy y t ⟨k, g, c, a0, v, m, s, o⟩) by rw [FY.out]; exact A3)
  have W0 := hide (keepW h (below_alloc w (.cells #[.int .i64 k, .int .i64 g, .int .i64 c, .int .i64 a0, .int .i64 v, .int .i64 m, .bool s, .bool o] 54)))
  have NP : P ≠ w.heap.size := by have := heap_lt h; omega
  have NP' : P < w.heap.size := heap_lt h
  have EV0 := hide (heap_new w (.cells #[.int .i64 k, .int .i64 g, .int .i64 c, .int .i64 a0, .int .i64 v, .int .i64 m, .bool s, .bool o] 54))
  have KB0 := hide (KB.of (R := P) (below_alloc w (.cells #[.int .i64 k, .int .i64 g, .int .i64 c, .int .i64 a0, .int .i64 v, .int .i64 m, .bool s, .bool o] 54)))
  generalize (tw t').1 = d1w at *
  generalize (tw t').2 = d2w at *
  clear M1 M2 M3 A1 A2 A3 b1 b2 D1 SF h FX FY e4 ht' hj
  go_enter Try.func21, Try.ntmps21
  go_upto_region 2 with fail
  go_cut [] (fun wc => WA wc P a b t' ∧ wc.heap[w.heap.size]? = some (.cells #[.int .i64 k, .int .i64 g, .int .i64 c, .int .i64 a0, .int .i64 v, .int .i64 m, .bool s, .bool o] 54) ∧ KB P w wc)
  case first =>
    generalize w.alloc (.cells #[.int .i64 k, .int .i64 g, .int .i64 c, .int .i64 a0, .int .i64 v, .int .i64 m, .bool s, .bool o] 54) = W1 at *
    have p0 : W1.drew.cell? ⟨P, 0, none⟩ = some (.complex .f64 a b) := cell_of W0.out 0
    have p1 : W1.drew.cell? ⟨P, 1, none⟩ = some (.int .i64 t) := cell_of W0.out 1
    have z1 : W1.drew.frozen? ⟨P, 1, none⟩ = false := frozen_of W0.out 1
    have q0 : W1.drew.cell? ⟨w.heap.size, 0, none⟩ = some (.int .i64 k) := cell_of EV0.out 0
    have END : Hid (WA (W1.drew.setCell ⟨P, 1, none⟩ (.int .i64 t')) P a b t' ∧ (W1.drew.setCell ⟨P, 1, none⟩ (.int .i64 t')).heap[w.heap.size]? = some (.cells #[.int .i64 k, .int .i64 g, .int .i64 c, .int .i64 a0, .int .i64 v, .int .i64 m, .bool s, .bool o] 54) ∧ KB P w (W1.drew.setCell ⟨P, 1, none⟩ (.int .i64 t'))) := by
      refine ⟨WA.set1 (keepW W0.out (bdrew1 _)) t', ?_, (KB0.out.trans (KB.of (bdrew1 _))).setCell 1 _⟩
      exact ((KB.refl P W1.drew).setCell 1 _).heap (show W1.drew.heap[w.heap.size]? = _ from EV0.out) (Ne.symm NP)
    go_region_with (first
      | (go_at_call 23; refine (RK.out _).mono ?_; rintro r u ⟨rfl, rfl⟩)
      | (go_at_call 23; refine (RT.out _).mono ?_; rintro r u ⟨rfl, rfl⟩))
    all_goals
      go_wp2_with fail
      go_meet
      case rel => exact END.out
  case rest =>
    obtain ⟨w2, e2, k2⟩ := hcut
    have W2 := hide w2
    have E2 := hide e2
    have K2 := hide k2
    have r1 : wc.cell? ⟨w.heap.size, 1, none⟩ = some (.int .i64 g) := cell_of e2 1
    have p0 : wc.cell? ⟨P, 0, none⟩ = some (.complex .f64 a b) := cell_of w2 0
    have z0 : wc.frozen? ⟨P, 0, none⟩ = false := frozen_of w2 0
    have p0' : wc.drew.cell? ⟨P, 0, none⟩ = some (.complex .f64 a b) := p0
    have z0' : wc.drew.frozen? ⟨P, 0, none⟩ = false := z0
    have END : Hid (FoR w P x y t ⟨k, g, c, a0, v, m, s, o⟩ (wc.drew.setCell ⟨P, 0, none⟩ (.complex .f64 a' b'))) :=
      ⟨a', b', by rw [FT.out]; exact WA.set0 (keepW W2.out (bdrew1 _)) a' b', HX.out, HY.out, (K2.out.trans (KB.of (bdrew1 _))).setCell 0 _⟩
    have STO : (store ⟨P, 0, none⟩ (.complex .f64 a' b')).run Try.prog wc.drew = .ok () (wc.drew.setCell ⟨P, 0, none⟩ (.complex .f64 a' b')) := by rw [run_store _ _ _ _ _ rfl, p0', z0']; rfl
    clear w2 e2 k2
    go_wp2_with fail
    go_region_with (first
      | (go_at_call 22; refine (DI.out _ (keepW W2.out (bdrew1 _))).mono ?_; rintro r u ⟨rfl, rfl⟩))
    all_goals
      go_wp2_with fail
      exact bodyPost_end (results_none rfl _ _ _) rfl ⟨rfl, END.out⟩
theorem follow_any (P a b : Nat) (x y t : Int) (e : Ev) (w : World) (h : WA w P a b t) (ha : Hi a x) (hb : Hi b y) (ht : 0 ≤ t ∧ t < 4) (hx : x.natAbs ≤ 10000) (hy : y.natAbs ≤ 10000) :
    Calls Try.prog 21 #[.pointer (some ⟨P, 0, none⟩), evv e] w fun r w' => r = .returned (.tuple #[]) ∧ FoR w P x y t e w' := by
  cases hs : skip e
  · exact follow_go P a b x y t e w h ha hb hs ht hx hy
  · exact follow_skip P a b x y t e w h ha hb hs
end Fw
end Go.Proofs.Ytgmkknaagbjcmaa
