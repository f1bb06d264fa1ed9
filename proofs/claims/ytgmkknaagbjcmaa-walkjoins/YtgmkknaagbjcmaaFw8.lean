/- Layer 27 (walk), over this seat's program: Area, Box, Index, Twice; the laws' own large(), places(). -/
import Derived.Test.YtgmkknaagbjcmaaFw7
namespace Go.Proofs.Ytgmkknaagbjcmaa
open Go.ChangeShapes Go.WideShapes Go.ChangeAt Go.RowKit
namespace Fw
open Ba Fl

/-- the places are not far -/
def Bd (n : Nat) (f : Nat → Int × Int) : Prop := ∀ i, i < n → (-10000 ≤ (f i).1 ∧ (f i).1 ≤ 10000) ∧ (-10000 ≤ (f i).2 ∧ (f i).2 ≤ 10000)
/-- what a step adds to twice the area -/
def cr (n : Nat) (f : Nat → Int × Int) (i : Nat) : Int := (f i).1 * (f ((i + 1) % n)).2 - (f i).2 * (f ((i + 1) % n)).1
def sm (h : Nat → Int) : Nat → Int
  | 0 => 0
  | k + 1 => sm h k + h k
theorem mulb {x y : Int} (hx : -10000 ≤ x ∧ x ≤ 10000) (hy : -10000 ≤ y ∧ y ≤ 10000) : -100000000 ≤ x * y ∧ x * y ≤ 100000000 := by
  have : (x * y).natAbs ≤ 10000 * 10000 := by rw [Int.natAbs_mul]; exact Nat.mul_le_mul (by omega) (by omega)
  omega
theorem cr_bd {n : Nat} {f : Nat → Int × Int} (h : Bd n f) {i : Nat} (hi : i < n) : -200000000 ≤ cr n f i ∧ cr n f i ≤ 200000000 := by
  have hm : (i + 1) % n < n := Nat.mod_lt _ (by omega)
  have a := mulb (h i hi).1 (h _ hm).2
  have b := mulb (h i hi).2 (h _ hm).1
  unfold cr; omega
theorem sm_bd {n : Nat} {f : Nat → Int × Int} (h : Bd n f) : ∀ k : Nat, k ≤ n → -(200000000 * (k : Int)) ≤ sm (cr n f) k ∧ sm (cr n f) k ≤ 200000000 * (k : Int)
  | 0, _ => by simp [sm]
  | k + 1, hk => by have := sm_bd h k (by omega); have := cr_bd h (i := k) (by omega); simp only [sm]; omega
theorem sm_congr {g h : Nat → Int} : ∀ {k : Nat}, (∀ i, i < k → g i = h i) → sm g k = sm h k
  | 0, _ => rfl
  | k + 1, e => by simp only [sm]; rw [sm_congr fun i hi => e i (by omega), e k (by omega)]
theorem conj_any (a b : Nat) (w : World) :
    Calls Try.prog 25 #[.complex .f64 a b] w fun r w' => r = .returned (.complex .f64 a (Op.negFloat .f64 b)) ∧ w' = w := by
  have NG : ∀ u, (Op.unary .neg (.float .f64 b)).run Try.prog u = .ok (.float .f64 (Op.negFloat .f64 b)) u := fun _ => rfl
  go_enter Try.func25, Try.ntmps25
  go_wp2_with fail
  go_ret
  exact ⟨rfl, rfl⟩
/-- what Area hands back -/
def ArR (w : World) (n : Nat) (f : Nat → Int × Int) (r : Ending) (w' : World) : Prop := ∃ a, r = .returned (.float .f64 a) ∧ Hf a (sm (cr n f) n) ∧ w' = w
theorem mod_next (k n : Nat) : ((k : Int) + 1).tmod (n : Int) = (((k + 1) % n : Nat) : Int) := by
  rw [Int.tmod_eq_emod_of_nonneg (by omega)]
  rfl
set_option maxRecDepth 100000 in
set_option maxHeartbeats 3200000 in
theorem area_any (oa : Option Addr) (n c : Nat) (f : Nat → Int × Int) (w : World) (hA : ZAt w oa n f) (hb : Bd n f) (hn : n ≤ 500) :
    Calls Try.prog 19 #[.slice oa n c] w fun r w' => ArR w n f r w' := by
  have HA := hide hA
  have HB := hide hb
  clear hA hb
  go_enter Try.func19, Try.ntmps19
  go_wp2_with fail
  go_loopw [3, 9] (fun s i wr => ∃ (k a : Nat), k ≤ n ∧ i = .int .i64 (k : Int) ∧ s = .float .f64 a ∧ Hi a (sm (cr n f) k) ∧ wr = w) (fun _ i _ => n - (intOf i).toNat)
  case atStart => exact ⟨0, 0, Nat.zero_le _, rfl, rfl, Hi.zero, rfl⟩
  case round =>
    obtain ⟨k, a, hk, rfl, rfl, ha, rfl⟩ := hrel
    by_cases hlt : k < n
    · have hlt' : (k : Int) < (n : Int) := by omega
      have mn := mod_next k n
      have hm : (k + 1) % n < n := Nat.mod_lt _ (by omega)
      have CR : Hid (sm (cr n f) (k + 1) = sm (cr n f) k + ((f k).1 * (f ((k + 1) % n)).2 - (f k).2 * (f ((k + 1) % n)).1)) := rfl
      have SB := sm_bd HB.out k hk
      have CB := cr_bd HB.out hlt
      unfold cr at CB
      obtain ⟨m, hme⟩ : ∃ m, (k + 1) % n = m := ⟨_, rfl⟩
      rw [hme] at mn hm CR CB
      have hm' : (m : Int) < (n : Int) := by omega
      have wm : IntKind.i64.wrap (m : Int) = (m : Int) := wrap_id (by omega) (by omega)
      clear hme
      obtain ⟨b1, o1, p, q, rfl, c1, h1, h2⟩ := HA.out k hlt
      obtain ⟨b2, o2, u, v, e, c2, h3, h4⟩ := HA.out m hm
      cases e
      have Bk := HB.out k hlt
      have Bm := HB.out m hm
      obtain ⟨re, im, M1, -, M3⟩ := cmul h1 h2.neg h3 h4 (by omega) (by omega) (by omega) (by omega)
      rw [show (f k).1 * (f m).2 + -(f k).2 * (f m).1 = (f k).1 * (f m).2 - (f k).2 * (f m).1 from by rw [Int.neg_mul]; omega] at M3
      obtain ⟨s', A1, A2⟩ := ha.add M3 (by omega)
      have MUL : ∀ z, (binOp .mul 28 (.complex .f64 p (Op.negFloat .f64 q)) (.complex .f64 u v)).run Try.prog z = .ok (.complex .f64 re im) z := fun z => run_complex_mul z _ _ _ _ _ _ _ M1
      have ADD : ∀ z, (binOp .add 48 (.float .f64 a) (.float .f64 im)).run Try.prog z = .ok (.float .f64 s') z := fun z => run_float_arith z .add _ _ _ _ _ A1
      have FIN : Hid (Hi s' (sm (cr n f) (k + 1))) := by show Hi _ _; rw [CR.out]; exact A2
      clear M1 M3 A1 A2 h1 h2 h3 h4 Bk Bm SB CB ha CR
      go_wp2_with fail
      refine (conj_any p q _).mono ?_
      rintro r w1 ⟨rfl, e1⟩
      obtain rfl := e1.symm
      go_wp2_with fail
      go_roundw
      case rel => exact ⟨k + 1, s', by omega, by go_num, rfl, FIN.out, by first | rfl | trivial⟩
      case measure => simp [intOf]; omega
    · have hlt' : ¬ ((k : Int) < (n : Int)) := by omega
      obtain rfl : k = n := by omega
      have SB := sm_bd HB.out k (Nat.le_refl _)
      obtain ⟨r, D1, D2⟩ := Hf.half ha (by omega)
      have QUO : ∀ z, (binOp .quo 48 (.float .f64 a) (.float .f64 4611686018427387904)).run Try.prog z = .ok (.float .f64 r) z := fun z => run_float_arith z .quo _ _ _ _ _ D1
      have HD := hide D2
      clear D1 D2 ha SB
      go_wp2_with fail
      go_ret
      exact ⟨r, rfl, HD.out, rfl⟩
/-- the least and the greatest of the first places -/
def lo (g : Nat → Int) : Nat → Int
  | 0 => g 0
  | k + 1 => min (lo g k) (g k)
def hi (g : Nat → Int) : Nat → Int
  | 0 => g 0
  | k + 1 => max (hi g k) (g k)
theorem box_none (c : Nat) (oa : Option Addr) (w : World) :
    Calls Try.prog 17 #[.slice oa 0 c] w fun r w' => r = .returned (.tuple #[.complex .f64 0 0, .complex .f64 0 0, .bool false]) ∧ w' = w := by
  go_enter Try.func17, Try.ntmps17
  go_wp2_with fail
  go_ret3
  exact ⟨rfl, rfl⟩
def BxR (w : World) (n : Nat) (f : Nat → Int × Int) (r : Ending) (w' : World) : Prop := ∃ a b a' b', r = .returned (.tuple #[.complex .f64 a b, .complex .f64 a' b', .bool true]) ∧ Hi a (lo (fun i => (f i).1) n) ∧ Hi b (lo (fun i => (f i).2) n) ∧ Hi a' (hi (fun i => (f i).1) n) ∧ Hi b' (hi (fun i => (f i).2) n) ∧ ∃ q, w' = w.drewN q
set_option maxRecDepth 100000 in
set_option maxHeartbeats 3200000 in
theorem box_any (oa : Option Addr) (n c : Nat) (f : Nat → Int × Int) (w : World) (hA : ZAt w oa n f) (h0 : 0 < n) (hn : n ≤ 500) :
    Calls Try.prog 17 #[.slice oa n c] w fun r w' => BxR w n f r w' := by
  have HA := hide hA
  clear hA
  obtain ⟨b1, o1, p, q, rfl, c1, h1, h2⟩ := HA.out 0 h0
  have d0 : ((n : Int) == 0) = false := by simp; omega
  have d1 : (n == 0) = false := by simp; omega
  have d2 : (0 : Int) < (n : Int) := by omega
  rw [Nat.add_zero] at c1
  have H1 := hide h1
  have H2 := hide h2
  clear h1 h2
  go_enter Try.func17, Try.ntmps17
  go_wp2_with fail
  go_quiet (fail)
  go_wp2_with fail
  go_loopw [5, 6, 20] (fun s5 s6 i wr => ∃ (k a b a' b' : Nat), k ≤ n ∧ i = .int .i64 (k : Int) ∧ s5 = .complex .f64 a b ∧ s6 = .complex .f64 a' b' ∧ Hi a (lo (fun i => (f i).1) k) ∧ Hi b (lo (fun i => (f i).2) k) ∧ Hi a' (hi (fun i => (f i).1) k) ∧ Hi b' (hi (fun i => (f i).2) k) ∧ ∃ q, wr = w.drewN q) (fun _ _ i _ => n - (intOf i).toNat)
  case atStart => exact ⟨0, p, q, p, q, Nat.zero_le _, rfl, rfl, rfl, H1.out, H2.out, H1.out, H2.out, _, rfl⟩
  case round =>
    obtain ⟨k, a, b, a', b', hk, rfl, rfl, rfl, ha, hb, ha', hb', z, rfl⟩ := hrel
    by_cases hlt : k < n
    · have hlt' : (k : Int) < (n : Int) := by omega
      obtain ⟨b2, o2, u, v, e, c2, h3, h4⟩ := HA.out k hlt
      cases e
      obtain ⟨m1, M1, N1⟩ := run_min_f #[48, 48] 48 ha h3
      obtain ⟨m2, M2, N2⟩ := run_min_f #[48, 48] 48 hb h4
      obtain ⟨m3, M3, N3⟩ := run_max_f #[48, 48] 48 ha' h3
      obtain ⟨m4, M4, N4⟩ := run_max_f #[48, 48] 48 hb' h4
      have F1 := hide (And.intro N1 (And.intro N2 (And.intro N3 N4)))
      clear N1 N2 N3 N4 ha hb ha' hb' h3 h4 c1
      go_wp2_with fail
      go_roundw
      case rel => exact ⟨k + 1, m1, m2, m3, m4, by omega, by go_num, rfl, rfl, F1.out.1, F1.out.2.1, F1.out.2.2.1, F1.out.2.2.2, _, rfl⟩
      case measure => simp [intOf]; omega
    · have hlt' : ¬ ((k : Int) < (n : Int)) := by omega
      obtain rfl : k = n := by omega
      have F1 := hide (And.intro ha (And.intro hb (And.intro ha' hb')))
      clear ha hb ha' hb'
      go_wp2_with fail
      go_ret3
      exact ⟨a, b, a', b', rfl, F1.out.1, F1.out.2.1, F1.out.2.2.1, F1.out.2.2.2, _, rfl⟩
end Fw
end Go.Proofs.Ytgmkknaagbjcmaa
