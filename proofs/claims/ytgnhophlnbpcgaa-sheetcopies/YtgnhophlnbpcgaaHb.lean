/- Package sheet: Check, over this seat's program. -/
import Derived.Test.YtgnhophlnbpcgaaHa
namespace Go.Proofs.Ytgnhophlnbpcgaa
open Go.ChangeShapes Go.WideShapes Go.ChangeAt Go.RowKit
namespace Sh
open De Ba Re

/-- a script -/
structure Sc where
  T : Int
  M : Int
  ps : List (List OpD)
  pl : List Int
  dr : List Int
/-- which scripts are right -/
def schk (s : Sc) : Int :=
  bif !((decide (1 ≤ s.T) && decide (s.T ≤ 256)) && (decide (1 ≤ s.M) && decide (s.M ≤ 1048576))) then 1
  else bif isl s.ps s.pl.length s.dr.length then 2
  else bif !(!decide (s.ps.length = 0) && ari s.ps.length s.ps) then 4
  else bif !(ab (-1) 1000 s.pl && ab 0 1000 s.dr) then 4 else 0
/-- a script lies in memory -/
structure SAt (w : World) (s : Sc) (pa la da : Option Addr) : Prop where
  ps : PAt w pa s.ps
  pl : At w la s.pl
  dr : At w da s.dr
  h1 : s.ps.length ≤ maxLen
  h2 : s.pl.length ≤ maxLen
  h3 : s.dr.length ≤ maxLen
theorem SAt.below {w w' : World} {s : Sc} {pa la da : Option Addr} (h : SAt w s pa la da) (hb : Below w.heap.size w w') : SAt w' s pa la da :=
  ⟨h.ps.below hb, h.pl.below hb, h.dr.below hb, h.h1, h.h2, h.h3⟩

set_option maxRecDepth 100000 in
set_option maxHeartbeats 3200000 in
theorem scheck_any (T M : Int) (ps : List (List OpD)) (pl dr : List Int) (pa la da : Option Addr) (pc lc dc : Nat) (w : World) (hS : SAt w ⟨T, M, ps, pl, dr⟩ pa la da) :
    Calls Try.prog 17 #[.agg #[.int .i64 T, .int .i64 M, .slice pa ps.length pc, .slice la pl.length lc, .slice da dr.length dc]] w fun r w' => r = .returned (.int .i64 (schk ⟨T, M, ps, pl, dr⟩)) ∧ Below w.heap.size w w' := by
  have S0 := hide (hS.below (below_alloc w (.cells #[.int .i64 T, .int .i64 M, .slice pa ps.length pc, .slice la pl.length lc, .slice da dr.length dc] 38)))
  have B0 := hide (below_alloc w (.cells #[.int .i64 T, .int .i64 M, .slice pa ps.length pc, .slice la pl.length lc, .slice da dr.length dc] 38))
  have H0 := hide (heap_new w (.cells #[.int .i64 T, .int .i64 M, .slice pa ps.length pc, .slice la pl.length lc, .slice da dr.length dc] 38))
  have h1 := hS.h1
  unfold maxLen at h1
  simp only at h1
  clear hS
  unfold schk
  simp only
  cases e1 : decide (1 ≤ T) && decide (T ≤ 256)
  · simp only [Bool.false_and, Bool.not_false, cond_true]
    go_enter Try.func17, Try.ntmps17
    go_wp2_with fail
    refine (between_any _ _ _ _).mono ?_
    rw [e1]
    rintro r w1 ⟨rfl, rfl⟩
    go_wp2_with fail
    go_ret
    exact ⟨rfl, B0.out⟩
  cases e2 : decide (1 ≤ M) && decide (M ≤ 1048576)
  · simp only [Bool.and_false, Bool.not_false, cond_true]
    go_enter Try.func17, Try.ntmps17
    go_wp2_with fail
    refine (between_any _ _ _ _).mono ?_
    rw [e1]
    rintro r w1 ⟨rfl, rfl⟩
    go_wp2_with fail
    refine (between_any _ _ _ _).mono ?_
    rw [e2]
    rintro r w1 ⟨rfl, rfl⟩
    go_wp2_with fail
    go_ret
    exact ⟨rfl, B0.out⟩
  simp only [Bool.and_self, Bool.not_true, cond_false]
  cases e3 : isl ps pl.length dr.length
  rotate_left
  · simp only [cond_true]
    go_enter Try.func17, Try.ntmps17
    go_wp2_with fail
    refine (between_any _ _ _ _).mono ?_
    rw [e1]
    rintro r w1 ⟨rfl, rfl⟩
    go_wp2_with fail
    refine (between_any _ _ _ _).mono ?_
    rw [e2]
    rintro r w1 ⟨rfl, rfl⟩
    go_wp2_with fail
    refine (isLong_any T M ps pl dr pa la da pc lc dc _ S0.out.ps S0.out.h1 S0.out.h2 S0.out.h3).mono ?_
    rw [e3]
    rintro r w3 ⟨rfl, b3⟩
    have B3 := hide (btr B0.out b3)
    clear b3
    go_wp2_with fail
    go_ret
    exact ⟨rfl, B3.out⟩
  simp only [cond_false]
  by_cases h0 : ps.length = 0
  · have e4 : ((ps.length : Int) == 0) = true := by rw [h0]; rfl
    have h0d : decide (ps.length = 0) = true := by simpa using h0
    simp only [h0d, Bool.not_true, Bool.false_and, Bool.not_false, cond_true]
    clear h0 h0d
    go_enter Try.func17, Try.ntmps17
    go_wp2_with fail
    refine (between_any _ _ _ _).mono ?_
    rw [e1]
    rintro r w1 ⟨rfl, rfl⟩
    go_wp2_with fail
    refine (between_any _ _ _ _).mono ?_
    rw [e2]
    rintro r w1 ⟨rfl, rfl⟩
    go_wp2_with fail
    refine (isLong_any T M ps pl dr pa la da pc lc dc _ S0.out.ps S0.out.h1 S0.out.h2 S0.out.h3).mono ?_
    rw [e3]
    rintro r w3 ⟨rfl, b3⟩
    have B3 := hide (btr B0.out b3)
    have H3 := hide (heap_below H0.out b3)
    obtain ⟨x0, x1, x2, x3, x4⟩ := sc_cells H3.out
    clear b3
    go_wp2_with fail
    go_ret
    exact ⟨rfl, B3.out⟩
  have e4 : ((ps.length : Int) == 0) = false := by rw [beq_eq_false_iff_ne]; omega
  have h0d : decide (ps.length = 0) = false := by simpa using h0
  simp only [h0d, Bool.not_false, Bool.true_and]
  clear h0 h0d
  cases e5 : ari ps.length ps
  · simp only [Bool.not_false, cond_true]
    go_enter Try.func17, Try.ntmps17
    go_wp2_with fail
    refine (between_any _ _ _ _).mono ?_
    rw [e1]
    rintro r w1 ⟨rfl, rfl⟩
    go_wp2_with fail
    refine (between_any _ _ _ _).mono ?_
    rw [e2]
    rintro r w1 ⟨rfl, rfl⟩
    go_wp2_with fail
    refine (isLong_any T M ps pl dr pa la da pc lc dc _ S0.out.ps S0.out.h1 S0.out.h2 S0.out.h3).mono ?_
    rw [e3]
    rintro r w3 ⟨rfl, b3⟩
    have B3 := hide (btr B0.out b3)
    have H3 := hide (heap_below H0.out b3)
    have S3 := hide (S0.out.below b3)
    obtain ⟨x0, x1, x2, x3, x4⟩ := sc_cells H3.out
    clear b3
    go_wp2_with fail
    refine (areRight_any ps pa pc _ S3.out.ps S3.out.h1).mono ?_
    rw [e5]
    rintro r w4 ⟨rfl, b4⟩
    have B4 := hide (btr B3.out b4)
    clear b4
    go_wp2_with fail
    go_ret
    exact ⟨rfl, B4.out⟩
  simp only [Bool.not_true, cond_false]
  cases e6 : ab (-1) 1000 pl
  · simp only [Bool.false_and, Bool.not_false, cond_true]
    go_enter Try.func17, Try.ntmps17
    go_wp2_with fail
    refine (between_any _ _ _ _).mono ?_
    rw [e1]
    rintro r w1 ⟨rfl, rfl⟩
    go_wp2_with fail
    refine (between_any _ _ _ _).mono ?_
    rw [e2]
    rintro r w1 ⟨rfl, rfl⟩
    go_wp2_with fail
    refine (isLong_any T M ps pl dr pa la da pc lc dc _ S0.out.ps S0.out.h1 S0.out.h2 S0.out.h3).mono ?_
    rw [e3]
    rintro r w3 ⟨rfl, b3⟩
    have B3 := hide (btr B0.out b3)
    have H3 := hide (heap_below H0.out b3)
    have S3 := hide (S0.out.below b3)
    obtain ⟨x0, x1, x2, x3, x4⟩ := sc_cells H3.out
    clear b3
    go_wp2_with fail
    refine (areRight_any ps pa pc _ S3.out.ps S3.out.h1).mono ?_
    rw [e5]
    rintro r w4 ⟨rfl, b4⟩
    have B4 := hide (btr B3.out b4)
    have H4 := hide (heap_below H3.out b4)
    have S4 := hide (S3.out.below b4)
    obtain ⟨y0, y1, y2, y3, y4⟩ := sc_cells H4.out
    clear b4
    go_wp2_with fail
    refine (all_any la pl lc _ _ _ S4.out.pl S4.out.h2).mono ?_
    rw [e6]
    rintro r w5 ⟨rfl, rfl⟩
    go_wp2_with fail
    go_ret
    exact ⟨rfl, B4.out⟩
  simp only [Bool.true_and]
  cases e7 : ab 0 1000 dr
  all_goals
    first | simp only [Bool.not_false, cond_true] | simp only [Bool.not_true, cond_false]
    go_enter Try.func17, Try.ntmps17
    go_wp2_with fail
    refine (between_any _ _ _ _).mono ?_
    rw [e1]
    rintro r w1 ⟨rfl, rfl⟩
    go_wp2_with fail
    refine (between_any _ _ _ _).mono ?_
    rw [e2]
    rintro r w1 ⟨rfl, rfl⟩
    go_wp2_with fail
    refine (isLong_any T M ps pl dr pa la da pc lc dc _ S0.out.ps S0.out.h1 S0.out.h2 S0.out.h3).mono ?_
    rw [e3]
    rintro r w3 ⟨rfl, b3⟩
    have B3 := hide (btr B0.out b3)
    have H3 := hide (heap_below H0.out b3)
    have S3 := hide (S0.out.below b3)
    obtain ⟨x0, x1, x2, x3, x4⟩ := sc_cells H3.out
    clear b3
    go_wp2_with fail
    refine (areRight_any ps pa pc _ S3.out.ps S3.out.h1).mono ?_
    rw [e5]
    rintro r w4 ⟨rfl, b4⟩
    have B4 := hide (btr B3.out b4)
    have H4 := hide (heap_below H3.out b4)
    have S4 := hide (S3.out.below b4)
    obtain ⟨y0, y1, y2, y3, y4⟩ := sc_cells H4.out
    clear b4
    go_wp2_with fail
    refine (all_any la pl lc _ _ _ S4.out.pl S4.out.h2).mono ?_
    rw [e6]
    rintro r w5 ⟨rfl, rfl⟩
    go_wp2_with fail
    refine (all_any da dr dc _ _ _ S4.out.dr S4.out.h3).mono ?_
    rw [e7]
    rintro r w5 ⟨rfl, rfl⟩
    go_wp2_with fail
    go_ret
    exact ⟨rfl, B4.out⟩
end Sh
end Go.Proofs.Ytgnhophlnbpcgaa
