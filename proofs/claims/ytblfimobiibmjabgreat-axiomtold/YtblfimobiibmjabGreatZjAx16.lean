import Derived.Test.YtblfimobiibmjabGreatZjAx15
import Derived.Deep.LoopGhost
import Derived.Deep.Slices
import Derived.ShutString
import Derived.ChangeOld
namespace Go.Proofs.YtblfimobiibmjabGreat
open Go.ChangeShapes Go.WideShapes Go.ChangeAt Go.RowKit
namespace Sh
open De Ba Re
section
variable {T M : Int} {ps : List (List OpD)} {pl dr : List Int}
theorem schk_1 (h : T < 1 ∨ 256 < T ∨ M < 1 ∨ 1048576 < M) : schk ⟨T, M, ps, pl, dr⟩ = 1 := by
 have : ((decide (1 ≤ T) && decide (T ≤ 256)) && (decide (1 ≤ M) && decide (M ≤ 1048576))) = false := by
  simp
  omega
 simp only [schk, this]
 rfl
theorem good_tm (h : (1 ≤ T ∧ T ≤ 256) ∧ 1 ≤ M ∧ M ≤ 1048576) : ((decide (1 ≤ T) && decide (T ≤ 256)) && (decide (1 ≤ M) && decide (M ≤ 1048576))) = true := by
 simp
 omega
theorem schk_2 (h : (1 ≤ T ∧ T ≤ 256) ∧ 1 ≤ M ∧ M ≤ 1048576) (h2 : isl ps pl.length dr.length = true) : schk ⟨T, M, ps, pl, dr⟩ = 2 := by
 simp only [schk, good_tm h, h2]
 rfl
theorem schk_4a (h : (1 ≤ T ∧ T ≤ 256) ∧ 1 ≤ M ∧ M ≤ 1048576) (h2 : isl ps pl.length dr.length = false) (h3 : ps.length = 0) : schk ⟨T, M, ps, pl, dr⟩ = 4 := by
 simp only [schk, good_tm h, h2]
 simp [h3]
theorem schk_4c (h : (1 ≤ T ∧ T ≤ 256) ∧ 1 ≤ M ∧ M ≤ 1048576) (h2 : isl ps pl.length dr.length = false) (h3 : ari ps.length ps = false) : schk ⟨T, M, ps, pl, dr⟩ = 4 := by
 simp only [schk, good_tm h, h2, h3]
 simp
theorem schk_4b (h : (1 ≤ T ∧ T ≤ 256) ∧ 1 ≤ M ∧ M ≤ 1048576) (h2 : isl ps pl.length dr.length = false) (h3 : ab (-1) 1000 pl = false ∨ ab 0 1000 dr = false) : schk ⟨T, M, ps, pl, dr⟩ = 4 := by
 have : (ab (-1) 1000 pl && ab 0 1000 dr) = false := by
  rcases h3 with h3 | h3 <;> simp [h3]
 simp only [schk, good_tm h, h2, this]
 cases (!(!decide (ps.length = 0) && ari ps.length ps)) <;> rfl
theorem ab_no {lo hi : Int} {l : List Int} {k : Nat} (hk : k < l.length) (h : nth l k < lo ∨ hi < nth l k) : ab lo hi l = false := by
 rw [← Bool.not_eq_true]
 intro e
 have := ab_nth.1 e k hk
 omega
theorem ret_int {a b : Int} (h : a = b) : Ending.returned (.int .i64 b) = Ending.returned (.int .i64 a) := by rw [h]
end
set_option maxRecDepth 100000 in
set_option maxHeartbeats 6400000 in
theorem rscheck_any (T M : Int) (ps : List (List OpD)) (pl dr : List Int) (pa la da : Option Addr) (pc lc dc : Nat) (w : World) (hS : SAt w ⟨T, M, ps, pl, dr⟩ pa la da) :
 Calls Tryz.prog 33 #[.agg #[.int .i64 T, .int .i64 M, .slice pa ps.length pc, .slice la pl.length lc, .slice da dr.length dc]] w fun r w' => r = .returned (.int .i64 (schk ⟨T, M, ps, pl, dr⟩)) ∧ Below w.heap.size w w' := by
 have S0 := hide (hS.below (below_alloc w (.cells #[.int .i64 T, .int .i64 M, .slice pa ps.length pc, .slice la pl.length lc, .slice da dr.length dc] 48)))
 have B0 := hide (below_alloc w (.cells #[.int .i64 T, .int .i64 M, .slice pa ps.length pc, .slice la pl.length lc, .slice da dr.length dc] 48))
 have X0 := hide (heap_new w (.cells #[.int .i64 T, .int .i64 M, .slice pa ps.length pc, .slice la pl.length lc, .slice da dr.length dc] 48))
 have h1 := hS.h1
 have h2 := hS.h2
 have h3 := hS.h3
 unfold maxLen at h1 h2 h3
 simp only at h1 h2 h3
 clear hS
 by_cases a1 : T < 1
 ·have g1 : decide (T < 1) = true := by simpa using a1
  go_enter Tryz.func33, Tryz.ntmps33
  go_wp2_with fail
  go_ret
  exact ⟨ret_int (schk_1 (Or.inl a1)), B0.out⟩
 have g1 : decide (T < 1) = false := by simpa using a1
 by_cases a2 : 256 < T
 ·have g2 : decide (256 < T) = true := by simpa using a2
  go_enter Tryz.func33, Tryz.ntmps33
  go_wp2_with fail
  go_ret
  exact ⟨ret_int (schk_1 (Or.inr (Or.inl a2))), B0.out⟩
 have g2 : decide (256 < T) = false := by simpa using a2
 by_cases a3 : M < 1
 ·have g3 : decide (M < 1) = true := by simpa using a3
  go_enter Tryz.func33, Tryz.ntmps33
  go_wp2_with fail
  go_ret
  exact ⟨ret_int (schk_1 (Or.inr (Or.inr (Or.inl a3)))), B0.out⟩
 have g3 : decide (M < 1) = false := by simpa using a3
 by_cases a4 : 1048576 < M
 ·have g4 : decide (1048576 < M) = true := by simpa using a4
  go_enter Tryz.func33, Tryz.ntmps33
  go_wp2_with fail
  go_ret
  exact ⟨ret_int (schk_1 (Or.inr (Or.inr (Or.inr a4)))), B0.out⟩
 have g4 : decide (1048576 < M) = false := by simpa using a4
 have TM : Hid ((1 ≤ T ∧ T ≤ 256) ∧ 1 ≤ M ∧ M ≤ 1048576) := by
  show _ ∧ _
  omega
 clear a1 a2 a3 a4
 by_cases n1 : 8 < ps.length
 ·have q1 : decide (8 < (ps.length : Int)) = true := by simp; omega
  go_enter Tryz.func33, Tryz.ntmps33
  go_wp2_with fail
  go_ret
  exact ⟨ret_int (schk_2 TM.out (by simp [isl, n1])), B0.out⟩
 have q1 : decide (8 < (ps.length : Int)) = false := by simp; omega
 by_cases n2 : 200 < pl.length
 ·have q2 : decide (200 < (pl.length : Int)) = true := by simp; omega
  go_enter Tryz.func33, Tryz.ntmps33
  go_wp2_with fail
  go_ret
  exact ⟨ret_int (schk_2 TM.out (by simp [isl, n2])), B0.out⟩
 have q2 : decide (200 < (pl.length : Int)) = false := by simp; omega
 by_cases n3 : 64 < dr.length
 ·have q3 : decide (64 < (dr.length : Int)) = true := by simp; omega
  go_enter Tryz.func33, Tryz.ntmps33
  go_wp2_with fail
  go_ret
  exact ⟨ret_int (schk_2 TM.out (by simp [isl, n3])), B0.out⟩
 have q3 : decide (64 < (dr.length : Int)) = false := by simp; omega
 go_enter Tryz.func33, Tryz.ntmps33
 go_wp2_with fail
 generalize w.alloc (.cells #[.int .i64 T, .int .i64 M, .slice pa ps.length pc, .slice la pl.length lc, .slice da dr.length dc] 48) = W at S0 B0 X0 ⊢
 obtain ⟨x0, x1, x2, x3, x4⟩ := sc_cells X0.out
 go_loop [50] (fun i => ∃ k : Nat, k ≤ ps.length ∧ i = .int .i64 k ∧ ∀ (j : Nat) (q : List OpD), j < k → ps[j]? = some q → q.length ≤ 32) (fun i => ps.length - (intOf i).toNat)
 case atStart => exact ⟨0, Nat.zero_le _, rfl, fun j q hj => absurd hj (Nat.not_lt_zero _)⟩
 case round =>
  obtain ⟨k, hk, rfl, hall⟩ := hrel
  have HE := hide hall
  clear hall
  by_cases hlt : k < ps.length
  ·have hlt' : (k : Int) < (ps.length : Int) := by omega
   obtain ⟨q, hq⟩ : ∃ q, ps[k]? = some q := ⟨ps[k], by simp [hlt]⟩
   obtain ⟨b, off, qa, qc, e1, c1, hO, m1⟩ := S0.out.ps k q hq
   subst e1
   have HQ := hide hq
   unfold maxLen at m1
   clear hq hO
   by_cases hl : 32 < q.length
   ·have hl' : decide (32 < (q.length : Int)) = true := by simp; omega
    go_wp2_with fail
    go_ret
    exact ⟨ret_int (schk_2 TM.out (isl_long HQ.out hl)), B0.out⟩
   ·have hl' : decide (32 < (q.length : Int)) = false := by simp; omega
    go_wp2_with fail
    go_round
    case rel => exact ⟨k + 1, by omega, by go_num, fun j x hj hx => by
     by_cases e : j = k
     ·subst e; rw [HQ.out] at hx; cases hx; omega
     ·exact HE.out j x (by omega) hx⟩
    case measure => simp [intOf]; omega
  ·have hlt' : ¬ ((k : Int) < (ps.length : Int)) := by omega
   have IS : Hid (isl ps pl.length dr.length = false) := by
    show _ = _
    rw [isl_short fun j q hq => HE.out j q (by have := (List.getElem?_eq_some_iff.1 hq).1; omega) hq]
    simp
    omega
   clear hlt
   by_cases z : ps.length = 0
   ·have Z := hide z
    have z' : ((ps.length : Int) == 0) = true := by simpa using z
    clear z
    go_wp2_with fail
    go_ret
    exact ⟨ret_int (schk_4a TM.out IS.out Z.out), B0.out⟩
   have z' : ((ps.length : Int) == 0) = false := by simpa using z
   clear HE
   go_wp2_with fail
   clear hlt' hk
   go_loopw [65] (fun i wr => ∃ k : Nat, k ≤ ps.length ∧ i = .int .i64 k ∧ (∀ (j : Nat) (q : List OpD), j < k → ps[j]? = some q → ∀ (i : Nat) (o : OpD), q[i]? = some o → chk o ps.length = 0) ∧ Below W.heap.size W wr) (fun i _ => ps.length - (intOf i).toNat)
   case atStart => exact ⟨0, Nat.zero_le _, rfl, fun j q hj => absurd hj (Nat.not_lt_zero _), Below.refl _ _⟩
   case round =>
    rename World => w0
    obtain ⟨k, hk, rfl, hall, bw⟩ := hrel
    have HE := hide hall
    have BW := hide bw
    clear hall bw
    by_cases hlt : k < ps.length
    ·have hlt' : (k : Int) < (ps.length : Int) := by omega
     obtain ⟨q, hq⟩ : ∃ q, ps[k]? = some q := ⟨ps[k], by simp [hlt]⟩
     obtain ⟨b, off, qa, qc, e1, hc, hO, hm⟩ := (S0.out.ps.below BW.out) k q hq
     subst e1
     have HQ := hide hq
     have HO := hide hO
     unfold maxLen at hm
     clear hq hO
     go_wp2_with fail
     go_loopw [71] (fun i wr => ∃ j : Nat, j ≤ q.length ∧ i = .int .i64 j ∧ (∀ (t : Nat) (o : OpD), t < j → q[t]? = some o → chk o ps.length = 0) ∧ Below w0.heap.size w0 wr) (fun i _ => q.length - (intOf i).toNat)
     case atStart => exact ⟨0, Nat.zero_le _, rfl, fun j q hj => absurd hj (Nat.not_lt_zero _), Below.refl _ _⟩
     case round =>
      obtain ⟨j, hj, rfl, hall, bw2⟩ := hrel
      have HF := hide hall
      have B2 := hide bw2
      clear hall bw2
      by_cases hjl : j < q.length
      ·have hjl' : (j : Int) < (q.length : Int) := by omega
       obtain ⟨o, ho⟩ : ∃ o, q[j]? = some o := ⟨q[j], by simp [hjl]⟩
       obtain ⟨b', off', ca, cc, e2, ⟨y0, y1, y2, y3, y4⟩, hC, hM⟩ := (HO.out.below B2.out) j o ho
       subst e2
       have HX := hide ho
       have HC := hide hC
       have HM := hide hM
       clear ho hC hM
       have B3 := hide (btr B2.out (below_alloc wr (.cells #[.int .i64 o.kind, .int .i64 o.a, .int .i64 o.b, .slice ca o.cases.length cc, .bool o.def_] 43)))
       have C3 := hide (HC.out.below (below_alloc wr (.cells #[.int .i64 o.kind, .int .i64 o.a, .int .i64 o.b, .slice ca o.cases.length cc, .bool o.def_] 43)))
       have X3 := hide (heap_below (heap_below X0.out BW.out) B3.out)
       obtain ⟨v0, v1, v2, v3, v4⟩ := sc_cells X3.out
       cases hz : chk o ps.length == 0
       ·have hz' : (chk o ps.length != 0) = true := by simp [bne, hz]
        have HZ := hide hz
        clear hz
        go_wp2_with fail
        refine (rcheck_any o ca cc _ _ C3.out HM.out).mono ?_
        rintro r w4 ⟨rfl, b4⟩
        have B4 := hide (btr B3.out b4)
        clear b4
        go_wp2_with fail
        go_ret
        exact ⟨ret_int (schk_4c TM.out IS.out (ari_no HQ.out HX.out HZ.out)), btr B0.out (btr BW.out B4.out)⟩
       ·have hz' : (chk o ps.length != 0) = false := by simp [bne, hz]
        have HZ : Hid (chk o ps.length = 0) := by show _ = _; simpa using hz
        clear hz
        go_wp2_with fail
        refine (rcheck_any o ca cc _ _ C3.out HM.out).mono ?_
        rintro r w4 ⟨rfl, b4⟩
        have B4 := hide (btr B3.out b4)
        clear b4
        go_wp2_with fail
        go_roundw
        case rel => exact ⟨j + 1, by omega, by go_num, fun t x ht hx => by
         by_cases e : t = j
         ·subst e; rw [HX.out] at hx; cases hx; exact HZ.out
         ·exact HF.out t x (by omega) hx, B4.out⟩
        case measure => simp [intOf]; omega
      ·have hjl' : ¬ ((j : Int) < (q.length : Int)) := by omega
       go_wp2_with fail
       go_roundw
       case rel =>
        exact ⟨k + 1, by omega, by go_num, fun t r ht hr i o ho => by
         by_cases e : t = k
         ·subst e; rw [HQ.out] at hr; cases hr
          exact HF.out i o (by have := (List.getElem?_eq_some_iff.1 ho).1; omega) ho
         ·exact HE.out t r (by omega) hr i o ho, btr BW.out B2.out⟩
       case measure => simp [intOf]; omega
    ·have hlt' : ¬ ((k : Int) < (ps.length : Int)) := by omega
     have AR : Hid (ari ps.length ps = true) := ari_yes fun t q hq j o ho => HE.out t q (by have := (List.getElem?_eq_some_iff.1 hq).1; omega) hq j o ho
     have X5 := hide (heap_below X0.out BW.out)
     have L5 := hide (S0.out.below BW.out).pl
     have D5 := hide (S0.out.below BW.out).dr
     have B5 := hide (btr B0.out BW.out)
     clear HE S0 B0 X0 BW x0 x1 x2 x3 x4
     obtain ⟨x0, x1, x2, x3, x4⟩ := sc_cells X5.out
     go_wp2_with fail
     go_loop [86] (fun i => ∃ k : Nat, k ≤ pl.length ∧ i = .int .i64 k ∧ ∀ j, j < k → -1 ≤ nth pl j ∧ nth pl j ≤ 1000) (fun i => pl.length - (intOf i).toNat)
     case atStart => exact ⟨0, Nat.zero_le _, rfl, fun j hj => absurd hj (Nat.not_lt_zero _)⟩
     case round =>
      obtain ⟨k, hk, rfl, hall⟩ := hrel
      have HE := hide hall
      clear hall
      by_cases hlt : k < pl.length
      ·have hlt' : (k : Int) < (pl.length : Int) := by omega
       obtain ⟨b1, o1, e, hc1⟩ := L5.out k hlt
       subst e
       by_cases u1 : nth pl k < -1
       ·have u1' : decide (nth pl k < -1) = true := by simpa using u1
        go_wp2_with fail
        go_ret
        exact ⟨ret_int (schk_4b TM.out IS.out (Or.inl (ab_no hlt (Or.inl u1)))), B5.out⟩
       have u1' : decide (nth pl k < -1) = false := by simpa using u1
       by_cases u2 : 1000 < nth pl k
       ·have u2' : decide (1000 < nth pl k) = true := by simpa using u2
        go_wp2_with fail
        go_ret
        exact ⟨ret_int (schk_4b TM.out IS.out (Or.inl (ab_no hlt (Or.inr u2)))), B5.out⟩
       have u2' : decide (1000 < nth pl k) = false := by simpa using u2
       go_wp2_with fail
       go_round
       case rel => exact ⟨k + 1, by omega, by go_num, fun j hj => by
        by_cases e : j = k
        ·subst e; omega
        ·exact HE.out j (by omega)⟩
       case measure => simp [intOf]; omega
      ·have hlt' : ¬ ((k : Int) < (pl.length : Int)) := by omega
       have AP : Hid (ab (-1) 1000 pl = true) := ab_nth.2 fun j hj => HE.out j (by omega)
       clear HE
       go_wp2_with fail
       go_loop [100] (fun i => ∃ k : Nat, k ≤ dr.length ∧ i = .int .i64 k ∧ ∀ j, j < k → 0 ≤ nth dr j ∧ nth dr j ≤ 1000) (fun i => dr.length - (intOf i).toNat)
       case atStart => exact ⟨0, Nat.zero_le _, rfl, fun j hj => absurd hj (Nat.not_lt_zero _)⟩
       case round =>
        obtain ⟨k, hk, rfl, hall⟩ := hrel
        have HE := hide hall
        clear hall
        by_cases hlt : k < dr.length
        ·have hlt' : (k : Int) < (dr.length : Int) := by omega
         obtain ⟨b1, o1, e, hc1⟩ := D5.out k hlt
         subst e
         by_cases u1 : nth dr k < 0
         ·have u1' : decide (nth dr k < 0) = true := by simpa using u1
          go_wp2_with fail
          go_ret
          exact ⟨ret_int (schk_4b TM.out IS.out (Or.inr (ab_no hlt (Or.inl u1)))), B5.out⟩
         have u1' : decide (nth dr k < 0) = false := by simpa using u1
         by_cases u2 : 1000 < nth dr k
         ·have u2' : decide (1000 < nth dr k) = true := by simpa using u2
          go_wp2_with fail
          go_ret
          exact ⟨ret_int (schk_4b TM.out IS.out (Or.inr (ab_no hlt (Or.inr u2)))), B5.out⟩
         have u2' : decide (1000 < nth dr k) = false := by simpa using u2
         go_wp2_with fail
         go_round
         case rel => exact ⟨k + 1, by omega, by go_num, fun j hj => by
          by_cases e : j = k
          ·subst e; omega
          ·exact HE.out j (by omega)⟩
         case measure => simp [intOf]; omega
        ·have hlt' : ¬ ((k : Int) < (dr.length : Int)) := by omega
         have AD : Hid (ab 0 1000 dr = true) := ab_nth.2 fun j hj => HE.out j (by omega)
         have F : Hid (schk ⟨T, M, ps, pl, dr⟩ = 0) := by
          show _ = _
          have e3 : decide (ps.length = 0) = false := by simpa using z
          unfold schk
          simp only [good_tm TM.out, IS.out, AR.out, AP.out, AD.out, e3]
          rfl
         go_wp2_with fail
         go_ret
         exact ⟨ret_int F.out, B5.out⟩
end Sh
end Go.Proofs.YtblfimobiibmjabGreat
namespace Go.Proofs.YtblfimobiibmjabGreat
open Go.ChangeShapes Go.WideShapes Go.ChangeAt Go.RowKit
namespace Lo
open Ba
section
variable {w w1 uC uK : World} {G : Nat} {arr : Array Value} {ps : List (List OpD)}
end
def nmI (i : Nat) : List Int := List.replicate i (-1) ++ List.replicate (8 - i) 0
theorem nmI_len {i : Nat} (h : i ≤ 8) : (nmI i).length = 8 := by simp [nmI]; omega
theorem nmI_step {i : Nat} (h : i < 8) : (nmI i).set i (-1) = nmI (i + 1) := by
 rcases (show i = 0 ∨ i = 1 ∨ i = 2 ∨ i = 3 ∨ i = 4 ∨ i = 5 ∨ i = 6 ∨ i = 7 by omega) with rfl | rfl | rfl | rfl | rfl | rfl | rfl | rfl <;> rfl
end Lo
end Go.Proofs.YtblfimobiibmjabGreat
namespace Go.Proofs.YtblfimobiibmjabGreat
open Go.ChangeShapes Go.WideShapes Go.ChangeAt Go.RowKit
namespace Lo
open Ba
def runF (sc : Sh.Sc) : Lm := stepsF sc.pl.length (newS sc)
theorem steps_succ : ∀ (n : Nat) (s : Lm), stepsF (n + 1) s = stepF (stepsF n s)
 | 0, _ => rfl
 | n + 1, s => steps_succ n (stepF s)
theorem step_end {s : Lm} (h : verd s ≠ 0) : stepF s = s := by
 unfold stepF
 rw [if_pos h]
theorem steps_end {s : Lm} (h : verd s ≠ 0) : ∀ n, stepsF n s = s
 | 0 => rfl
 | n + 1 => by rw [steps_succ, steps_end h n, step_end h]
theorem Inv.end_ {sc : Sh.Sc} {n : Nat} {s : Lm} (i : Inv sc n s) (h : verd s = 0) : n < sc.pl.length := by
 have hpl : s.p.length ≠ 0 := fun z => by
  unfold verd at h
  rw [if_pos z] at h
  split at h
  ·omega
  ·split at h <;> omega
 rw [i.p, List.length_drop] at hpl
 omega
theorem Inv.steps {sc : Sh.Sc} (hs : Sh.schk sc = 0) : ∀ n, ∃ k, k ≤ n ∧ Inv sc k (stepsF n (newS sc)) ∧ (verd (stepsF n (newS sc)) = 0 → k = n)
 | 0 => ⟨0, Nat.le_refl _, Inv.new hs, fun _ => rfl⟩
 | n + 1 => by
   obtain ⟨k, hk, i, he⟩ := Inv.steps hs n
   rw [steps_succ]
   by_cases hv : verd (stepsF n (newS sc)) = 0
   ·obtain rfl := he hv
    exact ⟨k + 1, Nat.le_refl _, i.step hs hv, fun _ => rfl⟩
   ·rw [step_end hv]
    exact ⟨k, by omega, i, fun h => absurd h hv⟩
theorem run_over {sc : Sh.Sc} (hs : Sh.schk sc = 0) : verd (runF sc) ≠ 0 := by
 intro h
 obtain ⟨k, -, i, he⟩ := Inv.steps hs sc.pl.length
 have := he h
 have := i.end_ h
 omega
end Lo
end Go.Proofs.YtblfimobiibmjabGreat
namespace Go.Proofs.YtblfimobiibmjabGreat
open Go.ChangeShapes Go.WideShapes Go.ChangeAt Go.RowKit
namespace Rlo
open Ba Lo
theorem rcs_at (q : Hd) (pa : Option Addr) (n pc C B : Nat) (oa : Option Addr) (cn oc : Nat) (nm : List Int) (ta : Option Addr) (tn tc : Nat) (pk : Bool) {k : Nat} (hk : k < 8) : (rcs q pa n pc C B oa cn oc nm ta tn tc pk)[8 + k]? = some (.int .i64 (nth nm k)) := by
 rcases (show k = 0 ∨ k = 1 ∨ k = 2 ∨ k = 3 ∨ k = 4 ∨ k = 5 ∨ k = 6 ∨ k = 7 by omega) with rfl | rfl | rfl | rfl | rfl | rfl | rfl | rfl <;> rfl
theorem at_lt {w : World} {oa : Option Addr} {l : List Int} (h : At w oa l) (h0 : 0 < l.length) : ∀ a, oa = some a → a.block < w.heap.size := by
 intro a e
 obtain ⟨b, off, e2, hc⟩ := h 0 h0
 rw [e] at e2
 cases e2
 exact World.block_lt_of_cell? w _ hc
theorem ni0 : NI (List.replicate 8 (-1)) 0 := by
 refine ⟨rfl, ?_, ?_, ?_⟩
 ·intro i hi
  rcases (show i = 0 ∨ i = 1 ∨ i = 2 ∨ i = 3 ∨ i = 4 ∨ i = 5 ∨ i = 6 ∨ i = 7 by omega) with rfl | rfl | rfl | rfl | rfl | rfl | rfl | rfl <;> decide
 ·intro i hi
  rcases (show i = 0 ∨ i = 1 ∨ i = 2 ∨ i = 3 ∨ i = 4 ∨ i = 5 ∨ i = 6 ∨ i = 7 by omega) with rfl | rfl | rfl | rfl | rfl | rfl | rfl | rfl <;> decide
 ·intro i j hi hj h0 _
  exfalso
  rcases (show i = 0 ∨ i = 1 ∨ i = 2 ∨ i = 3 ∨ i = 4 ∨ i = 5 ∨ i = 6 ∨ i = 7 by omega) with rfl | rfl | rfl | rfl | rfl | rfl | rfl | rfl <;> revert h0 <;> decide
theorem rl_rx {w0 wr : World} {T M : Int} {ps : List (List OpD)} {pl dr : List Int} {pa la da : Option Addr} {pc lc dc N C B L : Nat}
 (hL : wr.heap[L]? = some (.cells (rcs ⟨T, M, la, pl.length, lc, da, dr.length, dc⟩ pa ps.length pc C B none 0 0 (nmI 8) none 0 0 false) 75 (0, 0))) (hB : wr.heap[B]? = some (.cells #[.slice none 0 0] 88 (0, 0))) (cu : Pk.RCur wr C N pl dr) (o1 : N ≤ C) (o2 : C < B) (o3 : B < L)
 (b0 : Below w0.heap.size w0 wr) (hN : w0.heap.size ≤ N) (hp : Sh.PAt w0 pa ps) :
 ∃ col, RX wr col L N C B (fun k => k = B) ⟨T, M, la, pl.length, lc, da, dr.length, dc⟩ pa pc none 0 [] (fun _ _ => False) [] none 0 ⟨ps, pl, dr, [], List.replicate 8 none, List.replicate 8 (-1), 0, [], false⟩ ∧ ∀ x, N ≤ x → x < C → col x = 7 := by
 refine ⟨fun x => if x = L then 0 else if x = C then 1 else if x = B then 2 else if x < N then 6 else 7, ⟨hL, ⟨w0, hN, b0, hp⟩, cu, o1, ⟨none, 0, hB, World.ownsRow_nil _ _ _ _, rfl, fun g e => by simp [Value.ownBlock] at e, fun k (e : k = B) => by rw [e]; exact heap_lt hB, by simp⟩, World.ownsRow_nil _ _ _ _, ?_, ?_, rfl, ?_, World.ownsRow_nil _ _ _ _, ?_, ?_, ?_, ?_, ?_, ?_, ?_⟩, ?_⟩
 ·exact ⟨fun i o hi => by simp at hi, rfl, fun i B1 hi => by simp at hi, fun i hi => by simp at hi, fun _ _ _ _ hf => hf.elim, fun _ _ _ hf => hf, fun _ _ hf => hf.elim⟩
 ·exact ni0
 ·rfl
 ·simp
 ·show (if C = L then 0 else if C = C then 1 else if C = B then 2 else if C < N then 6 else 7) = 1
  rw [if_neg (by omega), if_pos rfl]
 ·intro x (e : x = B)
  show (if x = L then 0 else if x = C then 1 else if x = B then 2 else if x < N then 6 else 7) = 2
  rw [if_neg (by omega), if_neg (by omega), if_pos e]
 ·intro g e
  simp [Value.ownBlock] at e
 ·intro _ _ hf
  exact hf.elim
 ·intro g e
  simp [Value.ownBlock] at e
 ·intro x hx
  show (if x = L then 0 else if x = C then 1 else if x = B then 2 else if x < N then 6 else 7) = 6
  rw [if_neg (by omega), if_neg (by omega), if_neg (by omega), if_pos hx]
 ·intro x h1 h2
  show (if x = L then 0 else if x = C then 1 else if x = B then 2 else if x < N then 6 else 7) = 7
  rw [if_neg (by omega), if_neg (by omega), if_neg (by omega), if_neg (by omega)]
set_option maxRecDepth 100000 in
set_option maxHeartbeats 1600000 in
theorem rlnew_yes (T M : Int) (ps : List (List OpD)) (pl dr : List Int) (pa la da : Option Addr) (pc lc dc N : Nat) (w0 w : World) (hS0 : Sh.SAt w0 ⟨T, M, ps, pl, dr⟩ pa la da) (b0 : Below w0.heap.size w0 w) (hN : w0.heap.size ≤ N) (hN2 : N ≤ w.heap.size) (hx : Sh.schk ⟨T, M, ps, pl, dr⟩ = 0) :
 Calls Tryz.prog 21 #[.agg #[.int .i64 T, .int .i64 M, .slice pa ps.length pc, .slice la pl.length lc, .slice da dr.length dc]] w fun r w' => ∃ L col, r = .returned (.tuple #[.pointer (some ⟨L, 0, none⟩), .int .i64 0]) ∧ RW w' col L N (newS ⟨T, M, ps, pl, dr⟩) ∧ (∀ x, N ≤ x → x < w.heap.size → col x = 7) ∧ w.heap.size ≤ L ∧ Below w.heap.size w w' := by
 obtain ⟨q1, q2, q3, q4, q5, q6, q7⟩ := schk_ok hx
 simp only at q1 q2 q3 q4 q5 q6 q7
 have hS := hS0.below b0
 have CK := hide (Sh.rscheck_any T M ps pl dr pa la da pc lc dc (w.alloc (.cells #[.int .i64 T, .int .i64 M, .slice pa ps.length pc, .slice la pl.length lc, .slice da dr.length dc] 48)) (hS.below (below_alloc _ _)))
 rw [hx] at CK
 have NE : Pk.ne pl dr = 0 := Pk.ne_0 (by omega) (by omega) ((Pk.ab_iff _ _ _).2 q6) ((Pk.ab_iff _ _ _).2 q7)
 have PN := hide (fun u (hb : Below w.heap.size w u) => Pk.rnew_any la da pl dr lc dc N u (fun h0 a e => Nat.lt_of_lt_of_le (at_lt hS0.pl h0 a e) hN) (fun h0 a e => Nat.lt_of_lt_of_le (at_lt hS0.dr h0 a e) hN) (hS.pl.below hb) (hS.dr.below hb) hS0.h2 hS0.h3)
 have HS0 := hide hS0
 have B0 := hide b0
 have HNE := hide NE
 clear hS hS0 b0 NE
 go_enter Tryz.func21, Tryz.ntmps21
 go_wp2_with fail
 refine CK.out.mono ?_
 rintro r w1 ⟨rfl, b1⟩
 have E1 := hide (heap_below (heap_new w (.cells #[.int .i64 T, .int .i64 M, .slice pa ps.length pc, .slice la pl.length lc, .slice da dr.length dc] 48)) b1)
 have B1 := hide (btr (below_alloc w (.cells #[.int .i64 T, .int .i64 M, .slice pa ps.length pc, .slice la pl.length lc, .slice da dr.length dc] 48)) b1)
 have c3 : w1.cell? ⟨w.heap.size, 3, none⟩ = some (.slice la pl.length lc) := cell_of E1.out 3
 have c4 : w1.cell? ⟨w.heap.size, 4, none⟩ = some (.slice da dr.length dc) := cell_of E1.out 4
 have PN1 := hide (PN.out w1 B1.out)
 clear b1 CK PN
 go_wp2_with fail
 refine PN1.out.mono ?_
 rintro r w2 (⟨e, -, -⟩ | ⟨-, rfl, cu2, b2⟩)
 ·exact absurd HNE.out e
 have E2 := hide (heap_below E1.out b2)
 have B2 := hide (btr B1.out b2)
 have CU2 := hide cu2
 have d0 : w2.cell? ⟨w.heap.size, 0, none⟩ = some (.int .i64 T) := cell_of E2.out 0
 have d1 : w2.cell? ⟨w.heap.size, 1, none⟩ = some (.int .i64 M) := cell_of E2.out 1
 have d2 : w2.cell? ⟨w.heap.size, 2, none⟩ = some (.slice pa ps.length pc) := cell_of E2.out 2
 have d3 : w2.cell? ⟨w.heap.size, 3, none⟩ = some (.slice la pl.length lc) := cell_of E2.out 3
 have d4 : w2.cell? ⟨w.heap.size, 4, none⟩ = some (.slice da dr.length dc) := cell_of E2.out 4
 have s1 := B1.out.size
 have s2 : w1.heap.size < w2.heap.size := rcur_lt cu2
 clear b2 cu2 PN1 c3 c4
 have VL := hide (En.heap_new2 w2 (.cells #[.slice none 0 0] 88) (.cells #[.int .i64 T, .int .i64 M, .slice pa ps.length pc, .slice la pl.length lc, .slice da dr.length dc, .pointer (some ⟨w1.heap.size, 0, none⟩), .pointer (some ⟨w2.heap.size, 0, none⟩), .slice none 0 0, .int .i64 0, .int .i64 0, .int .i64 0, .int .i64 0, .int .i64 0, .int .i64 0, .int .i64 0, .int .i64 0, .slice none 0 0, .bool false] 75))
 have VB := hide (heap_below (heap_new w2 (.cells #[.slice none 0 0] 88)) (below_alloc _ (.cells #[.int .i64 T, .int .i64 M, .slice pa ps.length pc, .slice la pl.length lc, .slice da dr.length dc, .pointer (some ⟨w1.heap.size, 0, none⟩), .pointer (some ⟨w2.heap.size, 0, none⟩), .slice none 0 0, .int .i64 0, .int .i64 0, .int .i64 0, .int .i64 0, .int .i64 0, .int .i64 0, .int .i64 0, .int .i64 0, .slice none 0 0, .bool false] 75)))
 have BF := hide (btr (below_alloc w2 (.cells #[.slice none 0 0] 88)) (below_alloc _ (.cells #[.int .i64 T, .int .i64 M, .slice pa ps.length pc, .slice la pl.length lc, .slice da dr.length dc, .pointer (some ⟨w1.heap.size, 0, none⟩), .pointer (some ⟨w2.heap.size, 0, none⟩), .slice none 0 0, .int .i64 0, .int .i64 0, .int .i64 0, .int .i64 0, .int .i64 0, .int .i64 0, .int .i64 0, .int .i64 0, .slice none 0 0, .bool false] 75)))
 go_wp2_with fail
 have o3 : w2.heap.size < w2.heap.size + 1 := by omega
 have o4 := heap_lt VL.out
 clear d0 d1 d2 d3 d4
 generalize (w2.alloc (.cells #[.slice none 0 0] 88)).alloc (.cells #[.int .i64 T, .int .i64 M, .slice pa ps.length pc, .slice la pl.length lc, .slice da dr.length dc, .pointer (some ⟨w1.heap.size, 0, none⟩), .pointer (some ⟨w2.heap.size, 0, none⟩), .slice none 0 0, .int .i64 0, .int .i64 0, .int .i64 0, .int .i64 0, .int .i64 0, .int .i64 0, .int .i64 0, .int .i64 0, .slice none 0 0, .bool false] 75) = w3 at *
 generalize w2.heap.size + 1 = L at *
 have hwL : w.heap.size ≤ L := by omega
 go_loopw [8] (fun iv wr => ∃ i : Nat, i ≤ 8 ∧ iv = .int .i64 i ∧ wr.heap[L]? = some (.cells (rcs ⟨T, M, la, pl.length, lc, da, dr.length, dc⟩ pa ps.length pc w1.heap.size w2.heap.size none 0 0 (nmI i) none 0 0 false) 75 (0, 0)) ∧ KB L w3 wr) (fun iv _ => 8 - (intOf iv).toNat)
 case atStart => exact ⟨0, by omega, rfl, VL.out.trans rfl, KB.refl _ _⟩
 case round =>
  obtain ⟨i, hi, rfl, hlr, hkr⟩ := hrel
  have HLR := hide hlr
  have HKR := hide hkr
  clear hlr hkr
  by_cases hlt : i < 8
  ·have hlt' : (i : Int) < 8 := by omega
   have hi0 : (0 : Int) ≤ (i : Int) := by omega
   have x0 : wr.cell? ⟨L, 8 + i, none⟩ = some (.int .i64 (nth (nmI i) i)) := (cell_of HLR.out (8 + i)).trans (rcs_at _ _ _ _ _ _ _ _ _ _ _ _ _ _ hlt)
   have xf : wr.frozen? ⟨L, 8 + i, none⟩ = false := frozen_of HLR.out (8 + i)
   have NX : Hid ((wr.setCell ⟨L, 8 + i, none⟩ (.int .i64 (-1))).heap[L]? = some (.cells (rcs ⟨T, M, la, pl.length, lc, da, dr.length, dc⟩ pa ps.length pc w1.heap.size w2.heap.size none 0 0 (nmI (i + 1)) none 0 0 false) 75 (0, 0))) := by
    show _ = _
    rw [Ba.heap_setCell_same HLR.out, rcs_num _ _ _ _ _ _ _ _ _ _ _ _ _ _ _ _ (nmI_len hi) hlt, nmI_step hlt]
   have KX := hide (HKR.out.setCell (8 + i) (.int .i64 (-1)))
   generalize nth (nmI i) i = z at x0
   go_wp2_with fail
   go_roundw
   case rel => exact ⟨i + 1, by omega, by go_num, NX.out, KX.out⟩
   case measure => simp [intOf]; omega
  ·have hlt' : decide ((i : Int) < 8) = false := decide_eq_false (by omega)
   have HL8 : Hid (wr.heap[L]? = some (.cells (rcs ⟨T, M, la, pl.length, lc, da, dr.length, dc⟩ pa ps.length pc w1.heap.size w2.heap.size none 0 0 (nmI 8) none 0 0 false) 75 (0, 0))) := by
    have := HLR.out
    have e : i = 8 := by omega
    rw [e] at this
    exact this
   have BW : Hid (Below w.heap.size w wr) := below_kb (btr B2.out BF.out) HKR.out hwL (btr B2.out BF.out).size
   have hB := HKR.out.heap VB.out (by omega)
   have hcu := (CU2.out.below BF.out).kb HKR.out (by omega) (by omega)
   have b00 : Below w0.heap.size w0 wr := ⟨BW.out.os.trans B0.out.os, BW.out.tape.trans B0.out.tape, BW.out.output.trans B0.out.output, Nat.le_trans B0.out.size BW.out.size, fun x hx => (BW.out.block x (Nat.lt_of_lt_of_le hx B0.out.size)).trans (B0.out.block x hx)⟩
   obtain ⟨col, hrx, h7⟩ := rl_rx HL8.out hB hcu (by omega) s2 o3 b00 hN HS0.out.ps
   have HRX := hide hrx
   have H7 := hide h7
   have SP := hide (Cr.rspawn_any w2.heap.size _ [] 0 wr hrx.cr)
   have y6 := cell_of hrx.hp 6
   simp [rcs] at y6
   clear hrx h7 hB hcu b00 HLR HKR HL8 VL VB
   go_wp2_with fail
   refine SP.out.mono ?_
   rintro r w5 ⟨rfl, p5⟩
   obtain ⟨FB5, col5, h5, t5⟩ := HRX.out.crew p5
   have H5 := hide h5
   have T5 := hide t5
   clear h5 t5 p5 SP y6
   go_wp2_with fail
   go_ret2
   have c7 : ∀ x, x < w.heap.size → 6 ≤ col x := fun x hx => by
    rcases Nat.lt_or_ge x N with q | q
    ·rw [HRX.out.c6 x q]
     omega
    ·rw [H7.out x q (by omega)]
     omega
   refine ⟨L, col5, rfl, H5.out.lw, fun x h1 h2 => ?_, hwL, ⟨T5.out.os.trans BW.out.os, T5.out.tape.trans BW.out.tape, T5.out.output.trans BW.out.output, Nat.le_trans BW.out.size T5.out.size, fun x hx => (T5.out.block x (Nat.lt_of_lt_of_le hx BW.out.size) (c7 x hx)).trans (BW.out.block x hx)⟩⟩
   exact (T5.out.old x (Nat.lt_of_lt_of_le h2 BW.out.size) (c7 x h2)).trans (H7.out x h1 (by omega))
theorem WB.steps {sc : Sh.Sc} (hs : Sh.schk sc = 0) : ∀ n, WB (stepsF n (newS sc))
 | 0 => WB.new sc
 | n + 1 => by
   obtain ⟨k, -, i, -⟩ := Inv.steps hs n
   rw [steps_succ]
   exact (WB.steps hs n).step hs i
theorem rstep_all (L N : Nat) (col : Nat → Nat) (sc : Sh.Sc) (n : Nat) (w : World) (h : RW w col L N (stepsF n (newS sc))) (hs : Sh.schk sc = 0) :
 Calls Tryz.prog 22 #[.pointer (some ⟨L, 0, none⟩)] w fun r w' => (∃ b, r = .returned (.bool b)) ∧ ∃ col', RW w' col' L N (stepsF (n + 1) (newS sc)) ∧ Tq col col' w w' := by
 obtain ⟨k, -, i, -⟩ := Inv.steps hs n
 rw [steps_succ]
 by_cases hv : verd (stepsF n (newS sc)) = 0
 ·refine (rstep_any L N col sc k _ w h hs i (WB.steps hs n) hv).mono ?_
  rintro r w1 ⟨rfl, x⟩
  exact ⟨⟨_, rfl⟩, x⟩
 ·rw [Lo.step_end hv]
  refine (rstep_over L N col _ w h hv).mono ?_
  rintro r w1 ⟨rfl, b1⟩
  obtain ⟨c1, h1, t1, -⟩ := h.below b1
  exact ⟨⟨_, rfl⟩, c1, h1, t1⟩
theorem size_ran : (Tryz.prog.info? 39).map (·.size) = some 2 := by kernel_rfl
theorem loadVar_ran {w : World} {b : Nat} {c : Array Value} {t : TypeId} (h : w.heap[b]? = some (.cells c t (0, 0))) (hc : c.size = 2) : (loadVar 39 ⟨b, 0, none⟩).run Tryz.prog w = .ok (.agg c) w :=
 run_loadVar_row w b t _ _ _ _ h Tryz.underlying39 rfl (by rw [size_ran, hc])
set_option maxRecDepth 100000 in
set_option maxHeartbeats 1600000 in
theorem rlrun_yes (T M : Int) (ps : List (List OpD)) (pl dr : List Int) (pa la da : Option Addr) (pc lc dc : Nat) (w : World) (hS : Sh.SAt w ⟨T, M, ps, pl, dr⟩ pa la da) (hx : Sh.schk ⟨T, M, ps, pl, dr⟩ = 0) (R : Lm) (hR : runF ⟨T, M, ps, pl, dr⟩ = R) :
 Calls Tryz.prog 12 #[.agg #[.int .i64 T, .int .i64 M, .slice pa ps.length pc, .slice la pl.length lc, .slice da dr.length dc]] w fun r w' => ∃ ob d, r = .returned (.agg #[.slice ob R.tr.length d, .int .i64 (verd R)]) ∧ EsAt w' ob R.tr ∧ (R.tr.length ≤ d ∧ ∀ a, ob = some a → w.heap.size ≤ a.block) ∧ Below w.heap.size w w' := by
 have BB := btr (below_alloc w (.cells #[.int .i64 T, .int .i64 M, .slice pa ps.length pc, .slice la pl.length lc, .slice da dr.length dc] 48)) (below_alloc _ (.cells #[.slice none 0 0, .int .i64 0] 39))
 have NE := hide (rlnew_yes T M ps pl dr pa la da pc lc dc w.heap.size w _ hS BB (Nat.le_refl _) BB.size hx)
 have B0 := hide BB
 have R0 := hide (En.heap_new2 w (.cells #[.int .i64 T, .int .i64 M, .slice pa ps.length pc, .slice la pl.length lc, .slice da dr.length dc] 48) (.cells #[.slice none 0 0, .int .i64 0] 39))
 have S0 := hide (heap_below (heap_new w (.cells #[.int .i64 T, .int .i64 M, .slice pa ps.length pc, .slice la pl.length lc, .slice da dr.length dc] 48)) (below_alloc _ (.cells #[.slice none 0 0, .int .i64 0] 39)))
 have HR := hide hR
 have hpl2 : pl.length ≤ 200 := (schk_ok hx).2.2.1
 have RO := hide (run_over hx)
 generalize hsc : (⟨T, M, ps, pl, dr⟩ : Sh.Sc) = sc at *
 have HPL : Hid (sc.pl.length = pl.length) := by show _ = _; rw [← hsc]
 clear hS hR BB hsc
 go_enter Tryz.func12, Tryz.ntmps12
 go_wp2_with fail
 refine NE.out.mono ?_
 rintro r w1 ⟨L, col, rfl, h1, h7, hLw, b1⟩
 have H1 := hide h1
 have B1 := hide (btr B0.out b1)
 have R1 := hide (heap_below R0.out b1)
 have S1 := hide (heap_below S0.out b1)
 have hs0 := heap_lt R0.out
 have C0 : Hid (col w.heap.size = 7) := h7 _ (Nat.le_refl _) (by omega)
 have C1 : Hid (col (w.heap.size + 1) = 7) := h7 _ (by omega) hs0
 have C6 : Hid (∀ x, x < w.heap.size → 6 ≤ col x) := fun x hx => by
  obtain ⟨C, B, FB, q, pa, pc, oa, oc, bs, Fs, cs, ta, tc, h⟩ := h1
  rw [h.c6 x hx]
  omega
 have hLne : L ≠ w.heap.size + 1 := by omega
 clear h1 h7 b1 NE hs0 hLw
 go_wp2_with fail
 go_loopw [5] (fun iv wr => ∃ (n : Nat) (cj : Nat → Nat), n ≤ pl.length + 1 ∧ iv = .int .i64 n ∧ RW wr cj L w.heap.size (stepsF n (newS sc)) ∧ Tq col cj w1 wr) (fun iv _ => pl.length + 1 - (intOf iv).toNat)
 case atStart => exact ⟨0, col, Nat.zero_le _, rfl, H1.out, Tq.refl _ _⟩
 case round =>
  obtain ⟨n, cj, hn, rfl, hlw, htr⟩ := hrel
  have HL := hide hlw
  have HT := hide htr
  have S2 := hide (htr.heap S1.out C0.out)
  have R2 := hide (htr.heap R1.out C1.out)
  have CJ : Hid (cj (w.heap.size + 1) = 7) := (htr.old _ (heap_lt R1.out) (by rw [C1.out]; omega)).trans C1.out
  have p3 : wr.cell? ⟨w.heap.size, 3, none⟩ = some (.slice la pl.length lc) := cell_of S2.out 3
  clear hlw htr H1
  by_cases hlt : n ≤ pl.length
  ·have hlt' : (n : Int) ≤ (pl.length : Int) := by omega
   have ST := hide (rstep_all L w.heap.size cj sc n wr HL.out hx)
   go_wp2_with fail
   refine ST.out.mono ?_
   rintro r w3 ⟨⟨b, rfl⟩, c3, h3, t3⟩
   have H3 := hide h3
   have T3 := hide (HT.out.trans t3)
   clear h3 t3 ST
   go_wp2_with fail
   go_roundw
   case rel => exact ⟨n + 1, c3, by omega, by go_num, H3.out, T3.out⟩
   case measure => simp [intOf]; omega
  ·have hlt' : ¬ ((n : Int) ≤ (pl.length : Int)) := by omega
   have hRs : stepsF n (newS sc) = R := by
    have e : n = sc.pl.length + 1 := by rw [HPL.out]; omega
    rw [e, steps_succ]
    show stepF (runF sc) = R
    rw [Lo.step_end RO.out, HR.out]
   rw [hRs] at HL
   have VE := hide (fun u c (q : RW u c L w.heap.size R) => rverdict_any L w.heap.size c R u q)
   obtain ⟨C, B, FB, q, pa2, pc2, oa, oc, bs, Fs, cs, ta, tc, h2⟩ := HL.out
   have H2 := hide h2
   have BW : Hid (Below w.heap.size w wr) := ⟨HT.out.os.trans B1.out.os, HT.out.tape.trans B1.out.tape, HT.out.output.trans B1.out.output, Nat.le_trans B1.out.size HT.out.size, fun x hx => (HT.out.block x (Nat.lt_of_lt_of_le hx B1.out.size) (C6.out x hx)).trans (B1.out.block x hx)⟩
   have VE2 := hide (VE.out wr.drew cj h2.drew.lw)
   have y16 : wr.cell? ⟨L, 16, none⟩ = some (.slice ta R.tr.length tc) := cell_of h2.hp 16
   have L2 := hide h2.hp
   have OT := hide h2.tr
   generalize hV : verd R = V at VE2
   clear h2 VE HT hRs
   go_wp2_with fail
   go_region_held3 (fun w' => w'.cell? ⟨L, 16, none⟩ = some (.slice ta R.tr.length tc))
    (first | (go_keep; done) | (exact y16b) | (exact kset1 (kset1 y16b hLne) hLne))
    (first | (go_at_call 23; refine VE2.out.mono ?_; rintro r w6 ⟨rfl, b6⟩; have y16b : w6.cell? ⟨L, 16, none⟩ = some (.slice ta R.tr.length tc) := cell_of (heap_below L2.out (btr (bdrew1 wr) b6)) 16; have R6 := hide (heap_below R2.out (btr (bdrew1 wr) b6)); have r0 := cell_of R6.out 0; have r1 := cell_of R6.out 1; have f0 := frozen_of R6.out 0; have f1 := frozen_of R6.out 1; simp at r0 r1))
   have B6 := hide (btr BW.out (btr (bdrew1 wr) b6))
   obtain ⟨ob, d, eo, hE, hd, ho⟩ := own_es OT.out
   cases eo
   have K2 := ((KB.refl (w.heap.size + 1) w6).setCell 0 (.slice ta R.tr.length tc)).setCell 1 (.int .i64 V)
   go_wp2_with fail
   refine bodyPost_ret (En.results_row1 Tryz.results12 _ _ _ _ rfl (loadVar_ran ((Ba.heap_setCell_same (Ba.heap_setCell_same R6.out (i := 0) (.slice ta R.tr.length tc)) (i := 1) (.int .i64 V)).trans rfl) rfl)) rfl ⟨ta, tc, by (rw [hV]) <;> rfl, ?_, ⟨hd, ?_⟩, below_kb B6.out K2 (by omega) B6.out.size⟩
   ·have own2 := Cr.own_keep (w' := (w6.setCell ⟨w.heap.size + 1, 0, none⟩ (.slice ta R.tr.length tc)).setCell ⟨w.heap.size + 1, 1, none⟩ (.int .i64 V)) OT.out fun x e => by
     have hx := H2.out.blt e
     refine (K2.block x (Nat.lt_of_lt_of_le hx b6.size) (fun e2 => ?_)).trans ((btr (bdrew1 wr) b6).block x hx)
     have h5 := H2.out.c5 x e
     rw [e2, CJ.out] at h5
     omega
    obtain ⟨ob2, d2, eo2, hE2, -⟩ := own_es own2
    cases eo2
    exact hE2
   ·intro a e
    have e5 := H2.out.c5 a.block (Rp.own_addr OT.out a e)
    rcases Nat.lt_or_ge a.block w.heap.size with z | z
    ·rw [H2.out.c6 _ z] at e5
     omega
    ·exact z
end Rlo
end Go.Proofs.YtblfimobiibmjabGreat
namespace Go.Proofs.YtblfimobiibmjabGreat
open Go.ChangeShapes Go.WideShapes Go.ChangeAt Go.RowKit
namespace Ax
open En Gu Eg Ba
abbrev psW : List (List Lo.OpD) := [[⟨1, 1, 0, [], false⟩, ⟨8, 0, 0, [], false⟩], [⟨8, 0, 0, [], false⟩]]
def trW : List Ev := [⟨1, 0, -1, -1, 1, 1, false, false⟩, ⟨10, 0, -1, -1, 0, -1, false, false⟩, ⟨10, 1, -1, -1, 0, -1, false, false⟩]
theorem tok_trW : Tok trW := by
 intro i e he
 match i, he with
 | 0, he => cases he; decide
 | 1, he => cases he; decide
 | 2, he => cases he; decide
 | i + 3, he => simp [trW] at he
theorem allS_trW : allS trW = [⟨0, 1, 1⟩, ⟨0, 2, 2⟩] := by
 refine (allS_of tok_trW (m := [⟨0, 1, 1⟩, ⟨0, 2, 2⟩]) ?_ ?_).symm
 ·rw [show allE trW = [⟨0, 1, 1⟩, ⟨0, 2, 2⟩] by rfl]
 ·unfold ltE
  simp
theorem ahd_trW : ahd trW = Mx.clo (Mx.sets 3 (fun _ => 0) [(0, 1), (0, 2)]) 3 := by
 unfold ahd relS eds
 rw [allS_trW]
 rfl
theorem has_trW (i k : Int) (b : Bool) (h : Mx.hsI 3 (Mx.clo (Mx.sets 3 (fun _ => 0) [(0, 1), (0, 2)]) 3) i k = b) : Mx.hsI 3 (ahd trW) i k = b := by
 rw [ahd_trW]
 exact h
theorem fir_trW : firA trW 0 = some 2 := by
 unfold firA hA
 rw [ahd_trW]
 decide
theorem whW_at (w : World) : Sh.SAt ((((w.alloc (.cells #[.int .i64 1, .int .i64 1, .int .i64 0, .slice none 0 0, .bool false, .int .i64 8, .int .i64 0, .int .i64 0, .slice none 0 0, .bool false] 43)).alloc (.cells #[.int .i64 8, .int .i64 0, .int .i64 0, .slice none 0 0, .bool false] 43)).alloc (.cells #[.slice (some ⟨w.heap.size, 0, none⟩) 2 2, .slice (some ⟨w.heap.size + 1, 0, none⟩) 1 1] 44)).alloc (.cells #[.int .i64 0, .int .i64 0, .int .i64 1] 3)) ⟨9, 9, psW, [0, 0, 1], []⟩ (some ⟨w.heap.size + 1 + 1, 0, none⟩) (some ⟨w.heap.size + 1 + 1 + 1, 0, none⟩) none ∧ Below w.heap.size w ((((w.alloc (.cells #[.int .i64 1, .int .i64 1, .int .i64 0, .slice none 0 0, .bool false, .int .i64 8, .int .i64 0, .int .i64 0, .slice none 0 0, .bool false] 43)).alloc (.cells #[.int .i64 8, .int .i64 0, .int .i64 0, .slice none 0 0, .bool false] 43)).alloc (.cells #[.slice (some ⟨w.heap.size, 0, none⟩) 2 2, .slice (some ⟨w.heap.size + 1, 0, none⟩) 1 1] 44)).alloc (.cells #[.int .i64 0, .int .i64 0, .int .i64 1] 3)) := by
 have b1 := below_alloc w (.cells #[.int .i64 1, .int .i64 1, .int .i64 0, .slice none 0 0, .bool false, .int .i64 8, .int .i64 0, .int .i64 0, .slice none 0 0, .bool false] 43)
 have h1 := heap_new w (.cells #[.int .i64 1, .int .i64 1, .int .i64 0, .slice none 0 0, .bool false, .int .i64 8, .int .i64 0, .int .i64 0, .slice none 0 0, .bool false] 43)
 have z1 : (w.alloc (.cells #[.int .i64 1, .int .i64 1, .int .i64 0, .slice none 0 0, .bool false, .int .i64 8, .int .i64 0, .int .i64 0, .slice none 0 0, .bool false] 43)).heap.size = w.heap.size + 1 := World.size_alloc ..
 generalize w.alloc (.cells #[.int .i64 1, .int .i64 1, .int .i64 0, .slice none 0 0, .bool false, .int .i64 8, .int .i64 0, .int .i64 0, .slice none 0 0, .bool false] 43) = w1 at *
 have b2 := below_alloc w1 (.cells #[.int .i64 8, .int .i64 0, .int .i64 0, .slice none 0 0, .bool false] 43)
 have h2 := heap_new w1 (.cells #[.int .i64 8, .int .i64 0, .int .i64 0, .slice none 0 0, .bool false] 43)
 have z2 : (w1.alloc (.cells #[.int .i64 8, .int .i64 0, .int .i64 0, .slice none 0 0, .bool false] 43)).heap.size = w1.heap.size + 1 := World.size_alloc ..
 generalize w1.alloc (.cells #[.int .i64 8, .int .i64 0, .int .i64 0, .slice none 0 0, .bool false] 43) = w2 at *
 have b3 := below_alloc w2 (.cells #[.slice (some ⟨w.heap.size, 0, none⟩) 2 2, .slice (some ⟨w.heap.size + 1, 0, none⟩) 1 1] 44)
 have h3 := heap_new w2 (.cells #[.slice (some ⟨w.heap.size, 0, none⟩) 2 2, .slice (some ⟨w.heap.size + 1, 0, none⟩) 1 1] 44)
 have z3 : (w2.alloc (.cells #[.slice (some ⟨w.heap.size, 0, none⟩) 2 2, .slice (some ⟨w.heap.size + 1, 0, none⟩) 1 1] 44)).heap.size = w2.heap.size + 1 := World.size_alloc ..
 generalize w2.alloc (.cells #[.slice (some ⟨w.heap.size, 0, none⟩) 2 2, .slice (some ⟨w.heap.size + 1, 0, none⟩) 1 1] 44) = w3 at *
 have b4 := below_alloc w3 (.cells #[.int .i64 0, .int .i64 0, .int .i64 1] 3)
 have h4 := heap_new w3 (.cells #[.int .i64 0, .int .i64 0, .int .i64 1] 3)
 generalize w3.alloc (.cells #[.int .i64 0, .int .i64 0, .int .i64 1] 3) = w4 at *
 rw [z3, z2, z1] at h4
 rw [z2, z1] at h3
 rw [z1] at h2
 have g1 := heap_below (heap_below (heap_below h1 b2) b3) b4
 have g2 := heap_below (heap_below h2 b3) b4
 have g3 := heap_below h3 b4
 refine ⟨⟨?_, ?_, fun k hk => absurd hk (Nat.not_lt_zero _), by decide, by decide, by decide⟩, btr (btr (btr b1 b2) b3) b4⟩
 ·intro k q hq
  match k, hq with
  | 0, hq =>
    obtain rfl : q = [⟨1, 1, 0, [], false⟩, ⟨8, 0, 0, [], false⟩] := by simpa [psW] using hq.symm
    refine ⟨_, _, _, 2, rfl, cell_of g3 0, ?_, by decide⟩
    intro j o ho
    match j, ho with
    | 0, ho =>
      obtain rfl : o = ⟨1, 1, 0, [], false⟩ := by simpa using ho.symm
      exact ⟨_, _, none, 0, rfl, ⟨cell_of g1 0, cell_of g1 1, cell_of g1 2, cell_of g1 3, cell_of g1 4⟩, (fun k x hk => by simp at hk), by decide⟩
    | 1, ho =>
      obtain rfl : o = ⟨8, 0, 0, [], false⟩ := by simpa using ho.symm
      exact ⟨_, _, none, 0, rfl, ⟨cell_of g1 5, cell_of g1 6, cell_of g1 7, cell_of g1 8, cell_of g1 9⟩, (fun k x hk => by simp at hk), by decide⟩
    | j + 2, ho => simp at ho
  | 1, hq =>
    obtain rfl : q = [⟨8, 0, 0, [], false⟩] := by simpa [psW] using hq.symm
    refine ⟨_, _, _, 1, rfl, cell_of g3 1, ?_, by decide⟩
    intro j o ho
    match j, ho with
    | 0, ho =>
      obtain rfl : o = ⟨8, 0, 0, [], false⟩ := by simpa using ho.symm
      exact ⟨_, _, none, 0, rfl, ⟨cell_of g2 0, cell_of g2 1, cell_of g2 2, cell_of g2 3, cell_of g2 4⟩, (fun k x hk => by simp at hk), by decide⟩
    | j + 1, ho => simp at ho
  | k + 2, hq => simp [psW] at hq
 ·intro k hk
  have hk' : k < 3 := hk
  match k, hk' with
  | 0, _ => exact ⟨_, _, rfl, cell_of h4 0⟩
  | 1, _ => exact ⟨_, _, rfl, cell_of h4 1⟩
  | 2, _ => exact ⟨_, _, rfl, cell_of h4 2⟩
set_option maxRecDepth 100000 in
set_option maxHeartbeats 3200000 in
theorem write_any (w : World) : Calls Tryz.prog 6 #[] w fun r w' => r = .returned (.bool true) ∧ Below w.heap.size w w' := by
 obtain ⟨S0, B0⟩ := whW_at w
 obtain ⟨R, hR⟩ : ∃ R, Lo.runF ⟨9, 9, psW, [0, 0, 1], []⟩ = R := ⟨_, rfl⟩
 have r1 : (Lo.runF ⟨9, 9, psW, [0, 0, 1], []⟩).tr = trW := by rfl
 have r2 : Lo.verd (Lo.runF ⟨9, 9, psW, [0, 0, 1], []⟩) = 4 := by rfl
 rw [hR] at r1 r2
 have RN := hide (Rlo.rlrun_yes 9 9 psW [0, 0, 1] [] _ _ none 2 3 0 _ S0 (by decide) R hR)
 rw [r1, r2, show trW.length = 3 from rfl] at RN
 have TB : tokB trW = true := tokB_iff.2 tok_trW
 have FI := hide (fun (oa : Option Addr) (c : Nat) (u : World) (hA : EsAt u oa trW) => first_yes oa trW c 0 u hA (by decide) TB)
 rw [fir_trW, show fr1 (some 2) = 2 from rfl, show cellE 0 = 0 from rfl, show (some 2 : Option Nat).isSome = true from rfl] at FI
 have AH := hide (fun (oa : Option Addr) (c : Nat) (u : World) (hA : EsAt u oa trW) => ahead_yes oa trW c u hA (by decide) TB)
 have H0 := has_trW 0 2 true (by decide)
 have H1 := has_trW 1 2 false (by decide)
 have L3 : trW.length = 3 := rfl
 rw [L3] at FI AH
 have B0 := hide B0
 clear hR r1 r2 S0 TB
 go_enter Tryz.func6, Tryz.ntmps6
 go_wp2_with fail
 refine RN.out.mono ?_
 rintro r w1 ⟨ob, d, rfl, e1, -, b1⟩
 have B1 := hide (btr B0.out b1)
 have hfd : ∀ u, (Instr.field 39 (.agg #[.slice ob 3 d, .int .i64 4]) 0).run Tryz.prog u = .ok (.slice ob 3 d) u := fun _ => by kernel_rfl
 have F1 := hide (FI.out ob d w1 e1)
 have E1 := hide e1
 clear e1 b1 RN FI
 go_wp2_with fail
 refine F1.out.mono ?_
 rintro r w2 ⟨rfl, b2⟩
 have B2 := hide (btr B1.out b2)
 have A2 := hide (AH.out ob d w2 (E1.out.below b2))
 clear b2 F1 AH
 go_wp2_with fail
 refine A2.out.mono ?_
 rintro r w3 ⟨M, R, W, rfl, m3, b3⟩
 have B3 := hide (btr B2.out b3)
 have HA0 := Mx.has_any m3 0 2
 rw [H0] at HA0
 have HA0 := hide HA0
 have M3 := hide m3
 clear b3 A2 m3
 go_wp2_with fail
 refine HA0.out.mono ?_
 rintro r w4 ⟨rfl, n4, rfl⟩
 have HA1 := Mx.has_any (M3.out.drw n4) 1 2
 rw [H1] at HA1
 have HA1 := hide HA1
 go_wp2_with fail
 refine HA1.out.mono ?_
 rintro r w5 ⟨rfl, n5, rfl⟩
 go_wp2_with fail
 go_ret
 exact ⟨rfl, btr B3.out (bdrew w3 (n4 + n5))⟩
end Ax
end Go.Proofs.YtblfimobiibmjabGreat
namespace Go.Proofs.YtblfimobiibmjabGreat
open Go.ChangeShapes Go.WideShapes Go.ChangeAt Go.RowKit
namespace Gu
open En Ba
theorem cells_ev : Tryz.prog.cellsOf 29 = 8 := by kernel_rfl
theorem cells_bl : Tryz.prog.cellsOf 4 = 1 := by kernel_rfl
theorem fields8 : ∃ fs : Array Field, Tryz.prog.underlying 29 = some (.struct fs) ∧ fs.size = 8 ∧ (∃ f, fs[0]? = some f ∧ f.offset = 0 ∧ f.type = 3) ∧ (∃ f, fs[1]? = some f ∧ f.offset = 1 ∧ f.type = 3) ∧ (∃ f, fs[2]? = some f ∧ f.offset = 2 ∧ f.type = 3) ∧ (∃ f, fs[3]? = some f ∧ f.offset = 3 ∧ f.type = 3) ∧ (∃ f, fs[4]? = some f ∧ f.offset = 4 ∧ f.type = 3) ∧ (∃ f, fs[5]? = some f ∧ f.offset = 5 ∧ f.type = 3) ∧ (∃ f, fs[6]? = some f ∧ f.offset = 6 ∧ f.type = 4) ∧ (∃ f, fs[7]? = some f ∧ f.offset = 7 ∧ f.type = 4) :=
 ⟨_, Tryz.underlying29, rfl, ⟨_, rfl, rfl, rfl⟩, ⟨_, rfl, rfl, rfl⟩, ⟨_, rfl, rfl, rfl⟩, ⟨_, rfl, rfl, rfl⟩, ⟨_, rfl, rfl, rfl⟩, ⟨_, rfl, rfl, rfl⟩, ⟨_, rfl, rfl, rfl⟩, ⟨_, rfl, rfl, rfl⟩⟩
section
variable {H : Type} {enc : TypeId × Value → H} {w : World}
theorem ev_cells (n : Nat) (cs : List Value) (x : DataW H × List MemPlace) (h : DataW.trod enc Tryz.prog w 0 (fun _ => true) true n 29 cs = some x) : ∃ e : Ev, ∀ j, j < 8 → cs[j]? = (evc e)[j]? := by
 obtain ⟨fs, hu, hsz, F0, F1, F2, F3, F4, F5, F6, F7⟩ := fields8
 obtain ⟨xs, k, _, _, _, hxl, hff⟩ := DataW.trod_struct hu h
 rw [hsz] at hxl
 obtain ⟨f0, g0, o0, t0⟩ := F0
 have h0 := hff 0 f0 g0
 rw [o0, t0, cells_int] at h0
 obtain ⟨f1, g1, o1, t1⟩ := F1
 have h1 := hff 1 f1 g1
 rw [o1, t1, cells_int] at h1
 obtain ⟨f2, g2, o2, t2⟩ := F2
 have h2 := hff 2 f2 g2
 rw [o2, t2, cells_int] at h2
 obtain ⟨f3, g3, o3, t3⟩ := F3
 have h3 := hff 3 f3 g3
 rw [o3, t3, cells_int] at h3
 obtain ⟨f4, g4, o4, t4⟩ := F4
 have h4 := hff 4 f4 g4
 rw [o4, t4, cells_int] at h4
 obtain ⟨f5, g5, o5, t5⟩ := F5
 have h5 := hff 5 f5 g5
 rw [o5, t5, cells_int] at h5
 obtain ⟨f6, g6, o6, t6⟩ := F6
 have h6 := hff 6 f6 g6
 rw [o6, t6, cells_bl] at h6
 obtain ⟨f7, g7, o7, t7⟩ := F7
 have h7 := hff 7 f7 g7
 rw [o7, t7, cells_bl] at h7
 rw [List.getElem?_eq_getElem (by omega)] at h0 h1 h2 h3 h4 h5 h6 h7
 obtain ⟨a0, q0, _⟩ := DataW.trod_int Tryz.underlying3 h0
 obtain ⟨a1, q1, _⟩ := DataW.trod_int Tryz.underlying3 h1
 obtain ⟨a2, q2, _⟩ := DataW.trod_int Tryz.underlying3 h2
 obtain ⟨a3, q3, _⟩ := DataW.trod_int Tryz.underlying3 h3
 obtain ⟨a4, q4, _⟩ := DataW.trod_int Tryz.underlying3 h4
 obtain ⟨a5, q5, _⟩ := DataW.trod_int Tryz.underlying3 h5
 obtain ⟨a6, q6, _⟩ := DataW.trod_bool Tryz.underlying4 h6
 obtain ⟨a7, q7, _⟩ := DataW.trod_bool Tryz.underlying4 h7
 refine ⟨⟨a0, a1, a2, a3, a4, a5, a6, a7⟩, fun j hj => ?_⟩
 match j, hj with
 | 0, _ => exact one_of q0
 | 1, _ => exact one_of q1
 | 2, _ => exact one_of q2
 | 3, _ => exact one_of q3
 | 4, _ => exact one_of q4
 | 5, _ => exact one_of q5
 | 6, _ => exact one_of q6
 | 7, _ => exact one_of q7
theorem events_open {n : Nat} {oa : Option Addr} {len cap : Nat} {x : DataW H × List MemPlace} (h : DataW.trod enc Tryz.prog w 0 (fun _ => true) true n 22 [.slice oa len cap] = some x) : ∃ l : List Ev, l.length = len ∧ EsAt w oa l ∧ len ≤ cap ∧ cap ≤ maxLen := by
 rcases Go.Deep.open_slice Tryz.underlying22 h with ⟨hcs, _⟩ | ⟨a, len', cap', m', n', D, Pl, hcs, _, hl, hm, hmm, _, hel⟩
 ·simp at hcs
  obtain ⟨rfl, rfl, rfl⟩ := hcs
  exact ⟨[], rfl, EsAt.nil _ _, Nat.le_refl _, Nat.zero_le _⟩
 ·simp at hcs
  obtain ⟨rfl, rfl, rfl⟩ := hcs
  have hmc : m' = cap := by simpa using hmm
  subst hmc
  have key : ∀ i, i < len → ∃ e : Ev, ∀ j, j < 8 → w.cell? ((a.add (i * 8)).add j) = (evc e)[j]? := by
   intro i hi
   obtain ⟨cs', h1, h2⟩ := hel i (by omega)
   rw [cells_ev] at h1
   obtain ⟨_, _, hcell⟩ := World.cells?_some h1
   obtain ⟨e, he⟩ := ev_cells _ _ _ h2
   exact ⟨e, fun j hj => (hcell j hj).trans (he j hj)⟩
  have fam : ∃ f : Nat → Ev, ∀ i, i < len → ∀ j, j < 8 → w.cell? ((a.add (i * 8)).add j) = (evc (f i))[j]? := by
   refine ⟨fun i => if hi : i < len then Classical.choose (key i hi) else ev0, fun i hi => ?_⟩
   simp only [dif_pos hi]
   exact Classical.choose_spec (key i hi)
  obtain ⟨f, hf⟩ := fam
  refine ⟨(List.range len).map f, by simp, ?_, hl, hm⟩
  intro k c hk
  have hk2 : k < len := by
   have := (List.getElem?_eq_some_iff.1 hk).1
   simpa using this
  have hc : c = f k := by
   simp [hk2] at hk
   exact hk.symm
  subst hc
  have hspot : a.spot = none := by
   obtain ⟨v, hv⟩ := evc_some (f 0) 0 (by decide)
   have := hf 0 (by omega) 0 (by decide)
   rw [hv] at this
   have := World.cell?_spot this
   simpa [Addr.add] using this
  obtain ⟨b, off, spot⟩ := a
  simp at hspot
  subst hspot
  refine ⟨b, off, rfl, fun j hj => ?_⟩
  have := hf k hk2 j hj
  rw [Addr.add_lit, Addr.add_lit] at this
  exact this
theorem events_openC {n : Nat} {oa : Option Addr} {len cap : Nat} {x : DataW H × List MemPlace} (h : DataW.trod enc Tryz.prog w 0 (fun _ => true) true n 22 [.slice oa len cap] = some x) : ∃ l : List Ev, l.length = len ∧ (EsAt w oa l ∧ len ≤ cap) ∧ len ≤ cap ∧ cap ≤ maxLen := by
 obtain ⟨l, h1, h2, h3, h4⟩ := events_open h
 exact ⟨l, h1, ⟨h2, h3⟩, h3, h4⟩
end
end Gu
end Go.Proofs.YtblfimobiibmjabGreat
