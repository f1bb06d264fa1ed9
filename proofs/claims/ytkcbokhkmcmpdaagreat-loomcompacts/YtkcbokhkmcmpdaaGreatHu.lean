/- The reference's Check of a script, over this seat's program. -/
import Derived.Test.YtkcbokhkmcmpdaaGreatZjLoom10
import Derived.Test.YtkcbokhkmcmpdaaGreatHt
import Derived.Test.YtkcbokhkmcmpdaaGreatDo
namespace Go.Proofs.YtkcbokhkmcmpdaaGreat
open Go.ChangeShapes Go.WideShapes Go.ChangeAt Go.RowKit
namespace Sh
open De Ba Re

section
variable {T M : Int} {ps : List (List OpD)} {pl dr : List Int}
theorem schk_1 (h : T < 1 ∨ 256 < T ∨ M < 1 ∨ 1048576 < M) : schk ⟨T, M, ps, pl, dr⟩ = 1 := by
  have : ((decide (1 ≤ T) && decide (T ≤ 256)) && (decide (1 ≤ M) && decide (M ≤ 1048576))) = false := by
    simp
    omega
  simp only [schk, this]
  rfl
theorem good_tm (h : (1 ≤ T ∧ T ≤ 256) ∧ 1 ≤ M ∧ M ≤ 1048576) : ((decide (1 ≤ T) && decide (T ≤ 256)) && (decide (1 ≤ M) && decide (M ≤ 1048576))) = true := by
  simp
  omega
theorem schk_2 (h : (1 ≤ T ∧ T ≤ 256) ∧ 1 ≤ M ∧ M ≤ 1048576) (h2 : isl ps pl.length dr.length = true) : schk ⟨T, M, ps, pl, dr⟩ = 2 := by
  simp only [schk, good_tm h, h2]
  rfl
theorem schk_4a (h : (1 ≤ T ∧ T ≤ 256) ∧ 1 ≤ M ∧ M ≤ 1048576) (h2 : isl ps pl.length dr.length = false) (h3 : ps.length = 0) : schk ⟨T, M, ps, pl, dr⟩ = 4 := by
  simp only [schk, good_tm h, h2]
  simp [h3]
theorem schk_4c (h : (1 ≤ T ∧ T ≤ 256) ∧ 1 ≤ M ∧ M ≤ 1048576) (h2 : isl ps pl.length dr.length = false) (h3 : ari ps.length ps = false) : schk ⟨T, M, ps, pl, dr⟩ = 4 := by
  simp only [schk, good_tm h, h2, h3]
  simp
theorem schk_4b (h : (1 ≤ T ∧ T ≤ 256) ∧ 1 ≤ M ∧ M ≤ 1048576) (h2 : isl ps pl.length dr.length = false) (h3 : ab (-1) 1000 pl = false ∨ ab 0 1000 dr = false) : schk ⟨T, M, ps, pl, dr⟩ = 4 := by
  have : (ab (-1) 1000 pl && ab 0 1000 dr) = false := by
    rcases h3 with h3 | h3 <;> simp [h3]
  simp only [schk, good_tm h, h2, this]
  cases (!(!decide (ps.length = 0) && ari ps.length ps)) <;> rfl
theorem ab_no {lo hi : Int} {l : List Int} {k : Nat} (hk : k < l.length) (h : nth l k < lo ∨ hi < nth l k) : ab lo hi l = false := by
  rw [← Bool.not_eq_true]
  intro e
  have := ab_nth.1 e k hk
  omega
theorem ret_int {a b : Int} (h : a = b) : Ending.returned (.int .i64 b) = Ending.returned (.int .i64 a) := by rw [h]
end

set_option maxRecDepth 100000 in
set_option maxHeartbeats 6400000 in
theorem rscheck_any (T M : Int) (ps : List (List OpD)) (pl dr : List Int) (pa la da : Option Addr) (pc lc dc : Nat) (w : World) (hS : SAt w ⟨T, M, ps, pl, dr⟩ pa la da) :
    Calls Tryz.prog 29 #[.agg #[.int .i64 T, .int .i64 M, .slice pa ps.length pc, .slice la pl.length lc, .slice da dr.length dc]] w fun r w' => r = .returned (.int .i64 (schk ⟨T, M, ps, pl, dr⟩)) ∧ Below w.heap.size w w' := by
  have S0 := hide (hS.below (below_alloc w (.cells #[.int .i64 T, .int .i64 M, .slice pa ps.length pc, .slice la pl.length lc, .slice da dr.length dc] 25)))
  have B0 := hide (below_alloc w (.cells #[.int .i64 T, .int .i64 M, .slice pa ps.length pc, .slice la pl.length lc, .slice da dr.length dc] 25))
  have X0 := hide (heap_new w (.cells #[.int .i64 T, .int .i64 M, .slice pa ps.length pc, .slice la pl.length lc, .slice da dr.length dc] 25))
  have h1 := hS.h1
  have h2 := hS.h2
  have h3 := hS.h3
  unfold maxLen at h1 h2 h3
  simp only at h1 h2 h3
  clear hS
  by_cases a1 : T < 1
  · have g1 : decide (T < 1) = true := by simpa using a1
    go_enter Tryz.func29, Tryz.ntmps29
    go_wp2_with fail
    go_ret
    exact ⟨ret_int (schk_1 (Or.inl a1)), B0.out⟩
  have g1 : decide (T < 1) = false := by simpa using a1
  by_cases a2 : 256 < T
  · have g2 : decide (256 < T) = true := by simpa using a2
    go_enter Tryz.func29, Tryz.ntmps29
    go_wp2_with fail
    go_ret
    exact ⟨ret_int (schk_1 (Or.inr (Or.inl a2))), B0.out⟩
  have g2 : decide (256 < T) = false := by simpa using a2
  by_cases a3 : M < 1
  · have g3 : decide (M < 1) = true := by simpa using a3
    go_enter Tryz.func29, Tryz.ntmps29
    go_wp2_with fail
    go_ret
    exact ⟨ret_int (schk_1 (Or.inr (Or.inr (Or.inl a3)))), B0.out⟩
  have g3 : decide (M < 1) = false := by simpa using a3
  by_cases a4 : 1048576 < M
  · have g4 : decide (1048576 < M) = true := by simpa using a4
    go_enter Tryz.func29, Tryz.ntmps29
    go_wp2_with fail
    go_ret
    exact ⟨ret_int (schk_1 (Or.inr (Or.inr (Or.inr a4)))), B0.out⟩
  have g4 : decide (1048576 < M) = false := by simpa using a4
  have TM : Hid ((1 ≤ T ∧ T ≤ 256) ∧ 1 ≤ M ∧ M ≤ 1048576) := by
    show _ ∧ _
    omega
  clear a1 a2 a3 a4
  by_cases n1 : 8 < ps.length
  · have q1 : decide (8 < (ps.length : Int)) = true := by simp; omega
    go_enter Tryz.func29, Tryz.ntmps29
    go_wp2_with fail
    go_ret
    exact ⟨ret_int (schk_2 TM.out (by simp [isl, n1])), B0.out⟩
  have q1 : decide (8 < (ps.length : Int)) = false := by simp; omega
  by_cases n2 : 200 < pl.length
  · have q2 : decide (200 < (pl.length : Int)) = true := by simp; omega
    go_enter Tryz.func29, Tryz.ntmps29
    go_wp2_with fail
    go_ret
    exact ⟨ret_int (schk_2 TM.out (by simp [isl, n2])), B0.out⟩
  have q2 : decide (200 < (pl.length : Int)) = false := by simp; omega
  by_cases n3 : 64 < dr.length
  · have q3 : decide (64 < (dr.length : Int)) = true := by simp; omega
    go_enter Tryz.func29, Tryz.ntmps29
    go_wp2_with fail
    go_ret
    exact ⟨ret_int (schk_2 TM.out (by simp [isl, n3])), B0.out⟩
  have q3 : decide (64 < (dr.length : Int)) = false := by simp; omega
  go_enter Tryz.func29, Tryz.ntmps29
  go_wp2_with fail
  generalize w.alloc (.cells #[.int .i64 T, .int .i64 M, .slice pa ps.length pc, .slice la pl.length lc, .slice da dr.length dc] 25) = W at S0 B0 X0 ⊢
  obtain ⟨x0, x1, x2, x3, x4⟩ := sc_cells X0.out
  go_loop [50] (fun i => ∃ k : Nat, k ≤ ps.length ∧ i = .int .i64 k ∧ ∀ (j : Nat) (q : List OpD), j < k → ps[j]? = some q → q.length ≤ 32) (fun i => ps.length - (intOf i).toNat)
  case atStart => exact ⟨0, Nat.zero_le _, rfl, fun j q hj => absurd hj (Nat.not_lt_zero _)⟩
  case round =>
    obtain ⟨k, hk, rfl, hall⟩ := hrel
    have HE := hide hall
    clear hall
    by_cases hlt : k < ps.length
    · have hlt' : (k : Int) < (ps.length : Int) := by omega
      obtain ⟨q, hq⟩ : ∃ q, ps[k]? = some q := ⟨ps[k], by simp [hlt]⟩
      obtain ⟨b, off, qa, qc, e1, c1, hO, m1⟩ := S0.out.ps k q hq
      subst e1
      have HQ := hide hq
      unfold maxLen at m1
      clear hq hO
      by_cases hl : 32 < q.length
      · have hl' : decide (32 < (q.length : Int)) = true := by simp; omega
        go_wp2_with fail
        go_ret
        exact ⟨ret_int (schk_2 TM.out (isl_long HQ.out hl)), B0.out⟩
      · have hl' : decide (32 < (q.length : Int)) = false := by simp; omega
        go_wp2_with fail
        go_round
        case rel => exact ⟨k + 1, by omega, by go_num, fun j x hj hx => by
          by_cases e : j = k
          · subst e; rw [HQ.out] at hx; cases hx; omega
          · exact HE.out j x (by omega) hx⟩
        case measure => simp [intOf]; omega
    · have hlt' : ¬ ((k : Int) < (ps.length : Int)) := by omega
      have IS : Hid (isl ps pl.length dr.length = false) := by
        show _ = _
        rw [isl_short fun j q hq => HE.out j q (by have := (List.getElem?_eq_some_iff.1 hq).1; omega) hq]
        simp
        omega
      clear hlt
      by_cases z : ps.length = 0
      · have Z := hide z
        have z' : ((ps.length : Int) == 0) = true := by simpa using z
        clear z
        go_wp2_with fail
        go_ret
        exact ⟨ret_int (schk_4a TM.out IS.out Z.out), B0.out⟩
      have z' : ((ps.length : Int) == 0) = false := by simpa using z
      clear HE
      go_wp2_with fail
      clear hlt' hk
      go_loopw [65] (fun i wr => ∃ k : Nat, k ≤ ps.length ∧ i = .int .i64 k ∧ (∀ (j : Nat) (q : List OpD), j < k → ps[j]? = some q → ∀ (i : Nat) (o : OpD), q[i]? = some o → chk o ps.length = 0) ∧ Below W.heap.size W wr) (fun i _ => ps.length - (intOf i).toNat)
      case atStart => exact ⟨0, Nat.zero_le _, rfl, fun j q hj => absurd hj (Nat.not_lt_zero _), Below.refl _ _⟩
      case round =>
        rename World => w0
        obtain ⟨k, hk, rfl, hall, bw⟩ := hrel
        have HE := hide hall
        have BW := hide bw
        clear hall bw
        by_cases hlt : k < ps.length
        · have hlt' : (k : Int) < (ps.length : Int) := by omega
          obtain ⟨q, hq⟩ : ∃ q, ps[k]? = some q := ⟨ps[k], by simp [hlt]⟩
          obtain ⟨b, off, qa, qc, e1, hc, hO, hm⟩ := (S0.out.ps.below BW.out) k q hq
          subst e1
          have HQ := hide hq
          have HO := hide hO
          unfold maxLen at hm
          clear hq hO
          go_wp2_with fail
          go_loopw [71] (fun i wr => ∃ j : Nat, j ≤ q.length ∧ i = .int .i64 j ∧ (∀ (t : Nat) (o : OpD), t < j → q[t]? = some o → chk o ps.length = 0) ∧ Below w0.heap.size w0 wr) (fun i _ => q.length - (intOf i).toNat)
          case atStart => exact ⟨0, Nat.zero_le _, rfl, fun j q hj => absurd hj (Nat.not_lt_zero _), Below.refl _ _⟩
          case round =>
            obtain ⟨j, hj, rfl, hall, bw2⟩ := hrel
            have HF := hide hall
            have B2 := hide bw2
            clear hall bw2
            by_cases hjl : j < q.length
            · have hjl' : (j : Int) < (q.length : Int) := by omega
              obtain ⟨o, ho⟩ : ∃ o, q[j]? = some o := ⟨q[j], by simp [hjl]⟩
              obtain ⟨b', off', ca, cc, e2, ⟨y0, y1, y2, y3, y4⟩, hC, hM⟩ := (HO.out.below B2.out) j o ho
              subst e2
              have HX := hide ho
              have HC := hide hC
              have HM := hide hM
              clear ho hC hM
              have B3 := hide (btr B2.out (below_alloc wr (.cells #[.int .i64 o.kind, .int .i64 o.a, .int .i64 o.b, .slice ca o.cases.length cc, .bool o.def_] 44)))
              have C3 := hide (HC.out.below (below_alloc wr (.cells #[.int .i64 o.kind, .int .i64 o.a, .int .i64 o.b, .slice ca o.cases.length cc, .bool o.def_] 44)))
              have X3 := hide (heap_below (heap_below X0.out BW.out) B3.out)
              obtain ⟨v0, v1, v2, v3, v4⟩ := sc_cells X3.out
              cases hz : chk o ps.length == 0
              · have hz' : (chk o ps.length != 0) = true := by simp [bne, hz]
                have HZ := hide hz
                clear hz
                go_wp2_with fail
                refine (rcheck_any o ca cc _ _ C3.out HM.out).mono ?_
                rintro r w4 ⟨rfl, b4⟩
                have B4 := hide (btr B3.out b4)
                clear b4
                go_wp2_with fail
                go_ret
                exact ⟨ret_int (schk_4c TM.out IS.out (ari_no HQ.out HX.out HZ.out)), btr B0.out (btr BW.out B4.out)⟩
              · have hz' : (chk o ps.length != 0) = false := by simp [bne, hz]
                have HZ : Hid (chk o ps.length = 0) := by show _ = _; simpa using hz
                clear hz
                go_wp2_with fail
                refine (rcheck_any o ca cc _ _ C3.out HM.out).mono ?_
                rintro r w4 ⟨rfl, b4⟩
                have B4 := hide (btr B3.out b4)
                clear b4
                go_wp2_with fail
                go_roundw
                case rel => exact ⟨j + 1, by omega, by go_num, fun t x ht hx => by
                  by_cases e : t = j
                  · subst e; rw [HX.out] at hx; cases hx; exact HZ.out
                  · exact HF.out t x (by omega) hx, B4.out⟩
                case measure => simp [intOf]; omega
            · have hjl' : ¬ ((j : Int) < (q.length : Int)) := by omega
              go_wp2_with fail
              go_roundw
              case rel =>
                exact ⟨k + 1, by omega, by go_num, fun t r ht hr i o ho => by
                  by_cases e : t = k
                  · subst e; rw [HQ.out] at hr; cases hr
                    exact HF.out i o (by have := (List.getElem?_eq_some_iff.1 ho).1; omega) ho
                  · exact HE.out t r (by omega) hr i o ho, btr BW.out B2.out⟩
              case measure => simp [intOf]; omega
        · have hlt' : ¬ ((k : Int) < (ps.length : Int)) := by omega
          have AR : Hid (ari ps.length ps = true) := ari_yes fun t q hq j o ho => HE.out t q (by have := (List.getElem?_eq_some_iff.1 hq).1; omega) hq j o ho
          have X5 := hide (heap_below X0.out BW.out)
          have L5 := hide (S0.out.below BW.out).pl
          have D5 := hide (S0.out.below BW.out).dr
          have B5 := hide (btr B0.out BW.out)
          clear HE S0 B0 X0 BW x0 x1 x2 x3 x4
          obtain ⟨x0, x1, x2, x3, x4⟩ := sc_cells X5.out
          go_wp2_with fail
          go_loop [86] (fun i => ∃ k : Nat, k ≤ pl.length ∧ i = .int .i64 k ∧ ∀ j, j < k → -1 ≤ nth pl j ∧ nth pl j ≤ 1000) (fun i => pl.length - (intOf i).toNat)
          case atStart => exact ⟨0, Nat.zero_le _, rfl, fun j hj => absurd hj (Nat.not_lt_zero _)⟩
          case round =>
            obtain ⟨k, hk, rfl, hall⟩ := hrel
            have HE := hide hall
            clear hall
            by_cases hlt : k < pl.length
            · have hlt' : (k : Int) < (pl.length : Int) := by omega
              obtain ⟨b1, o1, e, hc1⟩ := L5.out k hlt
              subst e
              by_cases u1 : nth pl k < -1
              · have u1' : decide (nth pl k < -1) = true := by simpa using u1
                go_wp2_with fail
                go_ret
                exact ⟨ret_int (schk_4b TM.out IS.out (Or.inl (ab_no hlt (Or.inl u1)))), B5.out⟩
              have u1' : decide (nth pl k < -1) = false := by simpa using u1
              by_cases u2 : 1000 < nth pl k
              · have u2' : decide (1000 < nth pl k) = true := by simpa using u2
                go_wp2_with fail
                go_ret
                exact ⟨ret_int (schk_4b TM.out IS.out (Or.inl (ab_no hlt (Or.inr u2)))), B5.out⟩
              have u2' : decide (1000 < nth pl k) = false := by simpa using u2
              go_wp2_with fail
              go_round
              case rel => exact ⟨k + 1, by omega, by go_num, fun j hj => by
                by_cases e : j = k
                · subst e; omega
                · exact HE.out j (by omega)⟩
              case measure => simp [intOf]; omega
            · have hlt' : ¬ ((k : Int) < (pl.length : Int)) := by omega
              have AP : Hid (ab (-1) 1000 pl = true) := ab_nth.2 fun j hj => HE.out j (by omega)
              clear HE
              go_wp2_with fail
              go_loop [100] (fun i => ∃ k : Nat, k ≤ dr.length ∧ i = .int .i64 k ∧ ∀ j, j < k → 0 ≤ nth dr j ∧ nth dr j ≤ 1000) (fun i => dr.length - (intOf i).toNat)
              case atStart => exact ⟨0, Nat.zero_le _, rfl, fun j hj => absurd hj (Nat.not_lt_zero _)⟩
              case round =>
                obtain ⟨k, hk, rfl, hall⟩ := hrel
                have HE := hide hall
                clear hall
                by_cases hlt : k < dr.length
                · have hlt' : (k : Int) < (dr.length : Int) := by omega
                  obtain ⟨b1, o1, e, hc1⟩ := D5.out k hlt
                  subst e
                  by_cases u1 : nth dr k < 0
                  · have u1' : decide (nth dr k < 0) = true := by simpa using u1
                    go_wp2_with fail
                    go_ret
                    exact ⟨ret_int (schk_4b TM.out IS.out (Or.inr (ab_no hlt (Or.inl u1)))), B5.out⟩
                  have u1' : decide (nth dr k < 0) = false := by simpa using u1
                  by_cases u2 : 1000 < nth dr k
                  · have u2' : decide (1000 < nth dr k) = true := by simpa using u2
                    go_wp2_with fail
                    go_ret
                    exact ⟨ret_int (schk_4b TM.out IS.out (Or.inr (ab_no hlt (Or.inr u2)))), B5.out⟩
                  have u2' : decide (1000 < nth dr k) = false := by simpa using u2
                  go_wp2_with fail
                  go_round
                  case rel => exact ⟨k + 1, by omega, by go_num, fun j hj => by
                    by_cases e : j = k
                    · subst e; omega
                    · exact HE.out j (by omega)⟩
                  case measure => simp [intOf]; omega
                · have hlt' : ¬ ((k : Int) < (dr.length : Int)) := by omega
                  have AD : Hid (ab 0 1000 dr = true) := ab_nth.2 fun j hj => HE.out j (by omega)
                  have F : Hid (schk ⟨T, M, ps, pl, dr⟩ = 0) := by
                    show _ = _
                    have e3 : decide (ps.length = 0) = false := by simpa using z
                    unfold schk
                    simp only [good_tm TM.out, IS.out, AR.out, AP.out, AD.out, e3]
                    rfl
                  go_wp2_with fail
                  go_ret
                  exact ⟨ret_int F.out, B5.out⟩
end Sh
end Go.Proofs.YtkcbokhkmcmpdaaGreat
