/- The laws' own large(), over this seat's program. -/
import Derived.Test.YtkcbokhkmcmpdaaGreatZjLoom10
import Derived.Test.YtkcbokhkmcmpdaaGreatHo
namespace Go.Proofs.YtkcbokhkmcmpdaaGreat
open Go.ChangeShapes Go.WideShapes Go.ChangeAt Go.RowKit
namespace Lo
open Sh De Ba

set_option maxRecDepth 100000 in
set_option maxHeartbeats 3200000 in
theorem large13 (T M : Int) (ps : List (List OpD)) (pl dr : List Int) (pa la da : Option Addr) (pc lc dc : Nat) (w : World) (hS : SAt w ⟨T, M, ps, pl, dr⟩ pa la da) (hB : Held ps) :
    Calls Tryz.prog 9 #[.agg #[.int .i64 T, .int .i64 M, .slice pa ps.length pc, .slice la pl.length lc, .slice da dr.length dc]] w fun r w' => LR ps pl dr r ∧ Below w.heap.size w w' := by
  have S0 := hide (hS.below (below_alloc w (.cells #[.int .i64 T, .int .i64 M, .slice pa ps.length pc, .slice la pl.length lc, .slice da dr.length dc] 25)))
  have B0 := hide (below_alloc w (.cells #[.int .i64 T, .int .i64 M, .slice pa ps.length pc, .slice la pl.length lc, .slice da dr.length dc] 25))
  have X0 := hide (heap_new w (.cells #[.int .i64 T, .int .i64 M, .slice pa ps.length pc, .slice la pl.length lc, .slice da dr.length dc] 25))
  have h1 := hS.h1
  have h2 := hS.h2
  have h3 := hS.h3
  unfold maxLen at h1 h2 h3
  simp only at h1 h2 h3
  have HB := hide hB
  clear hS hB
  by_cases n1 : 20 < ps.length
  · have g1 : decide (20 < (ps.length : Int)) = true := by simp; omega
    go_enter Tryz.func9, Tryz.ntmps9
    go_wp2_with fail
    go_ret
    exact ⟨⟨true, rfl, fun e => by cases e⟩, B0.out⟩
  have g1 : decide (20 < (ps.length : Int)) = false := by simp; omega
  by_cases n2 : 1000 < pl.length
  · have g2 : decide (1000 < (pl.length : Int)) = true := by simp; omega
    go_enter Tryz.func9, Tryz.ntmps9
    go_wp2_with fail
    go_ret
    exact ⟨⟨true, rfl, fun e => by cases e⟩, B0.out⟩
  have g2 : decide (1000 < (pl.length : Int)) = false := by simp; omega
  by_cases n3 : 1000 < dr.length
  · have g3 : decide (1000 < (dr.length : Int)) = true := by simp; omega
    go_enter Tryz.func9, Tryz.ntmps9
    go_wp2_with fail
    go_ret
    exact ⟨⟨true, rfl, fun e => by cases e⟩, B0.out⟩
  have g3 : decide (1000 < (dr.length : Int)) = false := by simp; omega
  go_enter Tryz.func9, Tryz.ntmps9
  go_wp2_with fail
  generalize w.alloc (.cells #[.int .i64 T, .int .i64 M, .slice pa ps.length pc, .slice la pl.length lc, .slice da dr.length dc] 25) = W at S0 B0 X0 ⊢
  obtain ⟨x0, x1, x2, x3, x4⟩ := sc_cells X0.out
  go_loopw [27, 3] (fun i a wr => ∃ (k n : Nat), k ≤ ps.length ∧ i = .int .i64 k ∧ a = .int .i64 n ∧ n ≤ 3000 ∧ (∀ (t : Nat) (q : List OpD), t < k → ps[t]? = some q → q.length ≤ 100 ∧ ∀ o ∈ q, o.cases.length ≤ 3000) ∧ Below W.heap.size W wr) (fun i _ _ => ps.length - (intOf i).toNat)
  case atStart => exact ⟨0, 0, Nat.zero_le _, rfl, rfl, by decide, fun t q ht => absurd ht (Nat.not_lt_zero _), Below.refl _ _⟩
  case round =>
    rename World => w5
    obtain ⟨k, n, hk, rfl, rfl, hn, hall, b5⟩ := hrel
    have HE := hide hall
    have B5 := hide b5
    clear hall b5
    by_cases hlt : k < ps.length
    · have hlt' : (k : Int) < (ps.length : Int) := by omega
      obtain ⟨q, hq⟩ : ∃ q, ps[k]? = some q := ⟨ps[k], by simp [hlt]⟩
      obtain ⟨b, off, qa, qc, e1, c1, hO, m1⟩ := (S0.out.below B5.out).ps k q hq
      subst e1
      have HQ := hide hq
      have HO := hide hO
      unfold maxLen at m1
      clear hq hO
      by_cases hl : 100 < q.length
      · have hl' : decide (100 < (q.length : Int)) = true := by simp; omega
        go_wp2_with fail
        go_ret
        exact ⟨⟨true, rfl, fun e => by cases e⟩, btr B0.out B5.out⟩
      · have hl' : decide (100 < (q.length : Int)) = false := by simp; omega
        go_wp2_with fail
        go_loopw [36, 3] (fun i a wr => ∃ (j m : Nat), j ≤ q.length ∧ i = .int .i64 j ∧ a = .int .i64 m ∧ m ≤ 3000 ∧ (∀ (t : Nat) (o : OpD), t < j → q[t]? = some o → o.cases.length ≤ 3000) ∧ Below w5.heap.size w5 wr) (fun i _ _ => q.length - (intOf i).toNat)
        case atStart => exact ⟨0, n, Nat.zero_le _, rfl, rfl, hn, fun t o ht => absurd ht (Nat.not_lt_zero _), Below.refl _ _⟩
        case round =>
          obtain ⟨j, m, hj, rfl, rfl, hm, hal2, b6⟩ := hrel
          have HF := hide hal2
          have B6 := hide b6
          clear hal2 b6
          by_cases hjl : j < q.length
          · have hjl' : (j : Int) < (q.length : Int) := by omega
            obtain ⟨o, ho⟩ : ∃ o, q[j]? = some o := ⟨q[j], by simp [hjl]⟩
            obtain ⟨b', off', ca, cc, e2, ⟨y0, y1, y2, y3, y4⟩, hC, hM⟩ := (HO.out.below B6.out) j o ho
            subst e2
            have hM2 := HB.out q (List.mem_of_getElem? HQ.out) o (List.mem_of_getElem? ho)
            have HX := hide ho
            clear hM
            have B7 := hide (btr B6.out (below_alloc wr (.cells #[.int .i64 o.kind, .int .i64 o.a, .int .i64 o.b, .slice ca o.cases.length cc, .bool o.def_] 44)))
            clear ho hC
            by_cases hc : 3000 < m + o.cases.length
            · have hc' : decide (3000 < (m : Int) + (o.cases.length : Int)) = true := by simp; omega
              go_wp2_with fail
              go_ret
              exact ⟨⟨true, rfl, fun e => by cases e⟩, btr B0.out (btr B5.out B7.out)⟩
            · have hc' : decide (3000 < (m : Int) + (o.cases.length : Int)) = false := by simp; omega
              go_wp2_with fail
              go_roundw
              case rel => exact ⟨j + 1, m + o.cases.length, by omega, by go_num, by go_num, by omega, fun t x ht hx => by
                by_cases e : t = j
                · subst e; rw [HX.out] at hx; cases hx; omega
                · exact HF.out t x (by omega) hx, B7.out⟩
              case measure => simp [intOf]; omega
          · have hjl' : ¬ ((j : Int) < (q.length : Int)) := by omega
            go_wp2_with fail
            go_roundw
            case rel => exact ⟨k + 1, m, by omega, by go_num, rfl, hm, fun t x ht hx => by
              by_cases e : t = k
              · subst e; rw [HQ.out] at hx; cases hx
                exact ⟨by omega, fun o ho => by
                  obtain ⟨i, hi⟩ := List.mem_iff_getElem?.1 ho
                  exact HF.out i o (by have := (List.getElem?_eq_some_iff.1 hi).1; omega) hi⟩
              · exact HE.out t x (by omega) hx, btr B5.out B6.out⟩
            case measure => simp [intOf]; omega
    · have hlt' : ¬ ((k : Int) < (ps.length : Int)) := by omega
      have SM : Hid (Small ps pl dr) := by
        have key : ∀ q ∈ ps, q.length ≤ 100 ∧ ∀ o ∈ q, o.cases.length ≤ 3000 := fun q hq => by
          obtain ⟨t, ht⟩ := List.mem_iff_getElem?.1 hq
          exact HE.out t q (by have := (List.getElem?_eq_some_iff.1 ht).1; omega) ht
        exact ⟨by omega, fun q hq => (key q hq).1, fun q hq => (key q hq).2, by omega, by omega⟩
      go_wp2_with fail
      go_ret
      exact ⟨⟨false, rfl, fun _ => SM.out⟩, btr B0.out B5.out⟩
end Lo
end Go.Proofs.YtkcbokhkmcmpdaaGreat
