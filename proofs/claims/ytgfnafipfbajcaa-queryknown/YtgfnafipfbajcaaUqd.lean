/- Query and its reference say the same (plain). -/
import Derived.Test.YtgfnafipfbajcaaUqc
namespace Go.Proofs.Ytgfnafipfbajcaa
open Go.ChangeShapes Go.WideShapes Go.ChangeAt Go.RowKit
namespace Qu
open Ba Rk
open Ep (tidOf clkOf ownB)

theorem tid_iff (e : Int) : decide (0 ≤ tidOf e) = ownB e := by
  cases h : ownB e
  · rw [Ep.tid_not e h]; rfl
  · rw [Ep.tid_own e h]
    have := Ep.own_bd e h
    simp; omega
theorem rask_is (rs : List Rd) (x : Ex) (y : Sx) : rask rs x (rfs y) = (ask rs x y).isSome := by
  unfold rask ask rfs
  by_cases k : x.k = 13
  · simp [k]
  · rw [if_neg k, if_neg k]
    simp only
    rw [tid_iff]
    rcases oi_fd rs x.g with ⟨e1, e2⟩ | ⟨i, r, e1, e2, -⟩
    · rw [e1, e2]; cases ownB y.e <;> rfl
    · rw [e1, e2]; cases ownB y.e <;> simp
theorem rkn_is (rs : List Rd) (b : Int) (z : Ex) (u : Sx) (g : Int) : rknV rs b z (rfs u) g = knV rs b z u g ∧ rknE rs z (rfs u) g = knE rs z u g := by
  unfold rknV knV rknE knE
  rw [rask_is]
  exact ⟨rfl, rfl⟩
theorem rbf_is (rs : List Rd) (a b : Nat) (x z : Ex) (y u : Sx) : rbfB rs a b x z (rfs y) (rfs u) = befB rs a b x z y u ∧ rbfE rs x z (rfs y) (rfs u) = befE rs x z y u := by
  unfold rbfB rbfE befB befE
  rw [rask_is, rask_is, (rkn_is rs (b : Int) z u x.g).1, (rkn_is rs (b : Int) z u x.g).2]
  cases hA : ask rs x y with
  | none => simp
  | some r =>
    have s := ask_some (rs := rs) (x := x) (y := y) (by rw [hA]; rfl)
    rw [hA] at s
    cases hB : (ask rs z u).isSome with
    | false => simp
    | true =>
      simp only [Option.isSome_some, Bool.and_self, if_true]
      by_cases g : x.g = z.g
      · simp [g]
      · rw [if_neg g, if_neg g, if_neg g]
        unfold knV knE
        rw [hB, ← s.1]
        simp only [if_true, Option.isSome_some, Bool.and_self, and_true]
        have o := Ep.own_bd _ s.2
        have : decide (1 ≤ clkOf y.e) = true := by rw [Ep.clk_own _ s.2]; exact decide_eq_true o.2.2.1
        rw [this, Bool.true_and]
        rfl
end Qu
end Go.Proofs.Ytgfnafipfbajcaa
