/- Layer 20's laws, over this seat's program: all, as the laws read it. -/
import Derived.Test.YtbceiakihplbcaaTa7
namespace Go.Proofs.Ytbceiakihplbcaa
open Go.ChangeShapes Go.WideShapes Go.ChangeAt Go.RowKit
namespace Rt
open Ck

theorem lsF_le {l : List (List Int)} : ∀ x ∈ lsF l, x.length ≤ 256 := by
  intro x hx
  obtain ⟨y, hy, rfl⟩ := List.mem_map.1 hx
  have h := (List.mem_filter.1 hy).2
  have : y.length ≤ 256 ∧ Valid y := by
    unfold gd at h
    exact @of_decide_eq_true _ (Classical.propDecidable _) h
  rw [trm_length]
  exact Nat.le_trans (tlen_le y) this.1
theorem rg_gt {l : List Int} (h : l.length ≤ 256) (t : Int) : rg (nth l) t = gt l t := by
  by_cases h0 : t < 0
  · rw [gt_neg _ _ h0, rg_out _ _ (.inl h0)]
  · obtain ⟨k, rfl⟩ := Int.eq_ofNat_of_zero_le (by omega : 0 ≤ t)
    rw [gt_nat]
    by_cases h1 : k < 256
    · rw [rg_nat _ k h1]
    · rw [rg_out _ _ (.inr (by omega)), nth_out _ _ (by omega)]
/-- what all gives, as read -/
def AlR (w : World) (l : List (List Int)) (r : Ending) (w' : World) : Prop :=
  ∃ oC cC oW cW n ks, r = .returned (.agg #[.slice oC n cC, .slice oW n cW]) ∧ KAt w' oC ks ∧ RAt w' oW ((ks.map Prod.snd).map nth) ∧ ks.map Prod.snd = lsF l ∧ ks.length = n ∧ n ≤ l.length ∧ Below w.heap.size w w'
theorem all_read (w : World) (oa : Option Addr) (l : List (List Int)) (n c : Nat) (hn : l.length = n) (hl : n ≤ 100000) (hA : Ba.GAt w oa 1 (LE w) l) : Calls Try.prog 9 #[.slice oa n c] w (AlR w l) := by
  have c0 : Cx (fun k => k < w.heap.size) w (hx fun _ => none) := Cx.empty _ w fun _ h => h
  refine (all_any c0 oa l n c hn hl hA).mono ?_
  rintro r w' ⟨vC, vW, ks, h, rfl, R⟩
  obtain ⟨oC, nC, cC, rfl⟩ := own_sl3 R.oc
  obtain ⟨oW, nW, cW, rfl⟩ := own_sl3 R.ow
  obtain ⟨ka, e1⟩ := row_kat R.oc (fun z hz => (R.cx.get (hx_at (R.dom z hz))).1)
  have ow := R.ow
  have e3 : ks.length = ((lsF l).map nth).length := by rw [List.length_map, ← R.hk, List.length_map]
  rw [e3] at ow
  obtain ⟨ra_, e2⟩ := row_rat ow
  rw [← e3] at e2
  subst e1
  subst e2
  refine ⟨oC, cC, oW, cW, _, ks, rfl, ka, by rw [R.hk]; exact ra_, R.hk, rfl, ?_, R.bl⟩
  have := congrArg List.length R.hk
  rw [List.length_map] at this
  rw [this]
  exact lsF_len l
end Rt
end Go.Proofs.Ytbceiakihplbcaa
