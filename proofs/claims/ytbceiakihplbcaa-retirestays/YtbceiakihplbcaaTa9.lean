/- Layer 20's laws, over this seat's program: fewer clocks; the cuts of many tids. -/
import Derived.Test.YtbceiakihplbcaaTa8
namespace Go.Proofs.Ytbceiakihplbcaa
open Go.ChangeShapes Go.WideShapes Go.ChangeAt Go.RowKit
namespace Rt
open Ck

theorem own_cap3 {w : World} {b : Nat} {e : TypeId} {sz : Nat} {oa : Option Addr} {m c n : Nat} {xs : List Value} (h : w.ownsRow b e sz (.slice oa m c) n xs) : n ≤ c ∧ c ≤ maxLen := by
  rcases h.2 with ⟨e, h0⟩ | ⟨g, cap, cur, e, -, -, h1, h2, -⟩
  · cases e; exact ⟨by omega, Nat.zero_le _⟩
  · cases e; exact ⟨h1, h2⟩
/-- what all gives, as read, with its room -/
def AlS (w : World) (l : List (List Int)) (r : Ending) (w' : World) : Prop :=
  ∃ oC cC oW cW n ks, r = .returned (.agg #[.slice oC n cC, .slice oW n cW]) ∧ KAt w' oC ks ∧ RAt w' oW ((ks.map Prod.snd).map nth) ∧ ks.map Prod.snd = lsF l ∧ ks.length = n ∧ n ≤ l.length ∧ Below w.heap.size w w' ∧ n ≤ cC ∧ cC ≤ maxLen
theorem all_read2 (w : World) (oa : Option Addr) (l : List (List Int)) (n c : Nat) (hn : l.length = n) (hl : n ≤ 100000) (hA : Ba.GAt w oa 1 (LE w) l) : Calls Try.prog 9 #[.slice oa n c] w (AlS w l) := by
  have c0 : Cx (fun k => k < w.heap.size) w (hx fun _ => none) := Cx.empty _ w fun _ h => h
  refine (all_any c0 oa l n c hn hl hA).mono ?_
  rintro r w' ⟨vC, vW, ks, h, rfl, R⟩
  obtain ⟨oC, nC, cC, rfl⟩ := own_sl3 R.oc
  obtain ⟨oW, nW, cW, rfl⟩ := own_sl3 R.ow
  obtain ⟨ka, e1⟩ := row_kat R.oc (fun z hz => (R.cx.get (hx_at (R.dom z hz))).1)
  have cp := own_cap3 R.oc
  have ow := R.ow
  have e3 : ks.length = ((lsF l).map nth).length := by rw [List.length_map, ← R.hk, List.length_map]
  rw [e3] at ow
  obtain ⟨ra_, e2⟩ := row_rat ow
  rw [← e3] at e2
  subst e1
  subst e2
  refine ⟨oC, cC, oW, cW, _, ks, rfl, ka, by rw [R.hk]; exact ra_, R.hk, rfl, ?_, R.bl, cp⟩
  have := congrArg List.length R.hk
  rw [List.length_map] at this
  rw [this]
  exact lsF_len l
theorem KAt.tail {w : World} {g off : Nat} {z : Nat × List Int} {ks : List (Nat × List Int)} (h : KAt w (some ⟨g, off, none⟩) (z :: ks)) : KAt w (some ⟨g, off + 1, none⟩) ks := by
  intro k y hk
  obtain ⟨g', off', e, c, q⟩ := h (k + 1) y (by simpa using hk)
  cases e
  refine ⟨g, off + 1, rfl, ?_, q⟩
  rw [show off + 1 + k = off + (k + 1) by omega]
  exact c
theorem cut_some {tid : Int} {l : List Int} {r Hs : List (List Int)} {cut : Int} (h : cutOf tid (l :: r) Hs = some cut) : (0 ≤ tid ∧ tid < 256) ∧ cut = gt l tid ∧ (∀ x ∈ r, gt x tid = cut) ∧ ∀ x ∈ Hs, gt x tid ≤ cut := by
  unfold cutOf at h
  split at h
  · rename_i ht
    simp only at h
    split at h
    · cases h
    · rename_i hn
      cases h
      simp only [Bool.or_eq_true, not_or, Bool.not_eq_true] at hn
      refine ⟨ht, rfl, fun x hx => ?_, fun x hx => ?_⟩
      · have := List.any_eq_false.1 hn.1 x (List.mem_cons_of_mem _ hx)
        simp [unl] at this
        exact this
      · have := List.any_eq_false.1 hn.2 x hx
        simp [abv] at this
        exact this
  · cases h
theorem cut_mk {tid : Int} {l : List Int} {r Hs : List (List Int)} {cut : Int} (ht : 0 ≤ tid ∧ tid < 256) (h : ∀ x ∈ l :: r, gt x tid = cut) (h2 : ∀ x ∈ Hs, gt x tid ≤ cut) : cutOf tid (l :: r) Hs = some cut := by
  have hl := h l (List.mem_cons_self ..)
  unfold cutOf
  rw [if_pos ht]
  simp only
  rw [if_neg, hl]
  simp only [Bool.or_eq_true, not_or, Bool.not_eq_true]
  refine ⟨List.any_eq_false.2 fun x hx => ?_, List.any_eq_false.2 fun x hx => ?_⟩
  · simp [unl, h x hx, hl]
  · simp [abv, hl]; exact h2 x hx
theorem cut_tail {tid : Int} {l y : List Int} {r Hs : List (List Int)} {cut : Int} (h : cutOf tid (l :: y :: r) Hs = some cut) : cutOf tid (y :: r) Hs = some cut := by
  obtain ⟨h1, h2, h3, h4⟩ := cut_some h
  exact cut_mk h1 h3 h4
theorem cut_nil {tid : Int} {l : List Int} {r Hs : List (List Int)} {cut : Int} (h : cutOf tid (l :: r) Hs = some cut) : cutOf tid (l :: r) [] = some cut := by
  obtain ⟨h1, h2, h3, h4⟩ := cut_some h
  exact cut_mk h1 (fun x hx => by
    rcases List.mem_cons.1 hx with rfl | q
    · exact h2.symm
    · exact h3 x q) (by simp)
end Rt
end Go.Proofs.Ytbceiakihplbcaa
