/- The reference's List, over this seat's program. -/
import Derived.Test.YtakbbhngcdccpaaGreatRb
namespace Go.Proofs.YtakbbhngcdccpaaGreat
open Go.ChangeShapes Go.WideShapes Go.ChangeAt Go.RowKit
namespace Ck

/-- n: how many numbers there are up to the last one that is not nought -/
def IsL (F : Nat → Int) (n : Nat) : Prop := n ≤ 256 ∧ (∀ j, n ≤ j → j < 256 → F j = 0) ∧ (n = 0 ∨ F (n - 1) ≠ 0)
/-- the first k numbers -/
def pre (F : Nat → Int) (k : Nat) : List Int := (List.range k).map F
theorem pre_length (F : Nat → Int) (k : Nat) : (pre F k).length = k := by simp [pre]
theorem nth_pre (F : Nat → Int) (k j : Nat) (h : j < k) : nth (pre F k) j = F j := by simp [nth, pre, h]
theorem pre_succ (F : Nat → Int) (k : Nat) : pre F (k + 1) = pre F k ++ [F k] := by simp [pre, List.range_succ]
theorem canon_pre (F : Nat → Int) (n : Nat) (h : IsL F n) : Canon (pre F n) := by
  have : IsT (pre F n) (pre F n).length := by
    refine ⟨Nat.le_refl _, fun j hj => nth_out _ _ hj, ?_⟩
    rw [pre_length]
    rcases h.2.2 with h | h
    · exact .inl h
    · by_cases e : n = 0
      · exact .inl e
      · right; rw [nth_pre F n _ (by omega)]; exact h
  exact this.uniq.symm
theorem nth_pre_all (F : Nat → Int) (n : Nat) (h : IsL F n) (k : Nat) (hk : k < 256) : nth (pre F n) k = F k := by
  by_cases q : k < n
  · exact nth_pre F n k q
  · rw [nth_out _ _ (by rw [pre_length]; omega), h.2.1 k (by omega) hk]

theorem owns_at {w : World} {base : Nat} {e : TypeId} {v : Value} {l : List Int} (h : w.ownsRow base e 1 v l.length (l.map (Value.int .i64))) : ∃ oa c, v = .slice oa l.length c ∧ At w oa l := by
  rcases h.2 with ⟨rfl, h0⟩ | ⟨g, cap, cur, rfl, _, hg, _, _, hcs, htk⟩
  · refine ⟨none, 0, by rw [h0], fun k hk => by omega⟩
  · refine ⟨_, cap, rfl, fun k hk => ⟨g, 0, rfl, ?_⟩⟩
    rw [Nat.zero_add, cell_of hg k]
    have : (cur.toList.take (l.length * 1))[k]? = (l.map (Value.int .i64))[k]? := by rw [htk]
    rw [List.getElem?_take] at this
    simp [hk] at this
    rw [nth_lt l k hk]
    rw [← this]

end Ck
end Go.Proofs.YtakbbhngcdccpaaGreat
