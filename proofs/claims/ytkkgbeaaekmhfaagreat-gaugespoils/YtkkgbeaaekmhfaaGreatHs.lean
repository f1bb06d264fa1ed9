/- A bare script: small, right, its own bare one; Copy and Bare by what lies in memory. -/
import Derived.Test.YtkkgbeaaekmhfaaGreatZjGl12
namespace Go.Proofs.YtkkgbeaaekmhfaaGreat
open Go.ChangeShapes Go.WideShapes Go.ChangeAt Go.RowKit
namespace Sh
open De Ba Re

theorem at_heap {w : World} {D : Nat} {l : List Int} {t : TypeId} (h : w.heap[D]? = some (.cells (row l) t (0, 0))) : At w (some ⟨D, 0, none⟩) l := by
  intro k hk
  refine ⟨D, 0, rfl, ?_⟩
  have := cell_of h k
  rw [Nat.zero_add]
  rw [this, row, List.getElem?_toArray, List.getElem?_map, List.getElem?_eq_getElem hk, nth_lt l k hk]
  rfl
theorem bar_le (l : List Int) : (bar l).length ≤ l.length := List.length_filter_le ..
theorem bar_bar (l : List Int) : bar (bar l) = bar l := by simp [bar]
theorem bar_mem {l : List Int} {x : Int} (h : x ∈ bar l) : x ∈ l ∧ x ≠ -1 := by
  rw [bar, List.mem_filter] at h
  exact ⟨h.1, by simpa using h.2⟩
theorem bar_nth (l : List Int) (k : Nat) (h : k < (bar l).length) : nth (bar l) k ≠ -1 := by
  rw [nth_lt _ k h]
  exact (bar_mem (List.getElem_mem h)).2
theorem Small.bar {ps : List (List OpD)} {pl dr : List Int} (h : Small ps pl dr) : Small ps (bar pl) dr := ⟨h.n, h.q, h.c, Nat.le_trans (bar_le pl) h.p, h.d⟩
theorem schk_of {s : Sc} (h1 : 1 ≤ s.T ∧ s.T ≤ 256) (h2 : 1 ≤ s.M ∧ s.M ≤ 1048576) (h3 : ∀ q ∈ s.ps, q.length ≤ 32) (h4 : s.ps.length ≤ 8) (h5 : s.pl.length ≤ 200) (h6 : s.dr.length ≤ 64) (h7 : 0 < s.ps.length) (h8 : ari s.ps.length s.ps = true) (h9 : ab (-1) 1000 s.pl = true) (h10 : ab 0 1000 s.dr = true) : schk s = 0 := by
  have e : isl s.ps s.pl.length s.dr.length = false := by
    rw [isl_short fun k q hq => h3 q (List.mem_of_getElem? hq)]
    simp
    omega
  have e2 : ¬ s.ps.length = 0 := by omega
  have e3 : decide (s.ps.length = 0) = false := by simpa using e2
  unfold schk
  rw [e, h8, h9, h10, e3]
  simp [h1.1, h1.2, h2.1, h2.2]
theorem schk_bar {T M : Int} {ps : List (List OpD)} {pl dr : List Int} (h : schk ⟨T, M, ps, pl, dr⟩ = 0) : schk ⟨T, M, ps, bar pl, dr⟩ = 0 := by
  obtain ⟨t12, m12, h32, h8, h200, h64, h0, har, hap, had⟩ := schk_zero h
  refine schk_of t12 m12 h32 h8 (Nat.le_trans (bar_le pl) h200) h64 h0 har ?_ had
  rw [ab_iff] at hap ⊢
  exact fun x hx => hap x (bar_mem hx).1

end Sh
end Go.Proofs.YtkkgbeaaekmhfaaGreat
