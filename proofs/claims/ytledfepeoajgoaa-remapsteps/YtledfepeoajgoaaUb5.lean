/- What RemapSteps compares (plain), and its contracts over both tables. -/
import Derived.Test.YtledfepeoajgoaaUb4
namespace Go.Proofs.Ytledfepeoajgoaa
open Go.ChangeShapes Go.WideShapes Go.ChangeAt Go.RowKit
namespace Rk
open Ba

set_option maxHeartbeats 1600000 in
theorem eqRR (a b : Rd) (w : World) : (Op.equalIn 10000 36 (rv a) (rv b)).run Try.prog w = .ok (rdb a b) w := by
  obtain ⟨k, g, c, x, v, m⟩ := a
  obtain ⟨k', g', c', x', v', m'⟩ := b
  unfold rv rdb
  simp only
  cases h0 : (k == k')
  · simp [go_sem, h0]
  cases h1 : (g == g')
  · simp [go_sem, h0, h1]
  cases h2 : (c == c')
  · simp [go_sem, h0, h1, h2]
  cases h3 : (x == x')
  · simp [go_sem, h0, h1, h2, h3]
  cases h4 : (v == v')
  · simp [go_sem, h0, h1, h2, h3, h4]
  cases h5 : (m == m')
  · simp [go_sem, h0, h1, h2, h3, h4, h5]
  · simp [go_sem, h0, h1, h2, h3, h4, h5]
/-- no goroutine below 0 -/
def Nn (l : List Rd) : Prop := ∀ x ∈ l, 0 ≤ x.g
theorem Nn.one : Nn [nb 0 0 (-1)] := by
  intro x hx
  rw [List.mem_singleton] at hx
  subst hx
  exact Int.le_refl _
theorem Nn.step {l : List Rd} (h : Nn l) (s : S4) : Nn (stE s l) := by
  unfold stE
  split
  · unfold bnL
    split
    · exact h
    · rename_i hq
      split
      · exact h
      · intro x hx
        rcases mem_ins.1 hx with q | q
        · subst q
          have := bdN_yes (by simpa using hq)
          show 0 ≤ s.g
          omega
        · exact h x q
  · split
    · unfold gnL
      split
      · exact h
      · split
        · exact h
        · rename_i x hx
          split
          · exact h
          · intro y hy
            rcases List.mem_or_eq_of_mem_set hy with q | q
            · exact h y q
            · subst q
              unfold fd at hx
              exact h x (List.mem_of_find?_eq_some hx)
    · exact h
theorem Rel.at {l m : List Rd} (h : Rel l m) {x : Rd} (hx : x ∈ l) : ∃ k : Nat, rat m x.g = (k : Int) ∧ m[k]? = some x ∧ k < m.length := by
  obtain ⟨h1, h2⟩ := h.gd.mem hx
  obtain ⟨k, y, q1, q2, q3, q4, q5, -⟩ := h.fd (g := x.g) (by rw [← h.hs]; exact h2)
  rw [h1] at q5; cases q5
  exact ⟨k, q1, q2, q4⟩
theorem Rel.own {l m : List Rd} (h : Rel l m) (t a : Int) : (ow1 l t a).isSome = m.any fun x => hsR x t a := by
  rw [← any_perm h.pm]
  unfold ow1
  rw [Bool.eq_iff_iff, List.find?_isSome, List.any_eq_true]
  constructor
  · rintro ⟨x, hx, e⟩
    exact ⟨x, hx, by rw [hsR_ok (h.gd.ok x hx)]; exact e⟩
  · rintro ⟨x, hx, e⟩
    exact ⟨x, hx, by rw [← hsR_ok (h.gd.ok x hx)]; exact e⟩
theorem any_take {m : List Rd} {k : Nat} {x : Rd} (h : m[k]? = some x) (p : Rd → Bool) : (m.take (k + 1)).any p = ((m.take k).any p || p x) := by
  rw [List.take_add_one, h, List.any_append]
  simp
theorem rat_neg {m : List Rd} {g : Int} (h : hs m g = false) : rat m g < 0 := by
  have := rat_hs m g
  rw [h] at this
  simpa using this
/-- the reference's row, read -/
theorem Dx.row {w u : World} {B G : Nat} {F H : Nat → Prop} {l m : List Rd} (h : Dx w u B F G H l m) : ∃ og cg, u.cell? ⟨G, 0, none⟩ = some (.slice og m.length cg) ∧ RA u og m := by
  obtain ⟨og, cg, q⟩ := h.r
  exact ⟨og, cg, cell_of q.hp 0, q.at.1⟩
theorem at_x {w u : World} {B G : Nat} {F H : Nat → Prop} {l m : List Rd} (h : Dx w u B F G H l m) (g : Int) (hl : m.length ≤ 10000) :
    Calls Try.prog 12 #[.pointer (some ⟨G, 0, none⟩), .int .i64 g] u fun r w' => r = .returned (.int .i64 (rat m g)) ∧ Below u.heap.size u w' := rat_any G H m g u h.r hl
end Rk
end Go.Proofs.Ytledfepeoajgoaa
