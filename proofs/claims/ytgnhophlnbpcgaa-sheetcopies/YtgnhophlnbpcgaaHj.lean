/- Package sheet: copies of rows of programs, operations, cases, over this seat's program. -/
import Derived.Test.YtgnhophlnbpcgaaHi
namespace Go.Proofs.Ytgnhophlnbpcgaa
open Go.ChangeShapes Go.WideShapes Go.ChangeAt Go.RowKit
namespace Sh
open De Ba Re

theorem cps {w : World} {oa : Option Addr} {m : Nat} (h : ∀ j, j < m → ∃ b off v, oa = some ⟨b, off, none⟩ ∧ w.cell? ⟨b, off + j, none⟩ = some v ∧ v.oneCell' = true) : ∃ cs : List Value, cs.length = m ∧ CsAt w oa cs ∧ ∀ v ∈ cs, v.oneCell' = true := by
  have hv : ∀ j, j < m → ∃ v : Value, ∃ b off, oa = some ⟨b, off, none⟩ ∧ w.cell? ⟨b, off + j, none⟩ = some v ∧ v.oneCell' = true := fun j hj => by
    obtain ⟨b, off, v, h1, h2⟩ := h j hj
    exact ⟨v, b, off, h1, h2⟩
  have fam : ∃ f : Nat → Value, ∀ j, j < m → ∃ b off, oa = some ⟨b, off, none⟩ ∧ w.cell? ⟨b, off + j, none⟩ = some (f j) ∧ (f j).oneCell' = true := by
    refine ⟨fun j => if hj : j < m then Classical.choose (hv j hj) else .int .i64 0, fun j hj => ?_⟩
    simp only [dif_pos hj]
    exact Classical.choose_spec (hv j hj)
  obtain ⟨f, hf⟩ := fam
  refine ⟨(List.range m).map f, by simp, ?_, ?_⟩
  · intro j v hj
    have hjm : j < m := by
      have := (List.getElem?_eq_some_iff.1 hj).1
      simpa using this
    obtain ⟨b, off, h1, h2, _⟩ := hf j hjm
    simp [hjm] at hj
    subst hj
    exact ⟨b, off, h1, h2⟩
  · intro v hv
    rw [List.mem_map] at hv
    obtain ⟨j, hj, rfl⟩ := hv
    obtain ⟨_, _, _, _, h3⟩ := hf j (List.mem_range.1 hj)
    exact h3
theorem cs_get {w : World} {b off : Nat} {cs : List Value} (hA : CsAt w (some ⟨b, off, none⟩) cs) {j : Nat} (hj : j < cs.length) {v : Value} (hc : w.cell? ⟨b, off + j, none⟩ = some v) : cs[j]? = some v := by
  obtain ⟨b', off', he, h2⟩ := hA j cs[j] (List.getElem?_eq_getElem hj)
  cases he
  rw [hc] at h2
  rw [List.getElem?_eq_getElem hj, ← h2]
theorem row_cell (w : World) (cs : List Value) (t : TypeId) (j : Nat) : (w.alloc (.cells cs.toArray t)).cell? ⟨w.heap.size, j, none⟩ = cs[j]? := by
  rw [cell_of (heap_new _ _), List.getElem?_toArray]
theorem oat_cells {w : World} {oa : Option Addr} {q : List OpD} (h : OAt w oa q) : ∀ j, j < q.length * 5 → ∃ b off v, oa = some ⟨b, off, none⟩ ∧ w.cell? ⟨b, off + j, none⟩ = some v ∧ v.oneCell' = true := by
  intro j hj
  have ht : j / 5 < q.length := by omega
  obtain ⟨b, off, ca, cc, he, ⟨h0, h1, h2, h3, h4⟩, _⟩ := h (j / 5) q[j / 5] (List.getElem?_eq_getElem ht)
  have e : j % 5 = 0 ∨ j % 5 = 1 ∨ j % 5 = 2 ∨ j % 5 = 3 ∨ j % 5 = 4 := by omega
  rcases e with e | e | e | e | e
  · exact ⟨b, off, _, he, by rw [show off + j = off + j / 5 * 5 by omega]; exact h0, rfl⟩
  · exact ⟨b, off, _, he, by rw [show off + j = off + j / 5 * 5 + 1 by omega]; exact h1, rfl⟩
  · exact ⟨b, off, _, he, by rw [show off + j = off + j / 5 * 5 + 2 by omega]; exact h2, rfl⟩
  · exact ⟨b, off, _, he, by rw [show off + j = off + j / 5 * 5 + 3 by omega]; exact h3, rfl⟩
  · exact ⟨b, off, _, he, by rw [show off + j = off + j / 5 * 5 + 4 by omega]; exact h4, rfl⟩
theorem cat_cells {w : World} {oa : Option Addr} {l : List Cs} (h : CAt w oa l) : ∀ j, j < l.length * 3 → ∃ b off v, oa = some ⟨b, off, none⟩ ∧ w.cell? ⟨b, off + j, none⟩ = some v ∧ v.oneCell' = true := by
  intro j hj
  have ht : j / 3 < l.length := by omega
  obtain ⟨b, off, he, h0, h1, h2⟩ := h (j / 3) l[j / 3] (List.getElem?_eq_getElem ht)
  have e : j % 3 = 0 ∨ j % 3 = 1 ∨ j % 3 = 2 := by omega
  rcases e with e | e | e
  · exact ⟨b, off, _, he, by rw [show off + j = off + j / 3 * 3 by omega]; exact h0, rfl⟩
  · exact ⟨b, off, _, he, by rw [show off + j = off + j / 3 * 3 + 1 by omega]; exact h1, rfl⟩
  · exact ⟨b, off, _, he, by rw [show off + j = off + j / 3 * 3 + 2 by omega]; exact h2, rfl⟩
theorem pat_cells {w : World} {oa : Option Addr} {ps : List (List OpD)} (h : PAt w oa ps) : ∀ j, j < ps.length * 1 → ∃ b off v, oa = some ⟨b, off, none⟩ ∧ w.cell? ⟨b, off + j, none⟩ = some v ∧ v.oneCell' = true := by
  intro j hj
  rw [Nat.mul_one] at hj
  obtain ⟨b, off, pa, pc, he, h0, _⟩ := h j ps[j] (List.getElem?_eq_getElem hj)
  exact ⟨b, off, _, he, h0, rfl⟩

set_option maxRecDepth 100000 in
set_option maxHeartbeats 800000 in
theorem copied_op (oa : Option Addr) (q : List OpD) (c : Nat) (w : World) (hO : OAt w oa q) (hl : q.length ≤ 1000) :
    Calls Try.prog 52 #[.slice oa q.length c] w fun r w' => r = .returned (.slice (some ⟨w.heap.size, 0, none⟩) q.length q.length) ∧ ∃ cs, w' = w.alloc (.cells cs.toArray 24) ∧ cs.length = q.length * 5 ∧ CsAt w oa cs := by
  obtain ⟨i0, hi, hz0, hz1, hz2⟩ := info_parts info_op
  obtain ⟨cs, h1, h2, h3⟩ := cps (oat_cells hO)
  have hm := run_mkG Try.underlying56 hi hz0 w q.length (by rw [hz2]; omega) (by omega)
  have hcp := run_cpG (z := .agg #[.int .i64 0, .int .i64 0, .int .i64 0, .slice none 0 0, .bool false]) Try.underlying56 hi 3 w oa q.length c cs (by rw [hz1]; exact h1) h2 h3 (by rw [hz1]; decide)
  generalize madeCells (Value.cells (.agg #[.int .i64 0, .int .i64 0, .int .i64 0, .slice none 0 0, .bool false])) (q.length * i0.size) = MC at hm hcp
  have H2 := hide h2
  clear hO h2 hi hz0 hz1 hz2
  go_enter Try.func52, Try.ntmps52
  go_wp2_with fail
  go_ret
  exact ⟨rfl, cs, rfl, h1, H2.out⟩
set_option maxRecDepth 100000 in
set_option maxHeartbeats 800000 in
theorem copied_pr (oa : Option Addr) (ps : List (List OpD)) (c : Nat) (w : World) (hP : PAt w oa ps) (hl : ps.length ≤ 1000) :
    Calls Try.prog 51 #[.slice oa ps.length c] w fun r w' => r = .returned (.slice (some ⟨w.heap.size, 0, none⟩) ps.length ps.length) ∧ ∃ cs, w' = w.alloc (.cells cs.toArray 56) ∧ cs.length = ps.length ∧ CsAt w oa cs := by
  obtain ⟨i0, hi, hz0, hz1, hz2⟩ := info_parts info_pr
  obtain ⟨cs, h1, h2, h3⟩ := cps (pat_cells hP)
  have hm := run_mkG Try.underlying35 hi hz0 w ps.length (by rw [hz2]; omega) (by omega)
  have hcp := run_cpG (z := .slice none 0 0) Try.underlying35 hi 3 w oa ps.length c cs (by rw [hz1]; exact h1) h2 h3 (by rw [hz1]; decide)
  generalize madeCells (Value.cells (.slice none 0 0)) (ps.length * i0.size) = MC at hm hcp
  have H2 := hide h2
  rw [Nat.mul_one] at h1
  clear hP h2 hi hz0 hz1 hz2
  go_enter Try.func51, Try.ntmps51
  go_wp2_with fail
  go_ret
  exact ⟨rfl, cs, rfl, h1, H2.out⟩
set_option maxRecDepth 100000 in
set_option maxHeartbeats 800000 in
theorem copied_case (oa : Option Addr) (l : List Cs) (c : Nat) (w : World) (hC : CAt w oa l) (hl : l.length ≤ 100000) :
    Calls Try.prog 53 #[.slice oa l.length c] w fun r w' => r = .returned (.slice (some ⟨w.heap.size, 0, none⟩) l.length l.length) ∧ CAt w' (some ⟨w.heap.size, 0, none⟩) l ∧ Below w.heap.size w w' := by
  obtain ⟨i0, hi, hz0, hz1, hz2⟩ := info_parts info_case
  obtain ⟨cs, h1, h2, h3⟩ := cps (cat_cells hC)
  have hm := run_mkG Try.underlying22 hi hz0 w l.length (by rw [hz2]; omega) (by omega)
  have hcp := run_cpG (z := .agg #[.bool false, .int .i64 0, .int .i64 0]) Try.underlying22 hi 3 w oa l.length c cs (by rw [hz1]; exact h1) h2 h3 (by rw [hz1]; decide)
  generalize madeCells (Value.cells (.agg #[.bool false, .int .i64 0, .int .i64 0])) (l.length * i0.size) = MC at hm hcp
  have HN : Hid (CAt (w.alloc (.cells cs.toArray 58)) (some ⟨w.heap.size, 0, none⟩) l) := by
    intro k x hk
    obtain ⟨b, off, rfl, q0, q1, q2⟩ := hC k x hk
    have hkl := (List.getElem?_eq_some_iff.1 hk).1
    refine ⟨w.heap.size, 0, rfl, ?_, ?_, ?_⟩
    · rw [Nat.zero_add, row_cell]; exact cs_get h2 (by omega) q0
    · rw [Nat.zero_add, row_cell]; exact cs_get h2 (by omega) (by rw [← Nat.add_assoc]; exact q1)
    · rw [Nat.zero_add, row_cell]; exact cs_get h2 (by omega) (by rw [← Nat.add_assoc]; exact q2)
  clear hC h2 hi hz0 hz1 hz2
  go_enter Try.func53, Try.ntmps53
  go_wp2_with fail
  go_ret
  exact ⟨rfl, HN.out, below_alloc _ _⟩
end Sh
end Go.Proofs.Ytgnhophlnbpcgaa
