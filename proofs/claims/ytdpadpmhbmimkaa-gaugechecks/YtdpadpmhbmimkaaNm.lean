/- Which events are right, kind by kind; the reference's within, over this seat's program. -/
import Derived.Test.YtdpadpmhbmimkaaNd
namespace Go.Proofs.Ytdpadpmhbmimkaa
open Go.ChangeShapes Go.WideShapes Go.ChangeAt Go.RowKit
namespace En
open Ba Re

theorem within_any (n lo hi : Int) (w : World) :
    Calls Try.prog 28 #[.int .i64 n, .int .i64 lo, .int .i64 hi] w fun r w' => r = .returned (.bool (decide (lo ≤ n ∧ n ≤ hi))) ∧ w' = w := by
  rw [show decide (lo ≤ n ∧ n ≤ hi) = (decide (lo ≤ n) && decide (n ≤ hi)) by simp]
  cases h1 : decide (lo ≤ n)
  · go_enter Try.func28, Try.ntmps28
    go_wp2_with fail
    go_ret
    exact ⟨rfl, rfl⟩
  · go_enter Try.func28, Try.ntmps28
    go_wp2_with fail
    go_ret
    exact ⟨ret_bool (by simp), rfl⟩
theorem chk1 (g c a v m : Int) (s o : Bool) : chk ⟨1, g, c, a, v, m, s, o⟩ = if s = false ∧ o = false ∧ (0 ≤ g ∧ g ≤ 511) ∧ c = -1 ∧ a = -1 ∧ (0 ≤ v ∧ v ≤ 7) ∧ (0 ≤ m ∧ m ≤ 511) then 0 else 4 := by
  unfold chk
  rw [if_neg (by show ¬ ((1 : Int) < 1 ∨ 13 < (1 : Int)); decide)]
  have h : ((ff ⟨1, g, c, a, v, m, s, o⟩ && okF ⟨1, g, c, a, v, m, s, o⟩) = true) ↔ (s = false ∧ o = false ∧ (0 ≤ g ∧ g ≤ 511) ∧ c = -1 ∧ a = -1 ∧ (0 ≤ v ∧ v ≤ 7) ∧ (0 ≤ m ∧ m ≤ 511)) := by
    cases s <;> cases o <;> simp [ff, okF, okA, spn, inS, fl, nth, List.range, List.range.loop] <;> (try split) <;> (try simp) <;> omega
  by_cases q : s = false ∧ o = false ∧ (0 ≤ g ∧ g ≤ 511) ∧ c = -1 ∧ a = -1 ∧ (0 ≤ v ∧ v ≤ 7) ∧ (0 ≤ m ∧ m ≤ 511)
  · rw [if_pos q, if_pos (h.2 q)]
  · rw [if_neg q, if_neg (fun z => q (h.1 z))]
theorem chk2 (g c a v m : Int) (s o : Bool) : chk ⟨2, g, c, a, v, m, s, o⟩ = if s = false ∧ o = false ∧ (0 ≤ g ∧ g ≤ 511) ∧ (0 ≤ c ∧ c ≤ 511) ∧ a = -1 ∧ (0 ≤ v ∧ v ≤ 4) ∧ m = -1 then 0 else 4 := by
  unfold chk
  rw [if_neg (by show ¬ ((2 : Int) < 1 ∨ 13 < (2 : Int)); decide)]
  have h : ((ff ⟨2, g, c, a, v, m, s, o⟩ && okF ⟨2, g, c, a, v, m, s, o⟩) = true) ↔ (s = false ∧ o = false ∧ (0 ≤ g ∧ g ≤ 511) ∧ (0 ≤ c ∧ c ≤ 511) ∧ a = -1 ∧ (0 ≤ v ∧ v ≤ 4) ∧ m = -1) := by
    cases s <;> cases o <;> simp [ff, okF, okA, spn, inS, fl, nth, List.range, List.range.loop] <;> (try split) <;> (try simp) <;> omega
  by_cases q : s = false ∧ o = false ∧ (0 ≤ g ∧ g ≤ 511) ∧ (0 ≤ c ∧ c ≤ 511) ∧ a = -1 ∧ (0 ≤ v ∧ v ≤ 4) ∧ m = -1
  · rw [if_pos q, if_pos (h.2 q)]
  · rw [if_neg q, if_neg (fun z => q (h.1 z))]
theorem chk3 (g c a v m : Int) (s o : Bool) : chk ⟨3, g, c, a, v, m, s, o⟩ = if s = true ∧ o = false ∧ (0 ≤ g ∧ g ≤ 511) ∧ (0 ≤ c ∧ c ≤ 511) ∧ (-1 ≤ a ∧ a ≤ 3) ∧ (0 ≤ v ∧ v ≤ 99) ∧ (-1 ≤ m ∧ m ≤ 511) then 0 else 4 := by
  unfold chk
  rw [if_neg (by show ¬ ((3 : Int) < 1 ∨ 13 < (3 : Int)); decide)]
  have h : ((ff ⟨3, g, c, a, v, m, s, o⟩ && okF ⟨3, g, c, a, v, m, s, o⟩) = true) ↔ (s = true ∧ o = false ∧ (0 ≤ g ∧ g ≤ 511) ∧ (0 ≤ c ∧ c ≤ 511) ∧ (-1 ≤ a ∧ a ≤ 3) ∧ (0 ≤ v ∧ v ≤ 99) ∧ (-1 ≤ m ∧ m ≤ 511)) := by
    cases s <;> cases o <;> simp [ff, okF, okA, spn, inS, fl, nth, vm, ml, mh, List.range, List.range.loop] <;> (try split) <;> (try simp) <;> omega
  by_cases q : s = true ∧ o = false ∧ (0 ≤ g ∧ g ≤ 511) ∧ (0 ≤ c ∧ c ≤ 511) ∧ (-1 ≤ a ∧ a ≤ 3) ∧ (0 ≤ v ∧ v ≤ 99) ∧ (-1 ≤ m ∧ m ≤ 511)
  · rw [if_pos q, if_pos (h.2 q)]
  · rw [if_neg q, if_neg (fun z => q (h.1 z))]
theorem chk4 (g c a v m : Int) (s o : Bool) : chk ⟨4, g, c, a, v, m, s, o⟩ = if s = false ∧ (0 ≤ g ∧ g ≤ 511) ∧ (0 ≤ c ∧ c ≤ 511) ∧ (-1 ≤ a ∧ a ≤ 3) ∧ (0 ≤ v ∧ v ≤ 99) ∧ (-1 ≤ m ∧ m ≤ 511) ∧ (o = true ∨ v = 0 ∧ m = -1) then 0 else 4 := by
  unfold chk
  rw [if_neg (by show ¬ ((4 : Int) < 1 ∨ 13 < (4 : Int)); decide)]
  have h : ((ff ⟨4, g, c, a, v, m, s, o⟩ && okF ⟨4, g, c, a, v, m, s, o⟩) = true) ↔ (s = false ∧ (0 ≤ g ∧ g ≤ 511) ∧ (0 ≤ c ∧ c ≤ 511) ∧ (-1 ≤ a ∧ a ≤ 3) ∧ (0 ≤ v ∧ v ≤ 99) ∧ (-1 ≤ m ∧ m ≤ 511) ∧ (o = true ∨ v = 0 ∧ m = -1)) := by
    cases s <;> cases o <;> simp [ff, okF, okA, spn, inS, fl, nth, vm, ml, mh, List.range, List.range.loop] <;> (try split) <;> (try simp) <;> omega
  by_cases q : s = false ∧ (0 ≤ g ∧ g ≤ 511) ∧ (0 ≤ c ∧ c ≤ 511) ∧ (-1 ≤ a ∧ a ≤ 3) ∧ (0 ≤ v ∧ v ≤ 99) ∧ (-1 ≤ m ∧ m ≤ 511) ∧ (o = true ∨ v = 0 ∧ m = -1)
  · rw [if_pos q, if_pos (h.2 q)]
  · rw [if_neg q, if_neg (fun z => q (h.1 z))]
theorem chk5 (g c a v m : Int) (s o : Bool) : chk ⟨5, g, c, a, v, m, s, o⟩ = if s = false ∧ o = false ∧ (0 ≤ g ∧ g ≤ 511) ∧ (0 ≤ c ∧ c ≤ 511) ∧ a = -1 ∧ v = -1 ∧ m = -1 then 0 else 4 := by
  unfold chk
  rw [if_neg (by show ¬ ((5 : Int) < 1 ∨ 13 < (5 : Int)); decide)]
  have h : ((ff ⟨5, g, c, a, v, m, s, o⟩ && okF ⟨5, g, c, a, v, m, s, o⟩) = true) ↔ (s = false ∧ o = false ∧ (0 ≤ g ∧ g ≤ 511) ∧ (0 ≤ c ∧ c ≤ 511) ∧ a = -1 ∧ v = -1 ∧ m = -1) := by
    cases s <;> cases o <;> simp [ff, okF, okA, spn, inS, fl, nth, List.range, List.range.loop] <;> (try split) <;> (try simp) <;> omega
  by_cases q : s = false ∧ o = false ∧ (0 ≤ g ∧ g ≤ 511) ∧ (0 ≤ c ∧ c ≤ 511) ∧ a = -1 ∧ v = -1 ∧ m = -1
  · rw [if_pos q, if_pos (h.2 q)]
  · rw [if_neg q, if_neg (fun z => q (h.1 z))]
theorem chk6 (g c a v m : Int) (s o : Bool) : chk ⟨6, g, c, a, v, m, s, o⟩ = if o = false ∧ (0 ≤ g ∧ g ≤ 511) ∧ (a = -1 ∧ (-1 ≤ c ∧ c ≤ 511) ∧ (s = true ∧ (0 ≤ v ∧ v ≤ 99) ∨ s = false ∧ v = 0) ∨ (0 ≤ a ∧ a ≤ 4) ∧ c = -1 ∧ s = false ∧ v = 0) ∧ m = -1 then 0 else 4 := by
  unfold chk
  rw [if_neg (by show ¬ ((6 : Int) < 1 ∨ 13 < (6 : Int)); decide)]
  have h : ((ff ⟨6, g, c, a, v, m, s, o⟩ && okF ⟨6, g, c, a, v, m, s, o⟩) = true) ↔ (o = false ∧ (0 ≤ g ∧ g ≤ 511) ∧ (a = -1 ∧ (-1 ≤ c ∧ c ≤ 511) ∧ (s = true ∧ (0 ≤ v ∧ v ≤ 99) ∨ s = false ∧ v = 0) ∨ (0 ≤ a ∧ a ≤ 4) ∧ c = -1 ∧ s = false ∧ v = 0) ∧ m = -1) := by
    cases s <;> cases o <;> simp [ff, okF, okA, spn, inS, fl, nth, vm, List.range, List.range.loop] <;> (try split) <;> (try simp) <;> omega
  by_cases q : o = false ∧ (0 ≤ g ∧ g ≤ 511) ∧ (a = -1 ∧ (-1 ≤ c ∧ c ≤ 511) ∧ (s = true ∧ (0 ≤ v ∧ v ≤ 99) ∨ s = false ∧ v = 0) ∨ (0 ≤ a ∧ a ≤ 4) ∧ c = -1 ∧ s = false ∧ v = 0) ∧ m = -1
  · rw [if_pos q, if_pos (h.2 q)]
  · rw [if_neg q, if_neg (fun z => q (h.1 z))]
theorem chk7 (g c a v m : Int) (s o : Bool) : chk ⟨7, g, c, a, v, m, s, o⟩ = if (0 ≤ g ∧ g ≤ 511) ∧ (0 ≤ c ∧ c ≤ 511) ∧ (-1 ≤ a ∧ a ≤ 3) ∧ (0 ≤ v ∧ v ≤ 99) ∧ (0 ≤ m ∧ m ≤ 511) ∧ (o = true ∨ s = false ∧ v = 0) then 0 else 4 := by
  unfold chk
  rw [if_neg (by show ¬ ((7 : Int) < 1 ∨ 13 < (7 : Int)); decide)]
  have h : ((ff ⟨7, g, c, a, v, m, s, o⟩ && okF ⟨7, g, c, a, v, m, s, o⟩) = true) ↔ ((0 ≤ g ∧ g ≤ 511) ∧ (0 ≤ c ∧ c ≤ 511) ∧ (-1 ≤ a ∧ a ≤ 3) ∧ (0 ≤ v ∧ v ≤ 99) ∧ (0 ≤ m ∧ m ≤ 511) ∧ (o = true ∨ s = false ∧ v = 0)) := by
    cases s <;> cases o <;> simp [ff, okF, okA, spn, inS, fl, nth, vm, ml, mh, List.range, List.range.loop] <;> (try split) <;> (try simp) <;> omega
  by_cases q : (0 ≤ g ∧ g ≤ 511) ∧ (0 ≤ c ∧ c ≤ 511) ∧ (-1 ≤ a ∧ a ≤ 3) ∧ (0 ≤ v ∧ v ≤ 99) ∧ (0 ≤ m ∧ m ≤ 511) ∧ (o = true ∨ s = false ∧ v = 0)
  · rw [if_pos q, if_pos (h.2 q)]
  · rw [if_neg q, if_neg (fun z => q (h.1 z))]
theorem chk8 (g c a v m : Int) (s o : Bool) : chk ⟨8, g, c, a, v, m, s, o⟩ = if s = false ∧ o = false ∧ (0 ≤ g ∧ g ≤ 511) ∧ c = -1 ∧ a = -1 ∧ v = -1 ∧ m = -1 then 0 else 4 := by
  unfold chk
  rw [if_neg (by show ¬ ((8 : Int) < 1 ∨ 13 < (8 : Int)); decide)]
  have h : ((ff ⟨8, g, c, a, v, m, s, o⟩ && okF ⟨8, g, c, a, v, m, s, o⟩) = true) ↔ (s = false ∧ o = false ∧ (0 ≤ g ∧ g ≤ 511) ∧ c = -1 ∧ a = -1 ∧ v = -1 ∧ m = -1) := by
    cases s <;> cases o <;> simp [ff, okF, okA, spn, inS, fl, nth, List.range, List.range.loop] <;> (try split) <;> (try simp) <;> omega
  by_cases q : s = false ∧ o = false ∧ (0 ≤ g ∧ g ≤ 511) ∧ c = -1 ∧ a = -1 ∧ v = -1 ∧ m = -1
  · rw [if_pos q, if_pos (h.2 q)]
  · rw [if_neg q, if_neg (fun z => q (h.1 z))]
theorem chk9 (g c a v m : Int) (s o : Bool) : chk ⟨9, g, c, a, v, m, s, o⟩ = if s = false ∧ o = false ∧ (0 ≤ g ∧ g ≤ 511) ∧ c = -1 ∧ a = -1 ∧ (0 ≤ v ∧ v ≤ 7) ∧ m = -1 then 0 else 4 := by
  unfold chk
  rw [if_neg (by show ¬ ((9 : Int) < 1 ∨ 13 < (9 : Int)); decide)]
  have h : ((ff ⟨9, g, c, a, v, m, s, o⟩ && okF ⟨9, g, c, a, v, m, s, o⟩) = true) ↔ (s = false ∧ o = false ∧ (0 ≤ g ∧ g ≤ 511) ∧ c = -1 ∧ a = -1 ∧ (0 ≤ v ∧ v ≤ 7) ∧ m = -1) := by
    cases s <;> cases o <;> simp [ff, okF, okA, spn, inS, fl, nth, List.range, List.range.loop] <;> (try split) <;> (try simp) <;> omega
  by_cases q : s = false ∧ o = false ∧ (0 ≤ g ∧ g ≤ 511) ∧ c = -1 ∧ a = -1 ∧ (0 ≤ v ∧ v ≤ 7) ∧ m = -1
  · rw [if_pos q, if_pos (h.2 q)]
  · rw [if_neg q, if_neg (fun z => q (h.1 z))]
theorem chk10 (g c a v m : Int) (s o : Bool) : chk ⟨10, g, c, a, v, m, s, o⟩ = if s = false ∧ o = false ∧ (0 ≤ g ∧ g ≤ 511) ∧ c = -1 ∧ a = -1 ∧ (0 ≤ v ∧ v ≤ 7) ∧ m = -1 then 0 else 4 := by
  unfold chk
  rw [if_neg (by show ¬ ((10 : Int) < 1 ∨ 13 < (10 : Int)); decide)]
  have h : ((ff ⟨10, g, c, a, v, m, s, o⟩ && okF ⟨10, g, c, a, v, m, s, o⟩) = true) ↔ (s = false ∧ o = false ∧ (0 ≤ g ∧ g ≤ 511) ∧ c = -1 ∧ a = -1 ∧ (0 ≤ v ∧ v ≤ 7) ∧ m = -1) := by
    cases s <;> cases o <;> simp [ff, okF, okA, spn, inS, fl, nth, List.range, List.range.loop] <;> (try split) <;> (try simp) <;> omega
  by_cases q : s = false ∧ o = false ∧ (0 ≤ g ∧ g ≤ 511) ∧ c = -1 ∧ a = -1 ∧ (0 ≤ v ∧ v ≤ 7) ∧ m = -1
  · rw [if_pos q, if_pos (h.2 q)]
  · rw [if_neg q, if_neg (fun z => q (h.1 z))]
theorem chk11 (g c a v m : Int) (s o : Bool) : chk ⟨11, g, c, a, v, m, s, o⟩ = if s = false ∧ o = false ∧ (0 ≤ g ∧ g ≤ 511) ∧ c = -1 ∧ a = -1 ∧ v = -1 ∧ m = -1 then 0 else 4 := by
  unfold chk
  rw [if_neg (by show ¬ ((11 : Int) < 1 ∨ 13 < (11 : Int)); decide)]
  have h : ((ff ⟨11, g, c, a, v, m, s, o⟩ && okF ⟨11, g, c, a, v, m, s, o⟩) = true) ↔ (s = false ∧ o = false ∧ (0 ≤ g ∧ g ≤ 511) ∧ c = -1 ∧ a = -1 ∧ v = -1 ∧ m = -1) := by
    cases s <;> cases o <;> simp [ff, okF, okA, spn, inS, fl, nth, List.range, List.range.loop] <;> (try split) <;> (try simp) <;> omega
  by_cases q : s = false ∧ o = false ∧ (0 ≤ g ∧ g ≤ 511) ∧ c = -1 ∧ a = -1 ∧ v = -1 ∧ m = -1
  · rw [if_pos q, if_pos (h.2 q)]
  · rw [if_neg q, if_neg (fun z => q (h.1 z))]
theorem chk12 (g c a v m : Int) (s o : Bool) : chk ⟨12, g, c, a, v, m, s, o⟩ = if s = false ∧ o = false ∧ (0 ≤ g ∧ g ≤ 511) ∧ c = -1 ∧ a = -1 ∧ v = -1 ∧ m = -1 then 0 else 4 := by
  unfold chk
  rw [if_neg (by show ¬ ((12 : Int) < 1 ∨ 13 < (12 : Int)); decide)]
  have h : ((ff ⟨12, g, c, a, v, m, s, o⟩ && okF ⟨12, g, c, a, v, m, s, o⟩) = true) ↔ (s = false ∧ o = false ∧ (0 ≤ g ∧ g ≤ 511) ∧ c = -1 ∧ a = -1 ∧ v = -1 ∧ m = -1) := by
    cases s <;> cases o <;> simp [ff, okF, okA, spn, inS, fl, nth, List.range, List.range.loop] <;> (try split) <;> (try simp) <;> omega
  by_cases q : s = false ∧ o = false ∧ (0 ≤ g ∧ g ≤ 511) ∧ c = -1 ∧ a = -1 ∧ v = -1 ∧ m = -1
  · rw [if_pos q, if_pos (h.2 q)]
  · rw [if_neg q, if_neg (fun z => q (h.1 z))]
theorem chk13 (g c a v m : Int) (s o : Bool) : chk ⟨13, g, c, a, v, m, s, o⟩ = if s = false ∧ o = false ∧ g = -1 ∧ c = -1 ∧ a = -1 ∧ v = -1 ∧ m = -1 then 0 else 4 := by
  unfold chk
  rw [if_neg (by show ¬ ((13 : Int) < 1 ∨ 13 < (13 : Int)); decide)]
  have h : ((ff ⟨13, g, c, a, v, m, s, o⟩ && okF ⟨13, g, c, a, v, m, s, o⟩) = true) ↔ (s = false ∧ o = false ∧ g = -1 ∧ c = -1 ∧ a = -1 ∧ v = -1 ∧ m = -1) := by
    cases s <;> cases o <;> simp [ff, okF, okA, spn, inS, fl, nth, List.range, List.range.loop] <;> (try split) <;> (try simp) <;> omega
  by_cases q : s = false ∧ o = false ∧ g = -1 ∧ c = -1 ∧ a = -1 ∧ v = -1 ∧ m = -1
  · rw [if_pos q, if_pos (h.2 q)]
  · rw [if_neg q, if_neg (fun z => q (h.1 z))]
end En
end Go.Proofs.Ytdpadpmhbmimkaa
