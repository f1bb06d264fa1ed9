/- Package entry: numbers, event, over this seat's program. -/
import Derived.Test.YtlcaelfkgillmaaNd
namespace Go.Proofs.Ytlcaelfkgillmaa
open Go.ChangeShapes Go.WideShapes Go.ChangeAt Go.RowKit
namespace En
open Ba Re

def fg (e : Ev) : Int := (if e.s = true then 1 else 0) + (if e.o = true then 2 else 0)
/-- an event's numbers -/
def nm (e : Ev) : List Int := [e.k, e.g + 1, e.c + 1, e.a + 1, e.v + 1, e.m + 1, fg e]
theorem size_row : (Try.prog.info? 57).map (·.size) = some 7 := by kernel_rfl
theorem loadVar_row {w : World} {b : Nat} {c : Array Value} {t : TypeId} (h : w.heap[b]? = some (.cells c t (0, 0))) (hc : c.size = 7) : (loadVar 57 ⟨b, 0, none⟩).run Try.prog w = .ok (.agg c) w :=
  run_loadVar_row w b t _ _ _ _ h Try.underlying57 rfl (by rw [size_row, hc])
theorem sev_set {w : World} {b : Nat} {z : List Int} {t : TypeId} (hz : z.length = 7) (h : w.heap[b]? = some (.cells (row z) t (0, 0))) (x0 x1 x2 x3 x4 x5 x6 : Int) : ((((((((w.setCell ⟨b, 0, none⟩ (.int .i64 x0)).setCell ⟨b, 1, none⟩ (.int .i64 x1)).setCell ⟨b, 2, none⟩ (.int .i64 x2)).setCell ⟨b, 3, none⟩ (.int .i64 x3)).setCell ⟨b, 4, none⟩ (.int .i64 x4)).setCell ⟨b, 5, none⟩ (.int .i64 x5)).setCell ⟨b, 6, none⟩ (.int .i64 x6))).heap[b]? = some (.cells (row [x0, x1, x2, x3, x4, x5, x6]) t (0, 0)) := by
  have q := (Ba.heap_setCell_same (i := 6) (Ba.heap_setCell_same (i := 5) (Ba.heap_setCell_same (i := 4) (Ba.heap_setCell_same (i := 3) (Ba.heap_setCell_same (i := 2) (Ba.heap_setCell_same (i := 1) (Ba.heap_setCell_same (i := 0) h (.int .i64 x0)) (.int .i64 x1)) (.int .i64 x2)) (.int .i64 x3)) (.int .i64 x4)) (.int .i64 x5)) (.int .i64 x6))
  simp only [row_set] at q
  rw [q]
  match z, hz with
  | [_, _, _, _, _, _, _], _ => rfl
theorem sev_below {n : Nat} {w v : World} {b : Nat} (h : Below n w v) (hb : n ≤ b) (u0 u1 u2 u3 u4 u5 u6 : Value) : Below n w ((((((((v.setCell ⟨b, 0, none⟩ (u0)).setCell ⟨b, 1, none⟩ (u1)).setCell ⟨b, 2, none⟩ (u2)).setCell ⟨b, 3, none⟩ (u3)).setCell ⟨b, 4, none⟩ (u4)).setCell ⟨b, 5, none⟩ (u5)).setCell ⟨b, 6, none⟩ (u6))) :=
  (((((((h.setCell (p := ⟨b, 0, none⟩) hb u0).setCell (p := ⟨b, 1, none⟩) hb u1).setCell (p := ⟨b, 2, none⟩) hb u2).setCell (p := ⟨b, 3, none⟩) hb u3).setCell (p := ⟨b, 4, none⟩) hb u4).setCell (p := ⟨b, 5, none⟩) hb u5).setCell (p := ⟨b, 6, none⟩) hb u6)
/-- what numbers holds in memory: the event, the result, the row under way -/
structure NuW (w u : World) (N : Nat) (e : Ev) (r : List Int) : Prop where
  ev : u.heap[N]? = some (.cells (evc e) 23 (0, 0))
  rs : u.heap[N + 1]? = some (.cells (row [0, 0, 0, 0, 0, 0, 0]) 57 (0, 0))
  rw : u.heap[N + 1 + 1]? = some (.cells (row r) 57 (0, 0))
  b : Below N w u
theorem NuW.below {w u v : World} {N : Nat} {e : Ev} {r : List Int} (h : NuW w u N e r) (hb : Below u.heap.size u v) : NuW w v N e r :=
  ⟨heap_below h.ev hb, heap_below h.rs hb, heap_below h.rw hb, h.b.trans (hb.mono (by have := heap_lt h.ev; omega))⟩
theorem NuW.set {w u : World} {N : Nat} {e : Ev} {r : List Int} (h : NuW w u N e r) (i : Nat) (x : Int) : NuW w (u.setCell ⟨N + 1 + 1, i, none⟩ (.int .i64 x)) N e (r.set i x) := by
  have K := (KB.refl (N + 1 + 1) u).setCell i (.int .i64 x)
  exact ⟨K.heap h.ev (by omega), K.heap h.rs (by omega), (Ba.heap_setCell_same h.rw _).trans (by rw [row_set]), h.b.setCell (p := ⟨N + 1 + 1, i, none⟩) (by show N ≤ N + 1 + 1; omega) _⟩
theorem NuW.start (w : World) (e : Ev) : NuW w (((w.alloc (.cells (evc e) 23)).alloc (.cells (row [0, 0, 0, 0, 0, 0, 0]) 57)).alloc (.cells (row [e.k, 0, 0, 0, 0, 0, 0]) 57)) w.heap.size e [e.k, 0, 0, 0, 0, 0, 0] := by
  have s1 := World.size_alloc w (.cells (evc e) 23)
  refine ⟨heap_below (heap_new _ _) (btr (below_alloc _ _) (below_alloc _ _)), heap_below (heap_new2 _ _ _) (below_alloc _ _), ?_, btr (btr (below_alloc _ _) (below_alloc _ _)) (below_alloc _ _)⟩
  have q := heap_new2 (w.alloc (.cells (evc e) 23)) (.cells (row [0, 0, 0, 0, 0, 0, 0]) 57) (.cells (row [e.k, 0, 0, 0, 0, 0, 0]) 57)
  rw [s1] at q
  exact q
/-- the row behind j fields -/
def nst (e : Ev) (j : Nat) : List Int := e.k :: (((fl e).take j).map (· + 1) ++ List.replicate (6 - j) 0)
set_option maxRecDepth 100000 in
set_option maxHeartbeats 3200000 in
theorem numbers_any (e : Ev) (w : World) (hb : ∀ x ∈ fl e, -1 ≤ x ∧ x ≤ 2199023255552) :
    Calls Try.prog 22 #[evv e] w fun r w' => r = .returned (.agg (row (nm e))) ∧ Below w.heap.size w w' := by
  have S1 := hide (NuW.start w e)
  have FI := hide fun u (h : EAt u w.heap.size e) => fields_any w.heap.size e u h
  have hg := hb e.g (by simp [fl])
  have hc := hb e.c (by simp [fl])
  have ha := hb e.a (by simp [fl])
  have hv := hb e.v (by simp [fl])
  have hm := hb e.m (by simp [fl])
  clear hb
  have HF : Hid (nst e 0 = [e.k, 0, 0, 0, 0, 0, 0] ∧ nst e 1 = [e.k, e.g + 1, 0, 0, 0, 0, 0] ∧ nst e 2 = [e.k, e.g + 1, e.c + 1, 0, 0, 0, 0] ∧ nst e 3 = [e.k, e.g + 1, e.c + 1, e.a + 1, 0, 0, 0] ∧ nst e 4 = [e.k, e.g + 1, e.c + 1, e.a + 1, e.v + 1, 0, 0] ∧ nst e 5 = [e.k, e.g + 1, e.c + 1, e.a + 1, e.v + 1, e.m + 1, 0]) := ⟨rfl, rfl, rfl, rfl, rfl, rfl⟩
  have NM : Hid (nm e = [e.k, e.g + 1, e.c + 1, e.a + 1, e.v + 1, e.m + 1, (if e.s = true then 1 else 0) + (if e.o = true then 2 else 0)]) := rfl
  generalize nm e = nme at NM ⊢
  obtain ⟨k, g, c, a, v, m, s, o⟩ := e
  simp only at hg hc ha hv hm HF NM
  unfold evv evc
  have S1' : Hid (NuW w (((w.alloc (.cells #[.int .i64 k, .int .i64 g, .int .i64 c, .int .i64 a, .int .i64 v, .int .i64 m, .bool s, .bool o] 23)).alloc (.cells #[.int .i64 0, .int .i64 0, .int .i64 0, .int .i64 0, .int .i64 0, .int .i64 0, .int .i64 0] 57)).alloc (.cells #[.int .i64 k, .int .i64 0, .int .i64 0, .int .i64 0, .int .i64 0, .int .i64 0, .int .i64 0] 57)) w.heap.size ⟨k, g, c, a, v, m, s, o⟩ (nst ⟨k, g, c, a, v, m, s, o⟩ 0)) := S1.out
  clear S1
  generalize nst ⟨k, g, c, a, v, m, s, o⟩ = ns at HF S1'
  go_enter Try.func22, Try.ntmps22
  go_wp2_with fail
  generalize ((w.alloc (.cells #[.int .i64 k, .int .i64 g, .int .i64 c, .int .i64 a, .int .i64 v, .int .i64 m, .bool s, .bool o] 23)).alloc (.cells #[.int .i64 0, .int .i64 0, .int .i64 0, .int .i64 0, .int .i64 0, .int .i64 0, .int .i64 0] 57)).alloc (.cells #[.int .i64 k, .int .i64 0, .int .i64 0, .int .i64 0, .int .i64 0, .int .i64 0, .int .i64 0] 57) = W at S1' ⊢
  generalize hN : w.heap.size = N at S1' FI ⊢
  have HN := hide hN
  clear hN
  refine (FI.out _ S1'.out.ev).mono ?_
  rintro r w4 ⟨rfl, b4⟩
  have S4 := hide (S1'.out.below b4)
  clear b4 S1' FI
  go_wp2_with fail
  go_loopw [10] (fun i wr => ∃ j : Nat, j ≤ 5 ∧ i = .int .i64 j ∧ NuW w wr N ⟨k, g, c, a, v, m, s, o⟩ (ns j)) (fun i _ => 5 - (intOf i).toNat)
  case atStart => exact ⟨0, Nat.zero_le _, rfl, S4.out⟩
  case round =>
    clear S4
    obtain ⟨j, hj, rfl, s5⟩ := hrel
    have S5 := hide s5
    clear s5
    have hjj : j = 0 ∨ j = 1 ∨ j = 2 ∨ j = 3 ∨ j = 4 ∨ j = 5 := by omega
    rcases hjj with rfl | rfl | rfl | rfl | rfl | rfl
    · have hix : ∀ u, (Instr.index 71 (.agg #[.pointer (some ⟨N, 1, none⟩), .pointer (some ⟨N, 2, none⟩), .pointer (some ⟨N, 3, none⟩), .pointer (some ⟨N, 4, none⟩), .pointer (some ⟨N, 5, none⟩)]) (.int .i64 0)).run Try.prog u = .ok (.pointer (some ⟨N, 1, none⟩)) u := fun _ => by kernel_rfl
      have x0 : wr.cell? ⟨N, 1, none⟩ = some (.int .i64 g) := cell_of S5.out.ev 1
      rw [HF.out.1] at S5
      have r0 : wr.cell? ⟨N + 1 + 1, 1, none⟩ = some (.int .i64 0) := cell_of S5.out.rw 1
      have z0 := frozen_of S5.out.rw 1
      have S6 : Hid (NuW w (wr.setCell ⟨N + 1 + 1, 1, none⟩ (.int .i64 (g + 1))) N ⟨k, g, c, a, v, m, s, o⟩ (ns 1)) := by
        show NuW _ _ _ _ _
        rw [HF.out.2.1]
        exact S5.out.set 1 (g + 1)
      go_wp2_with fail
      go_roundw
      case rel => exact ⟨1, by decide, by go_num, S6.out⟩
      case measure => simp [intOf]
    · have hix : ∀ u, (Instr.index 71 (.agg #[.pointer (some ⟨N, 1, none⟩), .pointer (some ⟨N, 2, none⟩), .pointer (some ⟨N, 3, none⟩), .pointer (some ⟨N, 4, none⟩), .pointer (some ⟨N, 5, none⟩)]) (.int .i64 1)).run Try.prog u = .ok (.pointer (some ⟨N, 2, none⟩)) u := fun _ => by kernel_rfl
      have x0 : wr.cell? ⟨N, 2, none⟩ = some (.int .i64 c) := cell_of S5.out.ev 2
      rw [HF.out.2.1] at S5
      have r0 : wr.cell? ⟨N + 1 + 1, 2, none⟩ = some (.int .i64 0) := cell_of S5.out.rw 2
      have z0 := frozen_of S5.out.rw 2
      have S6 : Hid (NuW w (wr.setCell ⟨N + 1 + 1, 2, none⟩ (.int .i64 (c + 1))) N ⟨k, g, c, a, v, m, s, o⟩ (ns 2)) := by
        show NuW _ _ _ _ _
        rw [HF.out.2.2.1]
        exact S5.out.set 2 (c + 1)
      go_wp2_with fail
      go_roundw
      case rel => exact ⟨2, by decide, by go_num, S6.out⟩
      case measure => simp [intOf]
    · have hix : ∀ u, (Instr.index 71 (.agg #[.pointer (some ⟨N, 1, none⟩), .pointer (some ⟨N, 2, none⟩), .pointer (some ⟨N, 3, none⟩), .pointer (some ⟨N, 4, none⟩), .pointer (some ⟨N, 5, none⟩)]) (.int .i64 2)).run Try.prog u = .ok (.pointer (some ⟨N, 3, none⟩)) u := fun _ => by kernel_rfl
      have x0 : wr.cell? ⟨N, 3, none⟩ = some (.int .i64 a) := cell_of S5.out.ev 3
      rw [HF.out.2.2.1] at S5
      have r0 : wr.cell? ⟨N + 1 + 1, 3, none⟩ = some (.int .i64 0) := cell_of S5.out.rw 3
      have z0 := frozen_of S5.out.rw 3
      have S6 : Hid (NuW w (wr.setCell ⟨N + 1 + 1, 3, none⟩ (.int .i64 (a + 1))) N ⟨k, g, c, a, v, m, s, o⟩ (ns 3)) := by
        show NuW _ _ _ _ _
        rw [HF.out.2.2.2.1]
        exact S5.out.set 3 (a + 1)
      go_wp2_with fail
      go_roundw
      case rel => exact ⟨3, by decide, by go_num, S6.out⟩
      case measure => simp [intOf]
    · have hix : ∀ u, (Instr.index 71 (.agg #[.pointer (some ⟨N, 1, none⟩), .pointer (some ⟨N, 2, none⟩), .pointer (some ⟨N, 3, none⟩), .pointer (some ⟨N, 4, none⟩), .pointer (some ⟨N, 5, none⟩)]) (.int .i64 3)).run Try.prog u = .ok (.pointer (some ⟨N, 4, none⟩)) u := fun _ => by kernel_rfl
      have x0 : wr.cell? ⟨N, 4, none⟩ = some (.int .i64 v) := cell_of S5.out.ev 4
      rw [HF.out.2.2.2.1] at S5
      have r0 : wr.cell? ⟨N + 1 + 1, 4, none⟩ = some (.int .i64 0) := cell_of S5.out.rw 4
      have z0 := frozen_of S5.out.rw 4
      have S6 : Hid (NuW w (wr.setCell ⟨N + 1 + 1, 4, none⟩ (.int .i64 (v + 1))) N ⟨k, g, c, a, v, m, s, o⟩ (ns 4)) := by
        show NuW _ _ _ _ _
        rw [HF.out.2.2.2.2.1]
        exact S5.out.set 4 (v + 1)
      go_wp2_with fail
      go_roundw
      case rel => exact ⟨4, by decide, by go_num, S6.out⟩
      case measure => simp [intOf]
    · have hix : ∀ u, (Instr.index 71 (.agg #[.pointer (some ⟨N, 1, none⟩), .pointer (some ⟨N, 2, none⟩), .pointer (some ⟨N, 3, none⟩), .pointer (some ⟨N, 4, none⟩), .pointer (some ⟨N, 5, none⟩)]) (.int .i64 4)).run Try.prog u = .ok (.pointer (some ⟨N, 5, none⟩)) u := fun _ => by kernel_rfl
      have x0 : wr.cell? ⟨N, 5, none⟩ = some (.int .i64 m) := cell_of S5.out.ev 5
      rw [HF.out.2.2.2.2.1] at S5
      have r0 : wr.cell? ⟨N + 1 + 1, 5, none⟩ = some (.int .i64 0) := cell_of S5.out.rw 5
      have z0 := frozen_of S5.out.rw 5
      have S6 : Hid (NuW w (wr.setCell ⟨N + 1 + 1, 5, none⟩ (.int .i64 (m + 1))) N ⟨k, g, c, a, v, m, s, o⟩ (ns 5)) := by
        show NuW _ _ _ _ _
        rw [HF.out.2.2.2.2.2]
        exact S5.out.set 5 (m + 1)
      go_wp2_with fail
      go_roundw
      case rel => exact ⟨5, by decide, by go_num, S6.out⟩
      case measure => simp [intOf]
    · rw [HF.out.2.2.2.2.2] at S5
      have y6 : wr.cell? ⟨N, 6, none⟩ = some (.bool s) := cell_of S5.out.ev 6
      have y7 : wr.cell? ⟨N, 7, none⟩ = some (.bool o) := cell_of S5.out.ev 7
      have r0 : wr.cell? ⟨N + 1 + 1, 0, none⟩ = some (.int .i64 k) := cell_of S5.out.rw 0
      have r1 : wr.cell? ⟨N + 1 + 1, 1, none⟩ = some (.int .i64 (g + 1)) := cell_of S5.out.rw 1
      have r2 : wr.cell? ⟨N + 1 + 1, 2, none⟩ = some (.int .i64 (c + 1)) := cell_of S5.out.rw 2
      have r3 : wr.cell? ⟨N + 1 + 1, 3, none⟩ = some (.int .i64 (a + 1)) := cell_of S5.out.rw 3
      have r4 : wr.cell? ⟨N + 1 + 1, 4, none⟩ = some (.int .i64 (v + 1)) := cell_of S5.out.rw 4
      have r5 : wr.cell? ⟨N + 1 + 1, 5, none⟩ = some (.int .i64 (m + 1)) := cell_of S5.out.rw 5
      have r6 : wr.cell? ⟨N + 1 + 1, 6, none⟩ = some (.int .i64 0) := cell_of S5.out.rw 6
      have z6 := frozen_of S5.out.rw 6
      have t0 : wr.cell? ⟨N + 1, 0, none⟩ = some (.int .i64 0) := cell_of S5.out.rs 0
      have t1 : wr.cell? ⟨N + 1, 1, none⟩ = some (.int .i64 0) := cell_of S5.out.rs 1
      have t2 : wr.cell? ⟨N + 1, 2, none⟩ = some (.int .i64 0) := cell_of S5.out.rs 2
      have t3 : wr.cell? ⟨N + 1, 3, none⟩ = some (.int .i64 0) := cell_of S5.out.rs 3
      have t4 : wr.cell? ⟨N + 1, 4, none⟩ = some (.int .i64 0) := cell_of S5.out.rs 4
      have t5 : wr.cell? ⟨N + 1, 5, none⟩ = some (.int .i64 0) := cell_of S5.out.rs 5
      have t6 : wr.cell? ⟨N + 1, 6, none⟩ = some (.int .i64 0) := cell_of S5.out.rs 6
      have f0 := frozen_of S5.out.rs 0
      have f1 := frozen_of S5.out.rs 1
      have f2 := frozen_of S5.out.rs 2
      have f3 := frozen_of S5.out.rs 3
      have f4 := frozen_of S5.out.rs 4
      have f5 := frozen_of S5.out.rs 5
      have f6 := frozen_of S5.out.rs 6
      cases s
      · cases o
        · obtain rfl := NM.out
          go_wp2_with fail
          exact bodyPost_ret (results_row1 Try.results22 _ _ _ _ rfl (loadVar_row (sev_set (z := [0, 0, 0, 0, 0, 0, 0]) rfl S5.out.rs _ _ _ _ _ _ _) rfl)) rfl ⟨rfl, by rw [HN.out]; exact sev_below S5.out.b (Nat.le_succ _) _ _ _ _ _ _ _⟩
        · obtain rfl := NM.out
          have S6 := hide (S5.out.set 6 2)
          go_wp2_with fail
          exact bodyPost_ret (results_row1 Try.results22 _ _ _ _ rfl (loadVar_row (sev_set (z := [0, 0, 0, 0, 0, 0, 0]) rfl S6.out.rs _ _ _ _ _ _ _) rfl)) rfl ⟨rfl, by rw [HN.out]; exact sev_below S6.out.b (Nat.le_succ _) _ _ _ _ _ _ _⟩
      · cases o
        · obtain rfl := NM.out
          have S6 := hide (S5.out.set 6 1)
          go_wp2_with fail
          exact bodyPost_ret (results_row1 Try.results22 _ _ _ _ rfl (loadVar_row (sev_set (z := [0, 0, 0, 0, 0, 0, 0]) rfl S6.out.rs _ _ _ _ _ _ _) rfl)) rfl ⟨rfl, by rw [HN.out]; exact sev_below S6.out.b (Nat.le_succ _) _ _ _ _ _ _ _⟩
        · obtain rfl := NM.out
          have S6 := hide ((S5.out.set 6 1).set 6 3)
          go_wp2_with fail
          exact bodyPost_ret (results_row1 Try.results22 _ _ _ _ rfl (loadVar_row (sev_set (z := [0, 0, 0, 0, 0, 0, 0]) rfl S6.out.rs _ _ _ _ _ _ _) rfl)) rfl ⟨rfl, by rw [HN.out]; exact sev_below S6.out.b (Nat.le_succ _) _ _ _ _ _ _ _⟩
end En
end Go.Proofs.Ytlcaelfkgillmaa
