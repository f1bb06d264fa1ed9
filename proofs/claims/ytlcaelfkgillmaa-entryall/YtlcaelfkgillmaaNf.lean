/- Package entry: event, over this seat's program. -/
import Derived.Test.YtlcaelfkgillmaaNe
namespace Go.Proofs.Ytlcaelfkgillmaa
open Go.ChangeShapes Go.WideShapes Go.ChangeAt Go.RowKit
namespace En
open Ba Re

theorem and1 (n : Nat) (h : n ≤ 1099511627776) : bits .and .i64 (n : Int) 1 = ((n % 2 : Nat) : Int) := by
  have h1 : (BitVec.ofInt 64 (n : Int)).toNat = n := ofInt_u64 _ (by omega)
  show IntKind.i64.wrap ((BitVec.ofInt 64 (n : Int) &&& BitVec.ofInt 64 1).toNat : Int) = _
  rw [BitVec.toNat_and, h1, show (BitVec.ofInt 64 1).toNat = 1 from rfl, Nat.and_one_is_mod, IntKind.wrap_i64]
  omega
theorem and2n (n : Nat) : n &&& 2 = 2 * (n / 2 % 2) := by
  have h1 : (n &&& 2) / 2 = n / 2 % 2 := by
    rw [Nat.and_div_two]
    exact Nat.and_one_is_mod _
  have h2 : (n &&& 2) % 2 = 0 := by
    have := Nat.and_mod_two_pow (a := n) (b := 2) (n := 1)
    simpa using this
  omega
theorem and2 (n : Nat) (h : n ≤ 1099511627776) : bits .and .i64 (n : Int) 2 = ((2 * (n / 2 % 2) : Nat) : Int) := by
  have h1 : (BitVec.ofInt 64 (n : Int)).toNat = n := ofInt_u64 _ (by omega)
  show IntKind.i64.wrap ((BitVec.ofInt 64 (n : Int) &&& BitVec.ofInt 64 2).toNat : Int) = _
  rw [BitVec.toNat_and, h1, show (BitVec.ofInt 64 2).toNat = 2 from rfl, and2n, IntKind.wrap_i64]
  omega
/-- the event that numbers tell -/
def evn (t0 t1 t2 t3 t4 t5 : Int) (n : Nat) : Ev := ⟨t0, t1 - 1, t2 - 1, t3 - 1, t4 - 1, t5 - 1, n % 2 == 1, n / 2 % 2 == 1⟩
theorem eig_set {w : World} {b : Nat} {e : Ev} {t : TypeId} (h : w.heap[b]? = some (.cells (evc e) t (0, 0))) (u0 u1 u2 u3 u4 u5 u6 u7 : Value) : (((((((((w.setCell ⟨b, 0, none⟩ (u0)).setCell ⟨b, 1, none⟩ (u1)).setCell ⟨b, 2, none⟩ (u2)).setCell ⟨b, 3, none⟩ (u3)).setCell ⟨b, 4, none⟩ (u4)).setCell ⟨b, 5, none⟩ (u5)).setCell ⟨b, 6, none⟩ (u6)).setCell ⟨b, 7, none⟩ (u7))).heap[b]? = some (.cells #[u0, u1, u2, u3, u4, u5, u6, u7] t (0, 0)) := by
  have q := (Ba.heap_setCell_same (i := 7) (Ba.heap_setCell_same (i := 6) (Ba.heap_setCell_same (i := 5) (Ba.heap_setCell_same (i := 4) (Ba.heap_setCell_same (i := 3) (Ba.heap_setCell_same (i := 2) (Ba.heap_setCell_same (i := 1) (Ba.heap_setCell_same (i := 0) h u0) u1) u2) u3) u4) u5) u6) u7)
  simp only [evc, List.setIfInBounds_toArray, List.set_cons_zero, List.set_cons_succ] at q
  exact q
theorem eig_below {n : Nat} {w v : World} {b : Nat} (h : Below n w v) (hb : n ≤ b) (u0 u1 u2 u3 u4 u5 u6 u7 : Value) : Below n w (((((((((v.setCell ⟨b, 0, none⟩ (u0)).setCell ⟨b, 1, none⟩ (u1)).setCell ⟨b, 2, none⟩ (u2)).setCell ⟨b, 3, none⟩ (u3)).setCell ⟨b, 4, none⟩ (u4)).setCell ⟨b, 5, none⟩ (u5)).setCell ⟨b, 6, none⟩ (u6)).setCell ⟨b, 7, none⟩ (u7))) :=
  ((((((((h.setCell (p := ⟨b, 0, none⟩) hb u0).setCell (p := ⟨b, 1, none⟩) hb u1).setCell (p := ⟨b, 2, none⟩) hb u2).setCell (p := ⟨b, 3, none⟩) hb u3).setCell (p := ⟨b, 4, none⟩) hb u4).setCell (p := ⟨b, 5, none⟩) hb u5).setCell (p := ⟨b, 6, none⟩) hb u6).setCell (p := ⟨b, 7, none⟩) hb u7)
def e0 : Ev := ⟨0, 0, 0, 0, 0, 0, false, false⟩
/-- what event holds in memory: the numbers, the result, the event under way -/
structure EvW (w u : World) (N : Nat) (r : List Int) (e : Ev) : Prop where
  tl : u.heap[N]? = some (.cells (row r) 57 (0, 0))
  rs : u.heap[N + 1]? = some (.cells (evc e0) 23 (0, 0))
  ev : u.heap[N + 1 + 1]? = some (.cells (evc e) 23 (0, 0))
  b : Below N w u
theorem EvW.below {w u v : World} {N : Nat} {e : Ev} {r : List Int} (h : EvW w u N r e) (hb : Below u.heap.size u v) : EvW w v N r e :=
  ⟨heap_below h.tl hb, heap_below h.rs hb, heap_below h.ev hb, h.b.trans (hb.mono (by have := heap_lt h.tl; omega))⟩
theorem EvW.set {w u : World} {N : Nat} {e e' : Ev} {r : List Int} (h : EvW w u N r e) (i : Nat) (x : Value) (he : (evc e).setIfInBounds i x = evc e') : EvW w (u.setCell ⟨N + 1 + 1, i, none⟩ x) N r e' := by
  have K := (KB.refl (N + 1 + 1) u).setCell i x
  exact ⟨K.heap h.tl (by omega), K.heap h.rs (by omega), (Ba.heap_setCell_same h.ev _).trans (by rw [he]), h.b.setCell (p := ⟨N + 1 + 1, i, none⟩) (by show N ≤ N + 1 + 1; omega) _⟩
theorem EvW.start (w : World) (r : List Int) (t0 : Int) : EvW w (((w.alloc (.cells (row r) 57)).alloc (.cells (evc e0) 23)).alloc (.cells (evc ⟨t0, 0, 0, 0, 0, 0, false, false⟩) 23)) w.heap.size r ⟨t0, 0, 0, 0, 0, 0, false, false⟩ := by
  have s1 := World.size_alloc w (.cells (row r) 57)
  refine ⟨heap_below (heap_new _ _) (btr (below_alloc _ _) (below_alloc _ _)), heap_below (heap_new2 _ _ _) (below_alloc _ _), ?_, btr (btr (below_alloc _ _) (below_alloc _ _)) (below_alloc _ _)⟩
  have q := heap_new2 (w.alloc (.cells (row r) 57)) (.cells (evc e0) 23) (.cells (evc ⟨t0, 0, 0, 0, 0, 0, false, false⟩) 23)
  rw [s1] at q
  exact q
/-- the event behind j fields -/
def est (t0 t1 t2 t3 t4 t5 : Int) (j : Nat) : Ev := ⟨t0, if 0 < j then t1 - 1 else 0, if 1 < j then t2 - 1 else 0, if 2 < j then t3 - 1 else 0, if 3 < j then t4 - 1 else 0, if 4 < j then t5 - 1 else 0, false, false⟩
set_option maxRecDepth 100000 in
set_option maxHeartbeats 3200000 in
theorem event_any (t0 t1 t2 t3 t4 t5 : Int) (n : Nat) (w : World) (hn : n ≤ 1099511627776) (h1 : 0 ≤ t1 ∧ t1 ≤ 1099511627776) (h2 : 0 ≤ t2 ∧ t2 ≤ 1099511627776) (h3 : 0 ≤ t3 ∧ t3 ≤ 1099511627776) (h4 : 0 ≤ t4 ∧ t4 ≤ 1099511627776) (h5 : 0 ≤ t5 ∧ t5 ≤ 1099511627776) :
    Calls Try.prog 33 #[.agg (row [t0, t1, t2, t3, t4, t5, (n : Int)])] w fun r w' => r = .returned (evv (evn t0 t1 t2 t3 t4 t5 n)) ∧ Below w.heap.size w w' := by
  have S1 := hide (EvW.start w [t0, t1, t2, t3, t4, t5, (n : Int)] t0)
  have FI := hide fun u (h : EAt u (w.heap.size + 1 + 1) (est t0 t1 t2 t3 t4 t5 0)) => fields_any (w.heap.size + 1 + 1) _ u h
  have A1 := and1 n hn
  have A2 := and2 n hn
  have HE : Hid (evv (evn t0 t1 t2 t3 t4 t5 n) = .agg #[.int .i64 t0, .int .i64 (t1 - 1), .int .i64 (t2 - 1), .int .i64 (t3 - 1), .int .i64 (t4 - 1), .int .i64 (t5 - 1), .bool (n % 2 == 1), .bool (n / 2 % 2 == 1)]) := rfl
  have HF : Hid (est t0 t1 t2 t3 t4 t5 0 = ⟨t0, 0, 0, 0, 0, 0, false, false⟩ ∧ est t0 t1 t2 t3 t4 t5 1 = ⟨t0, t1 - 1, 0, 0, 0, 0, false, false⟩ ∧ est t0 t1 t2 t3 t4 t5 2 = ⟨t0, t1 - 1, t2 - 1, 0, 0, 0, false, false⟩ ∧ est t0 t1 t2 t3 t4 t5 3 = ⟨t0, t1 - 1, t2 - 1, t3 - 1, 0, 0, false, false⟩ ∧ est t0 t1 t2 t3 t4 t5 4 = ⟨t0, t1 - 1, t2 - 1, t3 - 1, t4 - 1, 0, false, false⟩ ∧ est t0 t1 t2 t3 t4 t5 5 = ⟨t0, t1 - 1, t2 - 1, t3 - 1, t4 - 1, t5 - 1, false, false⟩) := ⟨rfl, rfl, rfl, rfl, rfl, rfl⟩
  have O1 : Hid (((n % 2 : Nat) : Int) ≠ 0 ↔ (n % 2 == 1) = true) := by show _ ↔ _; simp; omega
  have O2 : Hid (((2 * (n / 2 % 2) : Nat) : Int) ≠ 0 ↔ (n / 2 % 2 == 1) = true) := by show _ ↔ _; simp; omega
  generalize evv (evn t0 t1 t2 t3 t4 t5 n) = rr at HE ⊢
  obtain rfl := HE.out
  clear HE
  rw [show (EvW w _ w.heap.size [t0, t1, t2, t3, t4, t5, (n : Int)] ⟨t0, 0, 0, 0, 0, 0, false, false⟩) = EvW w _ w.heap.size [t0, t1, t2, t3, t4, t5, (n : Int)] (est t0 t1 t2 t3 t4 t5 0) from rfl] at S1
  generalize est t0 t1 t2 t3 t4 t5 = es at HF S1 FI
  simp only [evc, row, List.map_cons, List.map_nil, e0] at S1 ⊢
  generalize (n % 2 == 1) = bs1 at O1 ⊢
  generalize (n / 2 % 2 == 1) = bs2 at O2 ⊢
  generalize ((n % 2 : Nat) : Int) = m1 at A1 O1
  generalize ((2 * (n / 2 % 2) : Nat) : Int) = m2 at A2 O2
  have hn0 : (0 : Int) ≤ (n : Int) := Int.natCast_nonneg _
  have hn1 : (n : Int) ≤ 1099511627776 := by omega
  clear hn
  generalize (n : Int) = t6 at S1 A1 A2 hn0 hn1 ⊢
  have d1 : (m1 != 0) = bs1 := by
    have := O1.out
    cases bs1
    · simp at this; simp [this]
    · simp at this; simp [this]
  have d2 : (m2 != 0) = bs2 := by
    have := O2.out
    cases bs2
    · simp at this; simp [this]
    · simp at this; simp [this]
  clear O1 O2
  go_enter Try.func33, Try.ntmps33
  go_wp2_with fail
  generalize ((w.alloc (.cells #[.int .i64 t0, .int .i64 t1, .int .i64 t2, .int .i64 t3, .int .i64 t4, .int .i64 t5, .int .i64 t6] 57)).alloc (.cells #[.int .i64 0, .int .i64 0, .int .i64 0, .int .i64 0, .int .i64 0, .int .i64 0, .bool false, .bool false] 23)).alloc (.cells #[.int .i64 t0, .int .i64 0, .int .i64 0, .int .i64 0, .int .i64 0, .int .i64 0, .bool false, .bool false] 23) = W at S1 ⊢
  generalize hN : w.heap.size = N at S1 FI ⊢
  have HN := hide hN
  clear hN
  refine (FI.out _ S1.out.ev).mono ?_
  rintro r w4 ⟨rfl, b4⟩
  have S4 := hide (S1.out.below b4)
  clear b4 S1 FI
  go_wp2_with fail
  go_loopw [11] (fun i wr => ∃ j : Nat, j ≤ 5 ∧ i = .int .i64 j ∧ EvW w wr N [t0, t1, t2, t3, t4, t5, t6] (es j)) (fun i _ => 5 - (intOf i).toNat)
  case atStart => exact ⟨0, Nat.zero_le _, rfl, S4.out⟩
  case round =>
    clear S4
    obtain ⟨j, hj, rfl, s5⟩ := hrel
    have S5 := hide s5
    clear s5
    have hjj : j = 0 ∨ j = 1 ∨ j = 2 ∨ j = 3 ∨ j = 4 ∨ j = 5 := by omega
    rcases hjj with rfl | rfl | rfl | rfl | rfl | rfl
    · have hix : ∀ u, (Instr.index 71 (.agg #[.pointer (some ⟨N + 1 + 1, 1, none⟩), .pointer (some ⟨N + 1 + 1, 2, none⟩), .pointer (some ⟨N + 1 + 1, 3, none⟩), .pointer (some ⟨N + 1 + 1, 4, none⟩), .pointer (some ⟨N + 1 + 1, 5, none⟩)]) (.int .i64 0)).run Try.prog u = .ok (.pointer (some ⟨N + 1 + 1, 1, none⟩)) u := fun _ => by kernel_rfl
      have x0 : wr.cell? ⟨N, 1, none⟩ = some (.int .i64 t1) := cell_of S5.out.tl 1
      rw [HF.out.1] at S5
      have r0 : wr.cell? ⟨N + 1 + 1, 1, none⟩ = some (.int .i64 0) := cell_of S5.out.ev 1
      have z0 := frozen_of S5.out.ev 1
      have S6 : Hid (EvW w (wr.setCell ⟨N + 1 + 1, 1, none⟩ (.int .i64 (t1 - 1))) N [t0, t1, t2, t3, t4, t5, t6] (es 1)) := by
        show EvW _ _ _ _ _
        rw [HF.out.2.1]
        exact S5.out.set 1 (.int .i64 (t1 - 1)) rfl
      go_wp2_with fail
      go_roundw
      case rel => exact ⟨1, by decide, by go_num, S6.out⟩
      case measure => simp [intOf]
    · have hix : ∀ u, (Instr.index 71 (.agg #[.pointer (some ⟨N + 1 + 1, 1, none⟩), .pointer (some ⟨N + 1 + 1, 2, none⟩), .pointer (some ⟨N + 1 + 1, 3, none⟩), .pointer (some ⟨N + 1 + 1, 4, none⟩), .pointer (some ⟨N + 1 + 1, 5, none⟩)]) (.int .i64 1)).run Try.prog u = .ok (.pointer (some ⟨N + 1 + 1, 2, none⟩)) u := fun _ => by kernel_rfl
      have x0 : wr.cell? ⟨N, 2, none⟩ = some (.int .i64 t2) := cell_of S5.out.tl 2
      rw [HF.out.2.1] at S5
      have r0 : wr.cell? ⟨N + 1 + 1, 2, none⟩ = some (.int .i64 0) := cell_of S5.out.ev 2
      have z0 := frozen_of S5.out.ev 2
      have S6 : Hid (EvW w (wr.setCell ⟨N + 1 + 1, 2, none⟩ (.int .i64 (t2 - 1))) N [t0, t1, t2, t3, t4, t5, t6] (es 2)) := by
        show EvW _ _ _ _ _
        rw [HF.out.2.2.1]
        exact S5.out.set 2 (.int .i64 (t2 - 1)) rfl
      go_wp2_with fail
      go_roundw
      case rel => exact ⟨2, by decide, by go_num, S6.out⟩
      case measure => simp [intOf]
    · have hix : ∀ u, (Instr.index 71 (.agg #[.pointer (some ⟨N + 1 + 1, 1, none⟩), .pointer (some ⟨N + 1 + 1, 2, none⟩), .pointer (some ⟨N + 1 + 1, 3, none⟩), .pointer (some ⟨N + 1 + 1, 4, none⟩), .pointer (some ⟨N + 1 + 1, 5, none⟩)]) (.int .i64 2)).run Try.prog u = .ok (.pointer (some ⟨N + 1 + 1, 3, none⟩)) u := fun _ => by kernel_rfl
      have x0 : wr.cell? ⟨N, 3, none⟩ = some (.int .i64 t3) := cell_of S5.out.tl 3
      rw [HF.out.2.2.1] at S5
      have r0 : wr.cell? ⟨N + 1 + 1, 3, none⟩ = some (.int .i64 0) := cell_of S5.out.ev 3
      have z0 := frozen_of S5.out.ev 3
      have S6 : Hid (EvW w (wr.setCell ⟨N + 1 + 1, 3, none⟩ (.int .i64 (t3 - 1))) N [t0, t1, t2, t3, t4, t5, t6] (es 3)) := by
        show EvW _ _ _ _ _
        rw [HF.out.2.2.2.1]
        exact S5.out.set 3 (.int .i64 (t3 - 1)) rfl
      go_wp2_with fail
      go_roundw
      case rel => exact ⟨3, by decide, by go_num, S6.out⟩
      case measure => simp [intOf]
    · have hix : ∀ u, (Instr.index 71 (.agg #[.pointer (some ⟨N + 1 + 1, 1, none⟩), .pointer (some ⟨N + 1 + 1, 2, none⟩), .pointer (some ⟨N + 1 + 1, 3, none⟩), .pointer (some ⟨N + 1 + 1, 4, none⟩), .pointer (some ⟨N + 1 + 1, 5, none⟩)]) (.int .i64 3)).run Try.prog u = .ok (.pointer (some ⟨N + 1 + 1, 4, none⟩)) u := fun _ => by kernel_rfl
      have x0 : wr.cell? ⟨N, 4, none⟩ = some (.int .i64 t4) := cell_of S5.out.tl 4
      rw [HF.out.2.2.2.1] at S5
      have r0 : wr.cell? ⟨N + 1 + 1, 4, none⟩ = some (.int .i64 0) := cell_of S5.out.ev 4
      have z0 := frozen_of S5.out.ev 4
      have S6 : Hid (EvW w (wr.setCell ⟨N + 1 + 1, 4, none⟩ (.int .i64 (t4 - 1))) N [t0, t1, t2, t3, t4, t5, t6] (es 4)) := by
        show EvW _ _ _ _ _
        rw [HF.out.2.2.2.2.1]
        exact S5.out.set 4 (.int .i64 (t4 - 1)) rfl
      go_wp2_with fail
      go_roundw
      case rel => exact ⟨4, by decide, by go_num, S6.out⟩
      case measure => simp [intOf]
    · have hix : ∀ u, (Instr.index 71 (.agg #[.pointer (some ⟨N + 1 + 1, 1, none⟩), .pointer (some ⟨N + 1 + 1, 2, none⟩), .pointer (some ⟨N + 1 + 1, 3, none⟩), .pointer (some ⟨N + 1 + 1, 4, none⟩), .pointer (some ⟨N + 1 + 1, 5, none⟩)]) (.int .i64 4)).run Try.prog u = .ok (.pointer (some ⟨N + 1 + 1, 5, none⟩)) u := fun _ => by kernel_rfl
      have x0 : wr.cell? ⟨N, 5, none⟩ = some (.int .i64 t5) := cell_of S5.out.tl 5
      rw [HF.out.2.2.2.2.1] at S5
      have r0 : wr.cell? ⟨N + 1 + 1, 5, none⟩ = some (.int .i64 0) := cell_of S5.out.ev 5
      have z0 := frozen_of S5.out.ev 5
      have S6 : Hid (EvW w (wr.setCell ⟨N + 1 + 1, 5, none⟩ (.int .i64 (t5 - 1))) N [t0, t1, t2, t3, t4, t5, t6] (es 5)) := by
        show EvW _ _ _ _ _
        rw [HF.out.2.2.2.2.2]
        exact S5.out.set 5 (.int .i64 (t5 - 1)) rfl
      go_wp2_with fail
      go_roundw
      case rel => exact ⟨5, by decide, by go_num, S6.out⟩
      case measure => simp [intOf]
    · rw [HF.out.2.2.2.2.2] at S5
      have x6 : wr.cell? ⟨N, 6, none⟩ = some (.int .i64 t6) := cell_of S5.out.tl 6
      have r0 : wr.cell? ⟨N + 1 + 1, 0, none⟩ = some (.int .i64 t0) := cell_of S5.out.ev 0
      have r1 : wr.cell? ⟨N + 1 + 1, 1, none⟩ = some (.int .i64 (t1 - 1)) := cell_of S5.out.ev 1
      have r2 : wr.cell? ⟨N + 1 + 1, 2, none⟩ = some (.int .i64 (t2 - 1)) := cell_of S5.out.ev 2
      have r3 : wr.cell? ⟨N + 1 + 1, 3, none⟩ = some (.int .i64 (t3 - 1)) := cell_of S5.out.ev 3
      have r4 : wr.cell? ⟨N + 1 + 1, 4, none⟩ = some (.int .i64 (t4 - 1)) := cell_of S5.out.ev 4
      have r5 : wr.cell? ⟨N + 1 + 1, 5, none⟩ = some (.int .i64 (t5 - 1)) := cell_of S5.out.ev 5
      have r6 : wr.cell? ⟨N + 1 + 1, 6, none⟩ = some (.bool false) := cell_of S5.out.ev 6
      have r7 : wr.cell? ⟨N + 1 + 1, 7, none⟩ = some (.bool false) := cell_of S5.out.ev 7
      have z6 := frozen_of S5.out.ev 6
      have z7 := frozen_of S5.out.ev 7
      have u0 : wr.cell? ⟨N + 1, 0, none⟩ = some (.int .i64 0) := cell_of S5.out.rs 0
      have u1 : wr.cell? ⟨N + 1, 1, none⟩ = some (.int .i64 0) := cell_of S5.out.rs 1
      have u2 : wr.cell? ⟨N + 1, 2, none⟩ = some (.int .i64 0) := cell_of S5.out.rs 2
      have u3 : wr.cell? ⟨N + 1, 3, none⟩ = some (.int .i64 0) := cell_of S5.out.rs 3
      have u4 : wr.cell? ⟨N + 1, 4, none⟩ = some (.int .i64 0) := cell_of S5.out.rs 4
      have u5 : wr.cell? ⟨N + 1, 5, none⟩ = some (.int .i64 0) := cell_of S5.out.rs 5
      have u6 : wr.cell? ⟨N + 1, 6, none⟩ = some (.bool false) := cell_of S5.out.rs 6
      have u7 : wr.cell? ⟨N + 1, 7, none⟩ = some (.bool false) := cell_of S5.out.rs 7
      have f0 := frozen_of S5.out.rs 0
      have f1 := frozen_of S5.out.rs 1
      have f2 := frozen_of S5.out.rs 2
      have f3 := frozen_of S5.out.rs 3
      have f4 := frozen_of S5.out.rs 4
      have f5 := frozen_of S5.out.rs 5
      have f6 := frozen_of S5.out.rs 6
      have f7 := frozen_of S5.out.rs 7
      have S6 : Hid (EvW w ((wr.setCell ⟨N + 1 + 1, 6, none⟩ (.bool bs1)).setCell ⟨N + 1 + 1, 7, none⟩ (.bool bs2)) N [t0, t1, t2, t3, t4, t5, t6] ⟨t0, t1 - 1, t2 - 1, t3 - 1, t4 - 1, t5 - 1, bs1, bs2⟩) := ((S5.out.set 6 (.bool bs1) (e' := ⟨t0, t1 - 1, t2 - 1, t3 - 1, t4 - 1, t5 - 1, bs1, false⟩) rfl).set 7 (.bool bs2) rfl)
      go_wp2_with fail
      exact bodyPost_ret (results_row1 Try.results33 _ _ _ _ rfl (loadVar_ev (eig_set S6.out.rs _ _ _ _ _ _ _ _) rfl)) rfl ⟨rfl, by rw [HN.out]; exact eig_below S6.out.b (Nat.le_succ _) _ _ _ _ _ _ _ _⟩
end En
end Go.Proofs.Ytlcaelfkgillmaa
